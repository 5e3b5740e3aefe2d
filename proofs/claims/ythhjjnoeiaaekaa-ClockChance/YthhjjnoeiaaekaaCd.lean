/-
  ClockChance: a page that was just touched isn't told as long as there is a frame that is neither pinned nor used; what is told is put to use again behind a Drop.
-/
import Derived.Test.YthhjjnoeiaaekaaCc
import Derived.Test.YthhjjnoeiaaekaaMd
namespace Go.Proofs.Ythhjjnoeiaaekaa
open Go.RowKit

set_option maxRecDepth 20000 in
set_option maxHeartbeats 4000000 in
theorem chance_walk {n : Int} {a0 : Option Addr} {c0 : Nat} {l0 : List OpL} {pg : Int} {w : World} (h : SlO w a0 l0) (hl : l0.length ≤ maxLen) :
    Calls Try.prog 8 #[.int .i64 n, .slice a0 l0.length c0, .int .i64 pg] w fun e w' => e = .returned (.bool true) ∧ Below w.heap.size w w' := by
  go_enter Try.func8, Try.ntmps8
  go_wp2_with fail
  refine Calls.mono (made_any n a0 c0 l0 w h hl) ?_
  rintro e w1 ⟨a, c, r, rfl, hs1, hb1, hz⟩
  clear h hl
  obtain ⟨i0, i1, i2⟩ := al1 w1 (.cells (rgC a c r) 24)
  have hs2 := hs1.below i2
  have hB2 := below_on hb1 i2
  have hwP : w.heap.size ≤ w1.heap.size := hb1.size
  clear hs1 hb1
  go_wp2_with fail
  generalize World.alloc _ _ = W at i0 i1 i2 hs2 hB2 ⊢
  generalize w1.heap.size = P at i0 i1 hwP ⊢
  clear i1 i2
  refine Calls.mono (touch_any a c r pg W hs2 hz.max) ?_
  rintro e w2 ⟨a2, c2, rfl, hs2', hb2⟩
  have HSr := toHid (hs2.below hb2)
  have HB3 := toHid (below_on hB2 hb2)
  have HP3 := toHid (box_in' i0 hb2)
  have hP2 : P < w2.heap.size := (Array.getElem?_eq_some_iff.mp HP3.out).1
  clear hs2 hB2 i0 hb2
  rcases touch_cases r pg with ⟨hne, hat⟩ | ⟨k, hk, hM, hkn, hpg, hpin⟩
  · generalize pinR r pg 0 true = X at hs2' hne ⊢
    obtain ⟨X1, xx⟩ := X
    simp only at hs2' hne ⊢
    have hxx : (xx == 0) = false := by simpa using hne
    obtain ⟨j0, j1, j2⟩ := al1 w2 (.cells (rgC a2 c2 X1) 24)
    have HB4 := toHid (below_on HB3.out j2)
    have HSr4 := toHid (HSr.out.below j2)
    obtain ⟨p0, p1, p2, p3, p4⟩ := cell2 HP3.out
    have hPn : ¬ P = w2.heap.size := by omega
    clear j0 j1 j2 hs2' HB3 HP3 HSr
    go_wp2_with fail
    generalize World.alloc _ _ = W4 at HB4 HSr4 ⊢
    refine Calls.mono (at_any a c r pg W4 HSr4.out hz.max) ?_
    rintro e w5 ⟨rfl, hb5⟩
    rw [hat]
    have HB5 := toHid (below_on HB4.out hb5)
    clear hb5 HB4 HSr4 p0 p1 p2 p3 p4
    go_wp2_with fail
    refine Calls.mono (lives_any w5) ?_
    rintro e w6 ⟨rfl, hb6⟩
    have HB6 := toHid (below_on HB5.out hb6)
    clear hb6 HB5
    go_wp2
    go_ret
    exact ⟨rfl, HB6.out⟩
  · have hXM := pin_may (r := r) (p := pg) (n := 0) (t := true) (by rw [hpin])
    rw [hpin] at hs2' hXM ⊢
    simp only at hs2' hXM ⊢
    have hp0 := (known_iff.1 hkn).1
    obtain ⟨X, hX⟩ : ∃ X, Hid (X = withR r k ⟨r.fr[k].page, true, r.fr[k].pins⟩) := ⟨_, toHid rfl⟩
    have HU : Hid (∃ hk' : k < X.fr.length, X.fr[k].used = true ∧ X.fr[k].page = pg) := by
      have hxe := hX.out
      subst hxe
      exact ⟨by simpa [withR] using hk, by simp [withR], by simpa [withR] using hpg⟩
    rw [← hX.out] at hs2' hXM ⊢
    have HM := toHid hXM
    obtain ⟨j0, j1, j2⟩ := al1 w2 (.cells (rgC a2 c2 X) 24)
    have HB4 := toHid (below_on HB3.out j2)
    have HX4 := toHid j0
    have HSx4 := toHid (hs2'.below j2)
    have hX16 := hXM.most
    have hX1 := hXM.one
    obtain ⟨Q, hQ⟩ : ∃ Q, Q = w2.heap.size := ⟨_, rfl⟩
    clear j0 j1 j2 hs2' HB3 HP3 HSr hpin hz hXM hX hpg hM hk
    obtain ⟨nn, hnn⟩ : ∃ nn, Hid (X.fr.length = nn) := ⟨_, toHid rfl⟩
    have hnn1 : 1 ≤ nn := by have := hnn.out; omega
    have hnn16 : nn ≤ 16 := by have := hnn.out; omega
    go_wp2_with fail
    generalize World.alloc _ _ = W4 at HB4 HX4 HSx4 ⊢
    rw [← hQ] at HX4 ⊢
    obtain ⟨q0, q1, q2, q3, q4⟩ := cell2 HX4.out
    rw [hnn.out] at q0
    clear hQ hX16 hX1
    go_loop [10, 11] (fun ob j => ∃ k : Nat, ∃ b : Bool, k ≤ nn ∧ j = .int .i64 k ∧ ob = .bool b ∧ Hid (b = true → ∃ j, ∃ hj : j < X.fr.length, X.fr[j].pins = 0 ∧ X.fr[j].used = false)) (fun _ j => nn - (intOf j).toNat)
    case atStart => exact ⟨0, false, Nat.zero_le _, rfl, rfl, toHid (by simp)⟩
    case round =>
      obtain ⟨k9, b, hk9, rfl, rfl, HO⟩ := hrel
      by_cases hlt : k9 < nn
      · have hkx : k9 < X.fr.length := by have := hnn.out; omega
        obtain ⟨bx, ox, rfl, hbx, e0, e1, e2⟩ := HSx4.out.at k9 hkx
        cases b with
        | true =>
          go_wp2_with fail
          go_round
          case rel => exact ⟨k9 + 1, true, by omega, by simp, rfl, HO⟩
          case measure => first | omega | (simp only [intOf]; omega)
        | false =>
          by_cases hpz : X.fr[k9].pins = 0
          · have HPZ := toHid hpz
            rw [hpz] at e2
            clear hpz
            cases hu : X.fr[k9].used
            · rw [hu] at e1
              go_wp2_with fail
              go_round
              case rel => exact ⟨k9 + 1, true, by omega, by simp, rfl, toHid fun _ => ⟨k9, hkx, HPZ.out, hu⟩⟩
              case measure => first | omega | (simp only [intOf]; omega)
            · rw [hu] at e1
              go_wp2_with fail
              go_round
              case rel => exact ⟨k9 + 1, false, by omega, by simp, rfl, toHid (by simp)⟩
              case measure => first | omega | (simp only [intOf]; omega)
          · have hpz2 : (X.fr[k9].pins == 0) = false := by simpa using hpz
            go_wp2_with fail
            go_round
            case rel => exact ⟨k9 + 1, false, by omega, by simp, rfl, toHid (by simp)⟩
            case measure => first | omega | (simp only [intOf]; omega)
      · obtain rfl : k9 = nn := by omega
        have hmx : X.fr.length ≤ maxLen := by have := hnn.out; unfold maxLen; omega
        have HN := toHid (next_any a2 c2 X W4 HSx4.out hmx)
        simp only [rgV, rgC] at HN
        rw [hnn.out] at HN
        go_wp2_with fail
        refine Calls.mono HN.out ?_
        rintro e w5 ⟨a5, c5, rfl, hs5, hb5⟩
        have HB5 := toHid (below_on HB4.out hb5)
        have HX5 := toHid (box_in' HX4.out hb5)
        have HSx5 := toHid (HSx4.out.below hb5)
        have hQ5 : Q < w5.heap.size := (Array.getElem?_eq_some_iff.mp HX5.out).1
        clear hb5 HB4 HX4 HSx4 q0 q1 q2 q3 q4 HN
        obtain ⟨q0, q1, q2, q3, q4⟩ := cell2 HX5.out
        rw [hnn.out] at q0
        rcases next_cases X with ⟨-, hx⟩ | ⟨hN, -, hall⟩ | ⟨i, l, h', hN, -, T, hlk⟩
        · exact absurd HM.out hx
        · rw [hN] at hs5 ⊢
          simp only [rgV, rgC, Rg.zero, List.length_nil] at hs5 ⊢
          obtain ⟨j0, j1, j2⟩ := al1 w5 (.cells #[.slice a5 0 c5, .int .i64 0] 24)
          have HB6 := toHid (below_on HB5.out j2)
          have HSx6 := toHid (HSx5.out.below j2)
          have hQn : ¬ Q = w5.heap.size := by omega
          have hlo := toHid (fun W hW => loose_any a2 c2 X W hW (by have := hnn.out; omega))
          simp only [rgV, rgC] at hlo
          rw [hnn.out] at hlo
          clear j0 j1 j2 hs5 HB5 HX5 HSx5
          go_wp2_with fail
          generalize World.alloc _ _ = W6 at HB6 HSx6 ⊢
          refine Calls.mono (hlo.out W6 HSx6.out) ?_
          rintro e w7 ⟨rfl, hb7⟩
          rw [loose_none hall]
          have HB7 := toHid (below_on HB6.out hb7)
          clear hb7 HB6 HSx6 hlo
          go_wp2_with fail
          refine Calls.mono (lives_any w7) ?_
          rintro e w8 ⟨rfl, hb8⟩
          have HB8 := toHid (below_on HB7.out hb8)
          clear hb8 HB7
          go_wp2
          go_ret
          exact ⟨rfl, HB8.out⟩
        · rw [hN] at hs5 ⊢
          simp only at hs5 ⊢
          have hTl := T.lt
          have hTi : i < k9 := by have := hnn.out; omega
          have hIx : i < X.fr.length := hTl
          obtain ⟨j0, j1, j2⟩ := al1 w5 (.cells (rgC a5 c5 ⟨l, (h' : Int)⟩) 24)
          have HB6 := toHid (below_on HB5.out j2)
          have HY6 := toHid j0
          have HSy6 := toHid (hs5.below j2)
          have HYM := toHid (told_may HM.out T)
          have HTA := toHid (fun hp => told_again HM.out T hIx hp)
          have HNP : Hid (b = true → X.fr[i].page ≠ pg) := toHid fun hb e => by
            obtain ⟨j, hj, h1, h2⟩ := HO.out hb
            obtain ⟨hk', hu1, hu2⟩ := HU.out
            have := (look_unused _ _ _ j rfl (by have := HM.out.h1; have := HM.out.h0; omega) hj _ _ _ (by omega) h2 hlk).2
            rw [getD_at hIx] at this
            by_cases eik : i = k
            · subst eik
              rw [hu1] at this
              simp at this
            · exact HM.out.fir hk' hu2 (by omega) i hIx eik e
          have hQR : ¬ Q = w5.heap.size := by omega
          obtain ⟨bx, ox, rfl, hbx, e0, e1, e2⟩ := HSx5.out.at i hIx
          have hbR : ¬ bx = w5.heap.size := by omega
          have hi0 : 0 ≤ (i : Int) := by omega
          have hi1 : (i : Int) < (k9 : Int) := by omega
          clear j0 j1 j2 hs5 HB5 HX5 HSx5 T hlk HO HU hN
          obtain ⟨wp, hwp⟩ : ∃ wp, X.fr[i].page = wp := ⟨_, rfl⟩
          rw [hwp] at e0 HTA HNP
          clear hwp
          have hbp : (b && (wp == pg)) = false := by
            cases hb : b
            · rfl
            · have := HNP.out hb
              simpa using this
          have hbp2 : b = true → (wp == pg) = false := fun hb => by have := HNP.out hb; simpa using this
          clear HNP
          by_cases hw0 : wp < 0
          · cases b with
            | true =>
              have hbp3 := hbp2 rfl
              clear hbp hbp2
              go_wp2_with fail
              generalize World.alloc _ _ = W6 at HB6 HY6 HSy6 ⊢
              refine Calls.mono (lives_any W6) ?_
              rintro e w7 ⟨rfl, hb7⟩
              have HB7 := toHid (below_on HB6.out hb7)
              clear hb7 HB6 HY6 HSy6
              go_wp2
              go_ret
              exact ⟨rfl, HB7.out⟩
            | false =>
              clear hbp hbp2
              go_wp2_with fail
              generalize World.alloc _ _ = W6 at HB6 HY6 HSy6 ⊢
              refine Calls.mono (lives_any W6) ?_
              rintro e w7 ⟨rfl, hb7⟩
              have HB7 := toHid (below_on HB6.out hb7)
              clear hb7 HB6 HY6 HSy6
              go_wp2
              go_ret
              exact ⟨rfl, HB7.out⟩
          · obtain ⟨z, hdz, hzM, hza, u, hpu, huM, hua⟩ := HTA.out (by omega)
            have HDZ := toHid hdz
            have HZM := toHid hzM
            have HZA := toHid hza
            have HPU := toHid hpu
            have HUM := toHid huM
            have HUA := toHid hua
            have hw0' : 0 ≤ wp := by omega
            clear hdz hzM hza hpu huM hua HTA hw0
            have hYx : (⟨l, (h' : Int)⟩ : Rg).fr.length ≤ maxLen := by have := HYM.out.most; unfold maxLen; omega
            cases b
            all_goals
              have hbp3 : False ∨ True := .inr trivial
              first
                | (have hbp4 := hbp2 rfl; clear hbp hbp2)
                | clear hbp hbp2
              go_wp2_with fail
              generalize World.alloc _ _ = W6 at HB6 HY6 HSy6 ⊢
              refine Calls.mono (drop_any a5 c5 ⟨l, (h' : Int)⟩ wp W6 HSy6.out hYx) ?_
              rintro e w7 ⟨a7, c7, rfl, hs7, hb7⟩
              rw [HDZ.out] at hs7 ⊢
              simp only at hs7 ⊢
              have HB7 := toHid (below_on HB6.out hb7)
              obtain ⟨j0, j1, j2⟩ := al1 w7 (.cells (rgC a7 c7 z) 24)
              have HB8 := toHid (below_on HB7.out j2)
              have HZ8 := toHid j0
              have HSz8 := toHid (hs7.below j2)
              have hzx : z.fr.length ≤ maxLen := by have := HZM.out.most; unfold maxLen; omega
              clear hb7 hs7 j0 j1 j2 HB6 HY6 HSy6 HB7
              go_wp2_with fail
              generalize World.alloc _ _ = W8 at HB8 HZ8 HSz8 ⊢
              refine Calls.mono (at_any a7 c7 z wp W8 HSz8.out hzx) ?_
              rintro e w9 ⟨rfl, hb9⟩
              rw [HZA.out]
              have HB9 := toHid (below_on HB8.out hb9)
              have HZ9 := toHid (box_in' HZ8.out hb9)
              have HSz9 := toHid (HSz8.out.below hb9)
              clear hb9 HB8 HZ8 HSz8
              obtain ⟨s0, s1, s2, s3, s4⟩ := cell2 HZ9.out
              go_wp2_with fail
              refine Calls.mono (put_any a7 c7 z wp w9 HSz9.out hzx) ?_
              rintro e w10 ⟨a10, c10, rfl, hs10, hb10⟩
              rw [HPU.out] at hs10 ⊢
              simp only at hs10 ⊢
              have HB10 := toHid (below_on HB9.out hb10)
              obtain ⟨j0, j1, j2⟩ := al1 w10 (.cells (rgC a10 c10 u) 24)
              have HB11 := toHid (below_on HB10.out j2)
              have HSu := toHid (hs10.below j2)
              have hux : u.fr.length ≤ maxLen := by have := HUM.out.most; unfold maxLen; omega
              clear hb10 hs10 j0 j1 j2 HB9 HZ9 HSz9 HB10 s0 s1 s2 s3 s4
              go_wp2_with fail
              generalize World.alloc _ _ = W11 at HB11 HSu ⊢
              refine Calls.mono (at_any a10 c10 u wp W11 HSu.out hux) ?_
              rintro e w12 ⟨rfl, hb12⟩
              have HB12 := toHid (below_on HB11.out hb12)
              have hua := HUA.out
              generalize atR u wp = au at hua ⊢
              clear hb12 HB11 HSu
              go_wp2_with fail
              refine Calls.mono (lives_any w12) ?_
              rintro e w13 ⟨rfl, hb13⟩
              have HB13 := toHid (below_on HB12.out hb13)
              clear hb13 HB12
              go_wp2
              go_ret
              exact ⟨rfl, HB13.out⟩
end Go.Proofs.Ythhjjnoeiaaekaa
