/-
  ClockSpares: the frame that is told isn't pinned; pages and pins stay, and nothing gets used; none is told just where all are pinned.
-/
import Derived.Test.YthhjjnoeiaaekaaCb
import Derived.BigQuiet
namespace Go.Proofs.Ythhjjnoeiaaekaa
open Go.RowKit

theorem loose_none {l : List Fr} (h : ∀ j (hj : j < l.length), 0 < l[j].pins) : looseN l = 0 := by
  refine Classical.byContradiction fun e => ?_
  obtain ⟨j, hj, hz⟩ := loose_pos e
  have := h j hj
  omega

theorem rem3 (x y z : Int) (hx : 0 ≤ x) (hy : 1 ≤ y) (hz : x % y = z) (W : World) : (binOp .rem 3 (.int .i64 x) (.int .i64 y)).run Try.prog W = .ok (.int .i64 z) W := by
  have h0 : ¬ y = 0 := by omega
  have h1 : x.tmod y = z := by rw [Int.tmod_eq_emod_of_nonneg hx]; exact hz
  simp [go_sem, h0, h1]

set_option maxRecDepth 20000 in
set_option maxHeartbeats 4000000 in
theorem spares_walk {n : Int} {a0 : Option Addr} {c0 : Nat} {l0 : List OpL} {w : World} (h : SlO w a0 l0) (hl : l0.length ≤ maxLen) :
    Calls Try.prog 6 #[.int .i64 n, .slice a0 l0.length c0] w fun e w' => e = .returned (.bool true) ∧ Below w.heap.size w w' := by
  go_enter Try.func6, Try.ntmps6
  go_wp2_with fail
  refine Calls.mono (made_any n a0 c0 l0 w h hl) ?_
  rintro e w1 ⟨a, c, r, rfl, hs1, hb1, hz⟩
  clear h hl
  obtain ⟨i0, i1, i2⟩ := al1 w1 (.cells (rgC a c r) 24)
  have hs2 := hs1.below i2
  have hB2 := below_on hb1 i2
  have hwP : w.heap.size ≤ w1.heap.size := hb1.size
  clear hs1 hb1
  rcases hz with ⟨hM, -⟩ | ⟨rfl, hn⟩
  · have h16 := hM.most
    have h01 := hM.one
    have hne : ((r.fr.length : Int) == 0) = false := by simp; intro e; simp [e] at h01
    have hmx : r.fr.length ≤ maxLen := by unfold maxLen; omega
    go_wp2_with fail
    generalize World.alloc _ _ = W at i0 i1 i2 hs2 hB2 ⊢
    generalize w1.heap.size = P at i0 i1 hwP ⊢
    clear i1 i2
    refine Calls.mono (next_any a c r W hs2 hmx) ?_
    rintro e w2 ⟨a2, c2, rfl, hs2', hb2⟩
    have HSr := toHid (hs2.below hb2)
    have HB3 := toHid (below_on hB2 hb2)
    have HP3 := toHid (box_in' i0 hb2)
    have hP2 : P < w2.heap.size := (Array.getElem?_eq_some_iff.mp HP3.out).1
    clear hs2 hB2 i0 hb2
    rcases next_cases r with ⟨-, hx⟩ | ⟨hN, -, hall⟩ | ⟨i, l, h', hN, -, T, -⟩
    · exact absurd hM hx
    · rw [hN] at hs2' ⊢
      simp only [rgV, rgC, Rg.zero, List.length_nil] at hs2' ⊢
      obtain ⟨j0, j1, j2⟩ := al1 w2 (.cells #[.slice a2 0 c2, .int .i64 0] 24)
      have HB4 := toHid (below_on HB3.out j2)
      have HP4 := toHid (box_in' HP3.out j2)
      have HSr4 := toHid (HSr.out.below j2)
      obtain ⟨p0, p1, p2, p3, p4⟩ := cell2 HP3.out
      have hPn : ¬ P = w2.heap.size := by omega
      clear j0 j1 j2 hs2' HB3 HP3 HSr
      go_wp2_with fail
      generalize World.alloc _ _ = W4 at HB4 HP4 HSr4 ⊢
      refine Calls.mono (loose_any a c r W4 HSr4.out (by omega)) ?_
      rintro e w5 ⟨rfl, hb5⟩
      rw [loose_none hall]
      have HB5 := toHid (below_on HB4.out hb5)
      clear hb5 HB4 HP4 HSr4 p0 p1 p2 p3 p4
      go_wp2_with fail
      refine Calls.mono (lives_any w5) ?_
      rintro e w6 ⟨rfl, hb6⟩
      have HB6 := toHid (below_on HB5.out hb6)
      clear hb6 HB5
      go_wp2
      go_ret
      exact ⟨rfl, HB6.out⟩
    · rw [hN] at hs2' ⊢
      simp only at hs2' ⊢
      have hTl := T.lt
      have hTn := T.len
      have hTh := T.hand
      have hlo := T.loose
      rw [getD_at hTl] at hlo
      obtain ⟨nn, hnn⟩ : ∃ nn, Hid (r.fr.length = nn) := ⟨_, toHid rfl⟩
      have hTl' : i < nn := by have := hnn.out; omega
      have hnn1 : 1 ≤ nn := by have := hnn.out; omega
      have hnn16 : nn ≤ 16 := by have := hnn.out; omega
      have HLn := toHid (show l.length = nn from by have := hnn.out; omega)
      have hmod : ((i : Int) + 1) % (nn : Int) = (h' : Int) := by rw [hTh, hnn.out]; simp
      obtain ⟨j0, j1, j2⟩ := al1 w2 (.cells (rgC a2 c2 ⟨l, (h' : Int)⟩) 24)
      have HB4 := toHid (below_on HB3.out j2)
      have HP4 := toHid (box_in' HP3.out j2)
      have HX4 := toHid j0
      have HSr4 := toHid (HSr.out.below j2)
      have HSx4 := toHid (hs2'.below j2)
      have HT := toHid T
      obtain ⟨Q, hQ⟩ : ∃ Q, Q = w2.heap.size := ⟨_, rfl⟩
      have hPQ : P ≠ Q := by omega
      clear j0 j1 j2 hs2' HB3 HP3 HSr T hTh hTn
      go_wp2_with fail
      generalize World.alloc _ _ = W4 at HB4 HP4 HX4 HSr4 HSx4 ⊢
      rw [← hQ] at HX4 ⊢
      clear hQ
      simp only [rgC] at HX4 HP4
      rw [HLn.out] at HX4
      rw [hnn.out] at HP4
      obtain ⟨p0, p1, p2, p3, p4⟩ := cell2 HP4.out
      obtain ⟨q0, q1, q2, q3, q4⟩ := cell2 HX4.out
      obtain ⟨b, o, rfl, hbl, c0', c1', c2'⟩ := HSr4.out.at i hTl
      have hi0 : 0 ≤ (i : Int) := by omega
      have hi1 : (i : Int) < (nn : Int) := by omega
      have hg1 : decide ((i : Int) < 0) = false := by simp
      have hg2 : decide ((nn : Int) ≤ (i : Int)) = false := by simp; omega
      have hg3 : decide (0 < r.fr[i].pins) = false := by simp; omega
      have hnn0 : ¬ nn = 0 := by omega
      have hrem : (IntKind.i64.wrap ((i : Int) + 1)).tmod (nn : Int) = (h' : Int) := by rw [show IntKind.i64.wrap ((i : Int) + 1) = (i : Int) + 1 by rw [IntKind.wrap_i64]; omega, Int.tmod_eq_emod_of_nonneg (by omega)]; exact hmod
      have hh'n : h' < nn := by rw [HT.out.hand, hnn.out]; exact Nat.mod_lt _ (by omega)
      go_quiet (fail)
      have hd5 : Below W4.heap.size W4 (W4.drewN nq) := Go.Joins.below_draws _ _ _
      have HB5 := toHid (below_on HB4.out hd5)
      have HP5 := toHid (box_in' HP4.out hd5)
      have HX5 := toHid (box_in' HX4.out hd5)
      have HSr5 := toHid (HSr4.out.below hd5)
      have HSx5 := toHid (HSx4.out.below hd5)
      clear hd5 HB4 HP4 HX4 HSr4 HSx4 p0 p1 p2 p3 p4 q0 q1 q2 q3 q4 c0' c1' c2' hrem hmod
      generalize W4.drewN nq = W5 at HB5 HP5 HX5 HSr5 HSx5 ⊢
      go_wp2_with fail
      go_loopw [9] (fun j wr => ∃ k : Nat, k ≤ nn ∧ j = .int .i64 k ∧ Below W5.heap.size W5 wr) (fun j _ => nn - (intOf j).toNat)
      case atStart => exact ⟨0, Nat.zero_le _, rfl, Below.refl _ _⟩
      case round =>
        obtain ⟨k, hk, rfl, hb⟩ := hrel
        obtain ⟨p0, p1, p2, p3, p4⟩ := cell2 (box_in' HP5.out hb)
        obtain ⟨q0, q1, q2, q3, q4⟩ := cell2 (box_in' HX5.out hb)
        have HD := toHid hb
        by_cases hlt : k < nn
        · have hk1 : k < r.fr.length := by have := hnn.out; omega
          have hk2 : k < l.length := by have := HLn.out; omega
          obtain ⟨bx, ox, rfl, hbx, e0, e1, e2⟩ := (HSx5.out.below hb).at k hk2
          obtain ⟨br, or, hae, hbr, d0, d1, d2⟩ := (HSr5.out.below hb).at k hk1
          simp only [Option.some.injEq, Addr.mk.injEq] at hae
          obtain ⟨rfl, rfl, -⟩ := hae
          have t1 := HT.out.page k hk1
          have t2 := HT.out.pins k hk1
          have t3 := HT.out.used k hk1
          rw [getD_at hk1, getD_at hk2] at t1 t2 t3
          rw [t1] at e0
          rw [t2] at e2
          have hk0 : 0 ≤ (k : Int) := by omega
          have hkn : (k : Int) < (nn : Int) := by omega
          clear hb t1 t2
          cases hu : l[k].used
          · rw [hu] at e1
            clear t3
            go_wp2_with fail
            go_quiet (fail)
            have hd6 := below_on HD.out (Go.Joins.below_draws _ _ _ : Below wr.heap.size wr (wr.drewN nq))
            go_wp2_with fail
            go_roundw
            case rel => exact ⟨k + 1, by omega, by simp, hd6⟩
            case measure => first | omega | (simp only [intOf]; omega)
          · rw [hu] at e1
            rw [t3 hu] at d1
            clear t3
            go_wp2_with fail
            go_quiet (fail)
            have hd6 := below_on HD.out (Go.Joins.below_draws _ _ _ : Below wr.heap.size wr (wr.drewN nq))
            go_wp2_with fail
            go_roundw
            case rel => exact ⟨k + 1, by omega, by simp, hd6⟩
            case measure => first | omega | (simp only [intOf]; omega)
        · obtain rfl : k = nn := by omega
          go_wp2_with fail
          refine Calls.mono (lives_any wr) ?_
          rintro e w6 ⟨rfl, hb6⟩
          have HB6 := toHid (below_on HB5.out (below_on hb hb6))
          clear hb6 hb HD HB5 HP5 HX5 HSr5 HSx5 p0 p1 p2 p3 p4 q0 q1 q2 q3 q4
          go_wp2
          go_ret
          exact ⟨rfl, HB6.out⟩
  · simp only [rgV, rgC, Rg.zero, List.length_nil] at i0 i1 i2 hs2 hB2 ⊢
    by_cases h1 : n < 1
    · go_wp2_with fail
      generalize World.alloc _ _ = W at i0 i1 i2 hs2 hB2 ⊢
      refine Calls.mono (lives_any W) ?_
      rintro e w3 ⟨rfl, hb3⟩
      have HB := toHid (below_on hB2 hb3)
      clear hb3 hB2 hs2 i0 i1 i2
      go_wp2
      go_ret
      exact ⟨rfl, HB.out⟩
    · have h2 : 16 < n := by omega
      go_wp2_with fail
      generalize World.alloc _ _ = W at i0 i1 i2 hs2 hB2 ⊢
      refine Calls.mono (lives_any W) ?_
      rintro e w3 ⟨rfl, hb3⟩
      have HB := toHid (below_on hB2 hb3)
      clear hb3 hB2 hs2 i0 i1 i2
      go_wp2
      go_ret
      exact ⟨rfl, HB.out⟩
end Go.Proofs.Ythhjjnoeiaaekaa
