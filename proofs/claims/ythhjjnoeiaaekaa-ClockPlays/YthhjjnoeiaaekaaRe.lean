/-
  The document's Next.
-/
import Derived.Test.YthhjjnoeiaaekaaRd
import Derived.Deep.LoopGhost
namespace Go.Proofs.Ythhjjnoeiaaekaa
open Go.RowKit

theorem setI_none (l : List Fr) (f : Fr) : setI l (-1) f = l := by simp [setI]
theorem setI_k (l : List Fr) (k : Nat) (f : Fr) : setI l (k : Int) f = l.set k f := by
  unfold setI
  rw [if_pos (by omega), Int.toNat_natCast]

set_option maxRecDepth 20000 in
set_option maxHeartbeats 4000000 in
theorem refnext_any (a : Option Addr) (c : Nat) (r : Rg) (w : World) (h : SlF w a r.fr) (hl : r.fr.length ≤ maxLen) :
    Calls Try.prog 27 #[rgV a c r] w fun e w' => RetN w w' (nextR r) e := by
  by_cases hM : MayR r
  · have h16 := hM.most
    have h01 := hM.one
    go_enter Try.func27, Try.ntmps27
    go_wp2_with fail
    obtain ⟨i0, i1, i2, i3⟩ := al2 w (.cells (rgC a c r) 24) (.cells #[.slice none 0 0, .int .i64 0] 24)
    generalize World.alloc (World.alloc _ _) _ = W at i0 i1 i2 i3 ⊢
    have hsW := h.below i3
    refine Calls.mono (refmay_yes a c r W hsW hM) ?_
    rintro e w1 ⟨rfl, hb1⟩
    have HB := toHid (below_on i3 hb1)
    have HP := toHid (box_in' i0 hb1)
    have HQ := toHid (box_in' i1 hb1)
    have hs1 := hsW.below hb1
    clear i0 i1 i2 i3 hsW hb1 h
    obtain ⟨p0, p1, p2, p3, p4⟩ := cell2 HP.out
    obtain ⟨q0, q1, q2, q3, q4⟩ := cell2 HQ.out
    obtain ⟨n, hn⟩ : ∃ n, Hid (r.fr.length = n) := ⟨_, toHid rfl⟩
    have hn1 : 1 ≤ n := by have := hn.out; omega
    have hn16 : n ≤ 16 := by have := hn.out; omega
    rw [hn.out] at p0
    clear h16 h01
    go_wp2_with fail
    go_loop [5, 6] (fun bu i => ∃ k : Nat, ∃ b : Bool, k ≤ n ∧ i = .int .i64 k ∧ bu = .bool b ∧ Hid (b = true → ∀ j (hj : j < r.fr.length), j < k → r.fr[j].pins ≠ 0) ∧ Hid (b = false → ∃ j, ∃ hj : j < r.fr.length, r.fr[j].pins = 0)) (fun _ i => n - (intOf i).toNat)
    case atStart => exact ⟨0, true, Nat.zero_le _, rfl, rfl, toHid fun _ j _ hj => absurd hj (by omega), toHid (by simp)⟩
    case round =>
      obtain ⟨k, b, hk, rfl, rfl, HT, HF⟩ := hrel
      by_cases hlt : k < n
      · have hkl : k < r.fr.length := by have := hn.out; omega
        obtain ⟨bb, o, rfl, hbl, c0, c1, c2⟩ := hs1.at k hkl
        by_cases hpz : r.fr[k].pins = 0
        · have HPZ := toHid hpz
          rw [hpz] at c2
          clear hpz
          go_wp2_with fail
          go_round
          case rel => exact ⟨k + 1, false, by omega, by simp, rfl, toHid (by simp), toHid fun _ => ⟨k, hkl, HPZ.out⟩⟩
          case measure => first | omega | (simp only [intOf]; omega)
        · have hpz2 : (r.fr[k].pins == 0) = false := by simpa using hpz
          go_wp2_with fail
          go_round
          case rel =>
            refine ⟨k + 1, b, by omega, by simp, rfl, toHid fun hb j hj hjk => ?_, HF⟩
            by_cases e : j = k
            · subst e; exact hpz
            · exact HT.out hb j hj (by omega)
          case measure => first | omega | (simp only [intOf]; omega)
      · obtain rfl : k = n := by omega
        cases b with
        | true =>
          have hall : ∀ j (hj : j < r.fr.length), 0 < r.fr[j].pins := fun j hj => by
            have h1 := HT.out rfl j hj (by have := hn.out; omega)
            have h2 := mayF_pins (hM.up.may j hj hj)
            omega
          have HA := toHid hall
          clear hall HT HF
          go_wp2
          obtain ⟨r0, r1, -⟩ := cell2 (ring_set (u := .slice none 0 0) (v := .int .i64 0) HQ.out)
          refine bodyPost_ret (v := .tuple #[.int .i64 0, .agg #[.slice none 0 0, .int .i64 0], .int .i64 15]) (by simp [results, Try.results27, go_sem, r0, r1]) rfl ?_
          rw [nextR_busy hM (look_all _ _ _ rfl (by have := hM.h0; have := hM.h1; omega) HA.out)]
          exact ⟨none, 0, rfl, SlF.nil _, below_two HB.out (by omega)⟩
        | false =>
          obtain ⟨j, hj, hjz⟩ := HF.out rfl
          rcases next_cases r with ⟨-, hx⟩ | ⟨-, -, hx⟩ | ⟨ti, tl, th, hN, -, -, hlk⟩
          · exact absurd hM hx
          · have := hx j hj; omega
          · have HN := toHid hN
            rw [hn.out] at hlk
            have HLK := toHid hlk
            have HM := toHid hM
            have HS1 := toHid hs1
            clear HT HF hj hjz hN hlk hM hs1
            go_wp2_with fail
            clear hk hlt p0 p1 p2 p3 p4 q0 q1 q2 q3 q4
            go_loopg [7] (2 * k) (fun g u wr => ∃ l hh a c, MayR ⟨l, ((hh : Nat) : Int)⟩ ∧ l.length = k ∧ hh < k ∧ lookN k g l hh = some (ti, tl, th) ∧ wr.heap[w.heap.size]? = some (.cells (rgC a c ⟨l, (hh : Int)⟩) 24) ∧ wr.heap[w.heap.size + 1]? = some (.cells #[.slice none 0 0, .int .i64 0] 24) ∧ SlF wr a l ∧ Below w.heap.size w wr)
            case atStart =>
              have hh0 := HM.out.h0
              have hh1 := HM.out.h1
              refine ⟨r.fr, r.hand.toNat, a, c, ?_, hn.out, by have := hn.out; omega, HLK.out, ?_, HQ.out, HS1.out, HB.out⟩
              · rw [show ((r.hand.toNat : Nat) : Int) = r.hand by omega]; exact HM.out
              · rw [show ((r.hand.toNat : Nat) : Int) = r.hand by omega]; exact HP.out
            case round =>
              clear HS1 HQ HP HB
              obtain ⟨l, hh, a, c, hMl, hln, hhk, hlk, hp, hq, hs, hB⟩ := hrel
              have hhl : hh < l.length := by omega
              obtain ⟨b, o, rfl, hbl, c0, c1, c2⟩ := hs.at hh hhl
              have hmf := hMl.up.may hh hhl hhl
              simp only at hmf
              obtain ⟨p0, p1, p2, p3, p4⟩ := cell2 hp
              obtain ⟨q0, q1, q2, q3, q4⟩ := cell2 hq
              simp only at p0 p1
              rw [hln] at p0
              have HMl := toHid hMl
              have HLn := toHid hln
              have HLk := toHid hlk
              have HP := toHid hp
              have HQ := toHid hq
              have HS := toHid hs
              have HB := toHid hB
              obtain ⟨h', hm, HM'⟩ : ∃ h' : Nat, ((hh : Int) + 1) % (k : Int) = (h' : Int) ∧ Hid (h' = (hh + 1) % k) := ⟨(hh + 1) % k, by simp, toHid rfl⟩
              have hh'k : h' < k := by rw [HM'.out]; exact Nat.mod_lt _ (by omega)
              obtain ⟨g', hg'⟩ : ∃ g', gk = g' + 1 := by
                cases gk with
                | zero => simp [lookN] at hlk
                | succ g' => exact ⟨g', rfl⟩
              have hws : w.heap.size + 1 < wr.heap.size := q4
              clear hMl hln hlk hp hq hs hB
              have HM2 : Hid (MayR ⟨l, (h' : Int)⟩) := toHid ⟨HMl.out.one, HMl.out.most, by simp only; omega, by have := HLn.out; simp only; omega, HMl.out.up⟩
              by_cases hp : 0 < l[hh].pins
              · have hpne : l[hh].page ≠ -1 := fun e => by have := mayF_none hmf e; omega
                have hpg : (l[hh].page == -1) = false := by simpa using hpne
                have hpz : (l[hh].pins == 0) = false := by simp; omega
                have HLk2 := toHid (show lookN k g' l h' = some (ti, tl, th) from by rw [← HLk.out, hg', lookN_pin hhl hp, HM'.out])
                clear hpne
                go_wp2_with fail
                go_roundg g'
                case measure => omega
                case rel =>
                  obtain ⟨e0, -, e2⟩ := al1 (wr.setCell ⟨w.heap.size, 1, none⟩ (.int .i64 (h' : Int))) (.cells #[.int .i64 l[hh].page, .bool l[hh].used, .int .i64 l[hh].pins] 31)
                  have hb9 := HB.out.setCell (p := ⟨w.heap.size, 1, none⟩) (by simp) (.int .i64 (h' : Int))
                  refine ⟨l, h', some ⟨b, o, none⟩, c, HM2.out, HLn.out, hh'k, HLk2.out, box_in' (heap_setCell_same wr w.heap.size 1 _ 24 _ HP.out) e2, box_in' ((heap_setCell_other _ _ _ _ (by simp)).trans HQ.out) e2, (slF_other HS.out HP.out 1 _).below e2, hb9.alloc hb9.size _⟩
              · have hp0 := (mayF_pins hmf).1
                have hpz : l[hh].pins = 0 := by omega
                have HPZ := toHid hpz
                rw [hpz] at c2
                clear hpz hp0
                cases hu : l[hh].used
                · rw [hu] at c1
                  have hres : ti = hh ∧ tl = l ∧ th = h' := by
                    have := HLk.out
                    rw [hg', lookN_told hhl hp hu, ← HM'.out] at this
                    simp only [Option.some.injEq, Prod.mk.injEq] at this
                    obtain ⟨h1, h2, h3⟩ := this
                    exact ⟨h1.symm, h2.symm, h3.symm⟩
                  have HRes := toHid hres
                  clear hres hp
                  obtain ⟨e0, -, e2⟩ := al1 (wr.setCell ⟨w.heap.size, 1, none⟩ (.int .i64 (h' : Int))) (.cells #[.int .i64 l[hh].page, .bool false, .int .i64 0] 31)
                  have hb9 := HB.out.setCell (p := ⟨w.heap.size, 1, none⟩) (by simp) (.int .i64 (h' : Int))
                  have HQ4 := toHid (box_in' ((heap_setCell_other wr ⟨w.heap.size, 1, none⟩ _ _ (by simp)).trans HQ.out) e2)
                  have HS4 := toHid ((slF_other HS.out HP.out 1 (.int .i64 (h' : Int))).below e2)
                  have HB4 := toHid (hb9.alloc hb9.size (.cells #[.int .i64 l[hh].page, .bool false, .int .i64 0] 31))
                  clear e0 e2 hb9 HP HQ HS HB
                  by_cases hpm : l[hh].page = -1
                  · have hpg : (l[hh].page == -1) = true := by simpa using hpm
                    clear hpm
                    go_wp2_with fail
                    generalize World.alloc _ _ = W4 at HQ4 HS4 HB4 ⊢
                    have hcall := refwith_any (some ⟨b, o, none⟩) c ⟨l, (h' : Int)⟩ (-1) ⟨l[hh].page, false, 0⟩ W4 HS4.out (by have := HLn.out; simp only; omega)
                    simp only [rgV, rgC, frV] at hcall
                    rw [HLn.out, setI_none, HLn.out] at hcall
                    refine Calls.mono hcall ?_
                    clear hcall
                    rintro e w5 ⟨a5, c5, rfl, hs5, hb5⟩
                    have HS5 := toHid hs5
                    have HB5 := toHid (below_on HB4.out hb5)
                    have HQ5 := toHid (box_in' HQ4.out hb5)
                    clear hs5 hb5 HQ4 HS4 HB4 p0 p1 p2 p3 p4 q0 q1 q2 q3 q4
                    obtain ⟨q0, q1, q2, q3, q4⟩ := cell2 HQ5.out
                    go_wp2
                    obtain ⟨r0, r1, -⟩ := cell2 (ring_set (u := .slice a5 k c5) (v := .int .i64 (h' : Int)) HQ5.out)
                    refine bodyPost_ret (v := .tuple #[.int .i64 (hh : Int), .agg #[.slice a5 k c5, .int .i64 (h' : Int)], .int .i64 0]) (by simp [results, Try.results27, go_sem, r0, r1]) rfl ?_
                    obtain ⟨t1, t2, t3⟩ := HRes.out
                    rw [HN.out, t1, t2, t3]
                    refine ⟨a5, c5, ?_, slF_two HS5.out HQ5.out, below_two HB5.out (by omega)⟩
                    simp only [rgV, rgC]
                    rw [HLn.out]
                  · have hpg : (l[hh].page == -1) = false := by simpa using hpm
                    clear hpm
                    go_wp2_with fail
                    generalize World.alloc _ _ = W4 at HQ4 HS4 HB4 ⊢
                    have hcall := refwith_any (some ⟨b, o, none⟩) c ⟨l, (h' : Int)⟩ (-1) ⟨l[hh].page, false, 0⟩ W4 HS4.out (by have := HLn.out; simp only; omega)
                    simp only [rgV, rgC, frV] at hcall
                    rw [HLn.out, setI_none, HLn.out] at hcall
                    refine Calls.mono hcall ?_
                    clear hcall
                    rintro e w5 ⟨a5, c5, rfl, hs5, hb5⟩
                    have HS5 := toHid hs5
                    have HB5 := toHid (below_on HB4.out hb5)
                    have HQ5 := toHid (box_in' HQ4.out hb5)
                    clear hs5 hb5 HQ4 HS4 HB4 p0 p1 p2 p3 p4 q0 q1 q2 q3 q4
                    obtain ⟨q0, q1, q2, q3, q4⟩ := cell2 HQ5.out
                    go_wp2
                    obtain ⟨r0, r1, -⟩ := cell2 (ring_set (u := .slice a5 k c5) (v := .int .i64 (h' : Int)) HQ5.out)
                    refine bodyPost_ret (v := .tuple #[.int .i64 (hh : Int), .agg #[.slice a5 k c5, .int .i64 (h' : Int)], .int .i64 0]) (by simp [results, Try.results27, go_sem, r0, r1]) rfl ?_
                    obtain ⟨t1, t2, t3⟩ := HRes.out
                    rw [HN.out, t1, t2, t3]
                    refine ⟨a5, c5, ?_, slF_two HS5.out HQ5.out, below_two HB5.out (by omega)⟩
                    simp only [rgV, rgC]
                    rw [HLn.out]
                · rw [hu] at c1
                  have hpne : l[hh].page ≠ -1 := fun e => by have := (mayF_none hmf e).1; rw [hu] at this; simp at this
                  have hpg : (l[hh].page == -1) = false := by simpa using hpne
                  have HLk2 := toHid (show lookN k g' (l.set hh ⟨l[hh].page, false, l[hh].pins⟩) h' = some (ti, tl, th) from by rw [← HLk.out, hg', lookN_used hhl hp hu, HM'.out])
                  have HM3 : Hid (MayR ⟨l.set hh ⟨l[hh].page, false, l[hh].pins⟩, (h' : Int)⟩) := toHid (by
                    refine HM2.out.set hh ⟨l[hh].page, false, l[hh].pins⟩ ?_ (.inr fun j hj hjk => HM2.out.fir (p := l[hh].page) (k := hh) hhl rfl hpne j hj hjk)
                    have := mayF_some hmf hpne
                    simp only [mayF]
                    rw [if_neg hpne]
                    simp [knownB]
                    omega)
                  clear hpne hp
                  obtain ⟨e0, -, e2⟩ := al1 (wr.setCell ⟨w.heap.size, 1, none⟩ (.int .i64 (h' : Int))) (.cells #[.int .i64 l[hh].page, .bool false, .int .i64 0] 31)
                  have hb9 := HB.out.setCell (p := ⟨w.heap.size, 1, none⟩) (by simp) (.int .i64 (h' : Int))
                  have HP4 := toHid (box_in' (show _ = some (.cells #[.slice (some ⟨b, o, none⟩) l.length c, .int .i64 (h' : Int)] 24) from heap_setCell_same wr w.heap.size 1 _ 24 (.int .i64 (h' : Int)) HP.out) e2)
                  have HQ4 := toHid (box_in' ((heap_setCell_other wr ⟨w.heap.size, 1, none⟩ _ _ (by simp)).trans HQ.out) e2)
                  have HS4 := toHid ((slF_other HS.out HP.out 1 (.int .i64 (h' : Int))).below e2)
                  have HB4 := toHid (hb9.alloc hb9.size (.cells #[.int .i64 l[hh].page, .bool false, .int .i64 0] 31))
                  clear e0 e2 hb9 HP HQ HS HB
                  go_wp2_with fail
                  generalize World.alloc _ _ = W4 at HP4 HQ4 HS4 HB4 ⊢
                  have hcall := refwith_any (some ⟨b, o, none⟩) c ⟨l, (h' : Int)⟩ (hh : Int) ⟨l[hh].page, false, 0⟩ W4 HS4.out (by have := HLn.out; simp only; omega)
                  simp only [rgV, rgC, frV] at hcall
                  rw [HLn.out, setI_k] at hcall
                  refine Calls.mono hcall ?_
                  clear hcall
                  rintro e w5 ⟨a5, c5, rfl, hs5, hb5⟩
                  have HS5 := toHid hs5
                  have HB5 := toHid (below_on HB4.out hb5)
                  have HP5 := toHid (box_in' HP4.out hb5)
                  have HQ5 := toHid (box_in' HQ4.out hb5)
                  clear hs5 hb5 HP4 HQ4 HS4 HB4 p0 p1 p2 p3 p4 q0 q1 q2 q3 q4
                  obtain ⟨p0, p1, p2, p3, p4⟩ := cell2 HP5.out
                  go_wp2_with fail
                  go_roundg g'
                  case measure => omega
                  case rel =>
                    have hz := HPZ.out
                    have hLk3 := HLk2.out
                    have hM3 := HM3.out
                    rw [hz] at hLk3 hM3
                    refine ⟨_, h', a5, c5, hM3, by rw [List.length_set]; exact HLn.out, hh'k, hLk3, by simp only [rgC, List.length_set]; exact ring_set HP5.out, (heap_two (by omega)).trans HQ5.out, slF_two HS5.out HP5.out, below_two HB5.out (Nat.le_refl _)⟩
  · go_enter Try.func27, Try.ntmps27
    go_wp2_with fail
    obtain ⟨i0, i1, i2, i3⟩ := al2 w (.cells (rgC a c r) 24) (.cells #[.slice none 0 0, .int .i64 0] 24)
    generalize World.alloc (World.alloc _ _) _ = W at i0 i1 i2 i3 ⊢
    have hsW := h.below i3
    refine Calls.mono (refmay_no a c r W hsW hl hM) ?_
    rintro e w1 ⟨rfl, hb1⟩
    have HB := toHid (below_on i3 hb1)
    have HQ := toHid (box_in' i1 hb1)
    clear i0 i1 i2 i3 hsW h hb1
    obtain ⟨q0, q1, q2, q3, q4⟩ := cell2 HQ.out
    go_wp2
    obtain ⟨r0, r1, -⟩ := cell2 (ring_set (u := .slice none 0 0) (v := .int .i64 0) HQ.out)
    refine bodyPost_ret (v := .tuple #[.int .i64 0, .agg #[.slice none 0 0, .int .i64 0], .int .i64 1]) (by simp [results, Try.results27, go_sem, r0, r1]) rfl ?_
    rw [nextR_arg hM]
    exact ⟨none, 0, rfl, SlF.nil _, below_two HB.out (by omega)⟩
end Go.Proofs.Ythhjjnoeiaaekaa
