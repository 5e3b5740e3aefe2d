/-
  The document's Pin.
-/
import Derived.Test.YthhjjnoeiaaekaaRc
namespace Go.Proofs.Ythhjjnoeiaaekaa
open Go.RowKit

set_option maxHeartbeats 4000000 in
theorem refpin_any (a : Option Addr) (c : Nat) (r : Rg) (p n : Int) (t : Bool) (w : World) (h : SlF w a r.fr) (hl : r.fr.length ≤ maxLen) :
    Calls Try.prog 25 #[rgV a c r, .int .i64 p, .int .i64 n, .bool t] w fun e w' => RetR w w' (pinR r p n t) e := by
  rcases place_cases r p with ⟨hpl, hM⟩ | ⟨hpl, hM, hx⟩ | ⟨k, hk, hpl, hM, hkn, hf, hpg⟩
  · go_enter Try.func25, Try.ntmps25
    go_wp2_with fail
    obtain ⟨i0, i1, i2, i3⟩ := al2 w (.cells (rgC a c r) 24) (.cells #[.slice none 0 0, .int .i64 0] 24)
    generalize World.alloc (World.alloc _ _) _ = W at i0 i1 i2 i3 ⊢
    have hsW := h.below i3
    refine Calls.mono (refmay_no a c r W hsW hl hM) ?_
    rintro e w1 ⟨rfl, hb1⟩
    have HB := toHid (below_on i3 hb1)
    have HP := toHid (box_in' i0 hb1)
    have HQ := toHid (box_in' i1 hb1)
    have hs1 := hsW.below hb1
    clear i0 i1 i2 i3 hsW hb1
    obtain ⟨p0, p1, p2, p3, p4⟩ := cell2 HP.out
    obtain ⟨q0, q1, q2, q3, q4⟩ := cell2 HQ.out
    go_wp2
    obtain ⟨r0, r1, -⟩ := cell2 (ring_set (u := .slice none 0 0) (v := .int .i64 0) HQ.out)
    refine bodyPost_ret (v := .tuple #[.agg #[.slice none 0 0, .int .i64 0], .int .i64 1]) (by simp [results, Try.results25, go_sem, r0, r1]) rfl ?_
    rw [pinR_err hpl (by decide)]
    exact retR_zero rfl ((HB.out.setCell (p := ⟨w.heap.size + 1, 0, none⟩) (by simp; try omega) _).setCell (p := ⟨w.heap.size + 1, 1, none⟩) (by simp; try omega) _)
  · have hat : atR r p = -1 := by
      rcases hx with hx | hx
      · exact atR_un hx
      · cases hkn : knownB p
        · exact atR_un hkn
        · rw [atR_yes hM hkn]; exact hx
    go_enter Try.func25, Try.ntmps25
    go_wp2_with fail
    obtain ⟨i0, i1, i2, i3⟩ := al2 w (.cells (rgC a c r) 24) (.cells #[.slice none 0 0, .int .i64 0] 24)
    generalize World.alloc (World.alloc _ _) _ = W at i0 i1 i2 i3 ⊢
    have hsW := h.below i3
    refine Calls.mono (refmay_yes a c r W hsW hM) ?_
    rintro e w1 ⟨rfl, hb1⟩
    have HB := toHid (below_on i3 hb1)
    have HP := toHid (box_in' i0 hb1)
    have HQ := toHid (box_in' i1 hb1)
    have hs1 := hsW.below hb1
    clear i0 i1 i2 i3 hsW hb1
    obtain ⟨p0, p1, p2, p3, p4⟩ := cell2 HP.out
    obtain ⟨q0, q1, q2, q3, q4⟩ := cell2 HQ.out
    go_wp2_with fail
    refine Calls.mono (refat_any a c r p w1 hs1 hl) ?_
    rintro e w2 ⟨rfl, hb2⟩
    have HB2 := toHid (below_on HB.out hb2)
    have HP2 := toHid (box_in' HP.out hb2)
    have HQ2 := toHid (box_in' HQ.out hb2)
    have hs2 := hs1.below hb2
    clear HB HP HQ hs1 hb2 p0 p1 p2 p3 p4 q0 q1 q2 q3 q4
    obtain ⟨p0, p1, p2, p3, p4⟩ := cell2 HP2.out
    obtain ⟨q0, q1, q2, q3, q4⟩ := cell2 HQ2.out
    rw [hat]
    clear hat
    go_wp2
    obtain ⟨r0, r1, -⟩ := cell2 (ring_set (u := .slice none 0 0) (v := .int .i64 0) HQ2.out)
    refine bodyPost_ret (v := .tuple #[.agg #[.slice none 0 0, .int .i64 0], .int .i64 8]) (by simp [results, Try.results25, go_sem, r0, r1]) rfl ?_
    rw [pinR_err hpl (by decide)]
    exact retR_zero rfl ((HB2.out.setCell (p := ⟨w.heap.size + 1, 0, none⟩) (by simp; try omega) _).setCell (p := ⟨w.heap.size + 1, 1, none⟩) (by simp; try omega) _)
  · have hat : atR r p = (k : Int) := by rw [atR_yes hM hkn]; exact hf
    have h16 := hM.most
    have hpn := mayF_pins (hM.up.may k hk hk)
    go_enter Try.func25, Try.ntmps25
    go_wp2_with fail
    obtain ⟨i0, i1, i2, i3⟩ := al2 w (.cells (rgC a c r) 24) (.cells #[.slice none 0 0, .int .i64 0] 24)
    generalize World.alloc (World.alloc _ _) _ = W at i0 i1 i2 i3 ⊢
    have hsW := h.below i3
    refine Calls.mono (refmay_yes a c r W hsW hM) ?_
    rintro e w1 ⟨rfl, hb1⟩
    have HB := toHid (below_on i3 hb1)
    have HP := toHid (box_in' i0 hb1)
    have HQ := toHid (box_in' i1 hb1)
    have hs1 := hsW.below hb1
    clear i0 i1 i2 i3 hsW hb1
    obtain ⟨p0, p1, p2, p3, p4⟩ := cell2 HP.out
    obtain ⟨q0, q1, q2, q3, q4⟩ := cell2 HQ.out
    go_wp2_with fail
    refine Calls.mono (refat_any a c r p w1 hs1 hl) ?_
    rintro e w2 ⟨rfl, hb2⟩
    have HB2 := toHid (below_on HB.out hb2)
    have HP2 := toHid (box_in' HP.out hb2)
    have HQ2 := toHid (box_in' HQ.out hb2)
    have hs2 := hs1.below hb2
    clear HB HP HQ hs1 hb2 p0 p1 p2 p3 p4 q0 q1 q2 q3 q4
    obtain ⟨p0, p1, p2, p3, p4⟩ := cell2 HP2.out
    obtain ⟨q0, q1, q2, q3, q4⟩ := cell2 HQ2.out
    rw [hat]
    clear hat hf hpg
    obtain ⟨b, o, rfl, hbl, c0, c1, c2⟩ := hs2.at k hk
    by_cases g1 : 1048576 < n
    · go_wp2
      obtain ⟨r0, r1, -⟩ := cell2 (box_in' (ring_set (u := .slice none 0 0) (v := .int .i64 0) HQ2.out) (al1 _ (.cells #[.int .i64 r.fr[k].page, .bool r.fr[k].used, .int .i64 r.fr[k].pins] 31)).2.2)
      refine bodyPost_ret (v := .tuple #[.agg #[.slice none 0 0, .int .i64 0], .int .i64 10]) (by simp [results, Try.results25, go_sem, r0, r1]) rfl ?_
      rw [pinR_state hpl hk (by omega)]
      have hB9 := below_two (u := .slice none 0 0) (v := .int .i64 0) HB2.out (show w.heap.size ≤ w.heap.size + 1 by omega)
      exact retR_zero rfl (hB9.alloc hB9.size _)
    · by_cases g2 : n < -1048576
      · go_wp2
        obtain ⟨r0, r1, -⟩ := cell2 (box_in' (ring_set (u := .slice none 0 0) (v := .int .i64 0) HQ2.out) (al1 _ (.cells #[.int .i64 r.fr[k].page, .bool r.fr[k].used, .int .i64 r.fr[k].pins] 31)).2.2)
        refine bodyPost_ret (v := .tuple #[.agg #[.slice none 0 0, .int .i64 0], .int .i64 10]) (by simp [results, Try.results25, go_sem, r0, r1]) rfl ?_
        rw [pinR_state hpl hk (by omega)]
        have hB9 := below_two (u := .slice none 0 0) (v := .int .i64 0) HB2.out (show w.heap.size ≤ w.heap.size + 1 by omega)
        exact retR_zero rfl (hB9.alloc hB9.size _)
      · by_cases g3 : r.fr[k].pins + n < 0
        · go_wp2
          obtain ⟨r0, r1, -⟩ := cell2 (box_in' (ring_set (u := .slice none 0 0) (v := .int .i64 0) HQ2.out) (al1 _ (.cells #[.int .i64 r.fr[k].page, .bool r.fr[k].used, .int .i64 r.fr[k].pins] 31)).2.2)
          refine bodyPost_ret (v := .tuple #[.agg #[.slice none 0 0, .int .i64 0], .int .i64 10]) (by simp [results, Try.results25, go_sem, r0, r1]) rfl ?_
          rw [pinR_state hpl hk (by omega)]
          have hB9 := below_two (u := .slice none 0 0) (v := .int .i64 0) HB2.out (show w.heap.size ≤ w.heap.size + 1 by omega)
          exact retR_zero rfl (hB9.alloc hB9.size _)
        · by_cases g4 : 1048576 < r.fr[k].pins + n
          · go_wp2
            obtain ⟨r0, r1, -⟩ := cell2 (box_in' (ring_set (u := .slice none 0 0) (v := .int .i64 0) HQ2.out) (al1 _ (.cells #[.int .i64 r.fr[k].page, .bool r.fr[k].used, .int .i64 r.fr[k].pins] 31)).2.2)
            refine bodyPost_ret (v := .tuple #[.agg #[.slice none 0 0, .int .i64 0], .int .i64 10]) (by simp [results, Try.results25, go_sem, r0, r1]) rfl ?_
            rw [pinR_state hpl hk (by omega)]
            have hB9 := below_two (u := .slice none 0 0) (v := .int .i64 0) HB2.out (show w.heap.size ≤ w.heap.size + 1 by omega)
            exact retR_zero rfl (hB9.alloc hB9.size _)
          · cases t with
            | true =>
              go_wp2_with fail
              obtain ⟨m0, m1, m2⟩ := al1 w2 (.cells #[.int .i64 r.fr[k].page, .bool true, .int .i64 (r.fr[k].pins + n)] 31)
              generalize World.alloc _ _ = W3 at m0 m1 m2 ⊢
              have HB3 := toHid (below_on HB2.out m2)
              have HQ3 := toHid (box_in' HQ2.out m2)
              have hs3 := hs2.below m2
              clear HB2 HQ2 HP2 hs2 m0 m1 m2
              refine Calls.mono (refwith_nat _ c r k ⟨r.fr[k].page, true, r.fr[k].pins + n⟩ W3 hs3 (by omega)) ?_
              rintro e w4 ⟨g, c', rfl, hs4, hb4⟩
              have HB4 := toHid (below_on HB3.out hb4)
              have HQ4 := toHid (box_in' HQ3.out hb4)
              have HS4 := toHid hs4
              clear hs4 hb4 p0 p1 p2 p3 p4 q0 q1 q2 q3 q4
              obtain ⟨q0, q1, q2, q3, q4⟩ := cell2 HQ4.out
              go_wp2
              obtain ⟨r0, r1, -⟩ := cell2 (ring_set (u := .slice g (withR r k ⟨r.fr[k].page, true, r.fr[k].pins + n⟩).fr.length c') (v := .int .i64 (withR r k ⟨r.fr[k].page, true, r.fr[k].pins + n⟩).hand) HQ4.out)
              refine bodyPost_ret (v := .tuple #[rgV g c' (withR r k ⟨r.fr[k].page, true, r.fr[k].pins + n⟩), .int .i64 0]) (by simp [results, Try.results25, go_sem, r0, r1]) rfl ?_
              rw [show pinR r p n true = (withR r k ⟨r.fr[k].page, true, r.fr[k].pins + n⟩, 0) by rw [pinR_ok hpl hk (by omega)]; simp]
              exact ⟨_, _, rfl, slF_two HS4.out HQ4.out, below_two HB4.out (by omega)⟩
            | false =>
              go_wp2_with fail
              obtain ⟨m0, m1, m2⟩ := al1 w2 (.cells #[.int .i64 r.fr[k].page, .bool r.fr[k].used, .int .i64 (r.fr[k].pins + n)] 31)
              generalize World.alloc _ _ = W3 at m0 m1 m2 ⊢
              have HB3 := toHid (below_on HB2.out m2)
              have HQ3 := toHid (box_in' HQ2.out m2)
              have hs3 := hs2.below m2
              clear HB2 HQ2 HP2 hs2 m0 m1 m2
              refine Calls.mono (refwith_nat _ c r k ⟨r.fr[k].page, r.fr[k].used, r.fr[k].pins + n⟩ W3 hs3 (by omega)) ?_
              rintro e w4 ⟨g, c', rfl, hs4, hb4⟩
              have HB4 := toHid (below_on HB3.out hb4)
              have HQ4 := toHid (box_in' HQ3.out hb4)
              have HS4 := toHid hs4
              clear hs4 hb4 p0 p1 p2 p3 p4 q0 q1 q2 q3 q4
              obtain ⟨q0, q1, q2, q3, q4⟩ := cell2 HQ4.out
              go_wp2
              obtain ⟨r0, r1, -⟩ := cell2 (ring_set (u := .slice g (withR r k ⟨r.fr[k].page, r.fr[k].used, r.fr[k].pins + n⟩).fr.length c') (v := .int .i64 (withR r k ⟨r.fr[k].page, r.fr[k].used, r.fr[k].pins + n⟩).hand) HQ4.out)
              refine bodyPost_ret (v := .tuple #[rgV g c' (withR r k ⟨r.fr[k].page, r.fr[k].used, r.fr[k].pins + n⟩), .int .i64 0]) (by simp [results, Try.results25, go_sem, r0, r1]) rfl ?_
              rw [show pinR r p n false = (withR r k ⟨r.fr[k].page, r.fr[k].used, r.fr[k].pins + n⟩, 0) by rw [pinR_ok hpl hk (by omega)]; simp]
              exact ⟨_, _, rfl, slF_two HS4.out HQ4.out, below_two HB4.out (by omega)⟩
end Go.Proofs.Ythhjjnoeiaaekaa
