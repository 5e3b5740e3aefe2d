/-
  The document's Put, Drop and Pin.
-/
import Derived.Test.YthhjjnoeiaaekaaRb
namespace Go.Proofs.Ythhjjnoeiaaekaa
open Go.RowKit

theorem setI_nat (r : Rg) (k : Nat) (f : Fr) : (⟨setI r.fr (k : Int) f, r.hand⟩ : Rg) = withR r k f := by
  unfold setI withR
  rw [if_pos (by omega), Int.toNat_natCast]
theorem refwith_nat (a : Option Addr) (c : Nat) (r : Rg) (k : Nat) (f : Fr) (w : World) (h : SlF w a r.fr) (hl : r.fr.length ≤ 1000) :
    Calls Try.prog 35 #[rgV a c r, .int .i64 (k : Int), .agg (frV f)] w fun e w' => ∃ a' c', e = .returned (rgV a' c' (withR r k f)) ∧ SlF w' a' (withR r k f).fr ∧ Below w.heap.size w w' :=
  (refwith_any a c r k f w h hl).mono (by rintro e w' ⟨a', c', rfl, hs, hb⟩; rw [setI_nat]; exact ⟨a', c', rfl, by rw [← setI_nat]; exact hs, hb⟩)

set_option maxHeartbeats 4000000 in
theorem refput_any (a : Option Addr) (c : Nat) (r : Rg) (p : Int) (w : World) (h : SlF w a r.fr) (hl : r.fr.length ≤ maxLen) :
    Calls Try.prog 23 #[rgV a c r, .int .i64 p] w fun e w' => RetR w w' (putR r p) e := by
  by_cases hM : MayR r
  · have h16 := hM.most
    go_enter Try.func23, Try.ntmps23
    go_wp2_with fail
    obtain ⟨i0, i1, i2, i3⟩ := al2 w (.cells (rgC a c r) 24) (.cells #[.slice none 0 0, .int .i64 0] 24)
    generalize World.alloc (World.alloc _ _) _ = W at i0 i1 i2 i3 ⊢
    have hsW := h.below i3
    refine Calls.mono (refmay_yes a c r W hsW hM) ?_
    rintro e w1 ⟨rfl, hb1⟩
    have HB := toHid (below_on i3 hb1)
    have HP := toHid (box_in' i0 hb1)
    have HQ := toHid (box_in' i1 hb1)
    have hs1 := hsW.below hb1
    clear i0 i1 i2 i3 hsW hb1
    obtain ⟨p0, p1, p2, p3, p4⟩ := cell2 HP.out
    obtain ⟨q0, q1, q2, q3, q4⟩ := cell2 HQ.out
    by_cases g1 : p < 0
    · go_wp2
      obtain ⟨r0, r1, -⟩ := cell2 (ring_set (u := .slice none 0 0) (v := .int .i64 0) HQ.out)
      refine bodyPost_ret (v := .tuple #[.agg #[.slice none 0 0, .int .i64 0], .int .i64 1]) (by simp [results, Try.results23, go_sem, r0, r1]) rfl ?_
      rw [putR_arg (fun x => by have := known_iff.1 x.2; omega)]
      exact retR_zero rfl ((HB.out.setCell (p := ⟨w.heap.size + 1, 0, none⟩) (by simp; try omega) _).setCell (p := ⟨w.heap.size + 1, 1, none⟩) (by simp; try omega) _)
    · by_cases g2 : 15 < p
      · go_wp2
        obtain ⟨r0, r1, -⟩ := cell2 (ring_set (u := .slice none 0 0) (v := .int .i64 0) HQ.out)
        refine bodyPost_ret (v := .tuple #[.agg #[.slice none 0 0, .int .i64 0], .int .i64 1]) (by simp [results, Try.results23, go_sem, r0, r1]) rfl ?_
        rw [putR_arg (fun x => by have := known_iff.1 x.2; omega)]
        exact retR_zero rfl ((HB.out.setCell (p := ⟨w.heap.size + 1, 0, none⟩) (by simp; try omega) _).setCell (p := ⟨w.heap.size + 1, 1, none⟩) (by simp; try omega) _)
      · have hkn : knownB p = true := known_iff.2 (by omega)
        go_wp2_with fail
        refine Calls.mono (refat_any a c r p w1 hs1 hl) ?_
        rintro e w2 ⟨rfl, hb2⟩
        have HB2 := toHid (below_on HB.out hb2)
        have HP2 := toHid (box_in' HP.out hb2)
        have HQ2 := toHid (box_in' HQ.out hb2)
        have hs2 := hs1.below hb2
        clear HB HP HQ hs1 hb2 p0 p1 p2 p3 p4 q0 q1 q2 q3 q4
        obtain ⟨p0, p1, p2, p3, p4⟩ := cell2 HP2.out
        obtain ⟨q0, q1, q2, q3, q4⟩ := cell2 HQ2.out
        rw [atR_yes hM hkn]
        rcases firI_cases r.fr p with ⟨hf, -⟩ | ⟨j, hj, hf, -⟩
        · have HF := toHid hf
          rw [hf]
          clear hf
          go_wp2_with fail
          go_loop [6] (fun i => ∃ k : Nat, k ≤ r.fr.length ∧ i = .int .i64 k ∧ Hid (∀ j (hj : j < r.fr.length), j < k → r.fr[j].page ≠ -1)) (fun i => r.fr.length - (intOf i).toNat)
          case atStart => exact ⟨0, Nat.zero_le _, rfl, toHid fun j _ hj => absurd hj (by omega)⟩
          case round =>
            obtain ⟨k, hk, rfl, HU⟩ := hrel
            by_cases hlt : k < r.fr.length
            · obtain ⟨b, o, rfl, hbl, c0, c1, c2⟩ := hs2.at k hlt
              by_cases hq : r.fr[k].page = -1
              · have HG := toHid (firI_some hlt hq HU.out)
                rw [hq] at c0
                clear hq
                go_wp2_with fail
                refine Calls.mono (refwith_nat _ c r k ⟨p, true, 0⟩ w2 hs2 (by omega)) ?_
                rintro e w4 ⟨g, c', rfl, hs4, hb4⟩
                have HB4 := toHid (below_on HB2.out hb4)
                have HQ4 := toHid (box_in' HQ2.out hb4)
                have HS4 := toHid hs4
                clear hs4 hb4 p0 p1 p2 p3 p4 q0 q1 q2 q3 q4
                obtain ⟨q0, q1, q2, q3, q4⟩ := cell2 HQ4.out
                go_wp2
                obtain ⟨r0, r1, -⟩ := cell2 (ring_set (u := .slice g (withR r k ⟨p, true, 0⟩).fr.length c') (v := .int .i64 (withR r k ⟨p, true, 0⟩).hand) HQ4.out)
                refine bodyPost_ret (v := .tuple #[rgV g c' (withR r k ⟨p, true, 0⟩), .int .i64 0]) (by simp [results, Try.results23, go_sem, r0, r1]) rfl ?_
                rw [putR_ok hM hkn HF.out HG.out]
                exact ⟨_, _, rfl, slF_two HS4.out HQ4.out, below_two HB4.out (by omega)⟩
              · have hq2 : (r.fr[k].page == -1) = false := by simpa using hq
                go_wp2_with fail
                go_round
                case rel =>
                  refine ⟨k + 1, by omega, by simp, toHid fun j hj hjk => ?_⟩
                  by_cases e : j = k
                  · subst e; exact hq
                  · exact HU.out j hj (by omega)
                case measure => first | omega | (simp only [intOf]; omega)
            · obtain rfl : k = r.fr.length := by omega
              have HG := toHid (firI_none (l := r.fr) (p := -1) fun j hj => HU.out j hj hj)
              go_wp2
              obtain ⟨r0, r1, -⟩ := cell2 (ring_set (u := .slice none 0 0) (v := .int .i64 0) HQ2.out)
              refine bodyPost_ret (v := .tuple #[.agg #[.slice none 0 0, .int .i64 0], .int .i64 15]) (by simp [results, Try.results23, go_sem, r0, r1]) rfl ?_
              rw [putR_busy hM hkn HF.out HG.out]
              exact retR_zero rfl ((HB2.out.setCell (p := ⟨w.heap.size + 1, 0, none⟩) (by simp; try omega) _).setCell (p := ⟨w.heap.size + 1, 1, none⟩) (by simp; try omega) _)
        · have HF := toHid hf
          rw [hf]
          clear hf
          go_wp2
          obtain ⟨r0, r1, -⟩ := cell2 (ring_set (u := .slice none 0 0) (v := .int .i64 0) HQ2.out)
          refine bodyPost_ret (v := .tuple #[.agg #[.slice none 0 0, .int .i64 0], .int .i64 9]) (by simp [results, Try.results23, go_sem, r0, r1]) rfl ?_
          rw [putR_twice hM hkn (by rw [HF.out]; omega)]
          exact retR_zero rfl ((HB2.out.setCell (p := ⟨w.heap.size + 1, 0, none⟩) (by simp; try omega) _).setCell (p := ⟨w.heap.size + 1, 1, none⟩) (by simp; try omega) _)
  · go_enter Try.func23, Try.ntmps23
    go_wp2_with fail
    obtain ⟨i0, i1, i2, i3⟩ := al2 w (.cells (rgC a c r) 24) (.cells #[.slice none 0 0, .int .i64 0] 24)
    generalize World.alloc (World.alloc _ _) _ = W at i0 i1 i2 i3 ⊢
    have hsW := h.below i3
    refine Calls.mono (refmay_no a c r W hsW hl hM) ?_
    rintro e w1 ⟨rfl, hb1⟩
    have HB := toHid (below_on i3 hb1)
    have HP := toHid (box_in' i0 hb1)
    have HQ := toHid (box_in' i1 hb1)
    have hs1 := hsW.below hb1
    clear i0 i1 i2 i3 hsW hb1
    obtain ⟨p0, p1, p2, p3, p4⟩ := cell2 HP.out
    obtain ⟨q0, q1, q2, q3, q4⟩ := cell2 HQ.out
    go_wp2
    obtain ⟨r0, r1, -⟩ := cell2 (ring_set (u := .slice none 0 0) (v := .int .i64 0) HQ.out)
    refine bodyPost_ret (v := .tuple #[.agg #[.slice none 0 0, .int .i64 0], .int .i64 1]) (by simp [results, Try.results23, go_sem, r0, r1]) rfl ?_
    rw [putR_arg (fun x => hM x.1)]
    exact retR_zero rfl ((HB.out.setCell (p := ⟨w.heap.size + 1, 0, none⟩) (by simp; try omega) _).setCell (p := ⟨w.heap.size + 1, 1, none⟩) (by simp; try omega) _)

set_option maxHeartbeats 4000000 in
theorem refdrop_any (a : Option Addr) (c : Nat) (r : Rg) (p : Int) (w : World) (h : SlF w a r.fr) (hl : r.fr.length ≤ maxLen) :
    Calls Try.prog 24 #[rgV a c r, .int .i64 p] w fun e w' => RetR w w' (dropR r p) e := by
  rcases place_cases r p with ⟨hpl, hM⟩ | ⟨hpl, hM, hx⟩ | ⟨k, hk, hpl, hM, hkn, hf, hpg⟩
  · go_enter Try.func24, Try.ntmps24
    go_wp2_with fail
    obtain ⟨i0, i1, i2, i3⟩ := al2 w (.cells (rgC a c r) 24) (.cells #[.slice none 0 0, .int .i64 0] 24)
    generalize World.alloc (World.alloc _ _) _ = W at i0 i1 i2 i3 ⊢
    have hsW := h.below i3
    refine Calls.mono (refmay_no a c r W hsW hl hM) ?_
    rintro e w1 ⟨rfl, hb1⟩
    have HB := toHid (below_on i3 hb1)
    have HP := toHid (box_in' i0 hb1)
    have HQ := toHid (box_in' i1 hb1)
    have hs1 := hsW.below hb1
    clear i0 i1 i2 i3 hsW hb1
    obtain ⟨p0, p1, p2, p3, p4⟩ := cell2 HP.out
    obtain ⟨q0, q1, q2, q3, q4⟩ := cell2 HQ.out
    go_wp2
    obtain ⟨r0, r1, -⟩ := cell2 (ring_set (u := .slice none 0 0) (v := .int .i64 0) HQ.out)
    refine bodyPost_ret (v := .tuple #[.agg #[.slice none 0 0, .int .i64 0], .int .i64 1]) (by simp [results, Try.results24, go_sem, r0, r1]) rfl ?_
    rw [dropR_err hpl (by decide)]
    exact retR_zero rfl ((HB.out.setCell (p := ⟨w.heap.size + 1, 0, none⟩) (by simp; try omega) _).setCell (p := ⟨w.heap.size + 1, 1, none⟩) (by simp; try omega) _)
  · have hat : atR r p = -1 := by
      rcases hx with hx | hx
      · exact atR_un hx
      · cases hkn : knownB p
        · exact atR_un hkn
        · rw [atR_yes hM hkn]; exact hx
    go_enter Try.func24, Try.ntmps24
    go_wp2_with fail
    obtain ⟨i0, i1, i2, i3⟩ := al2 w (.cells (rgC a c r) 24) (.cells #[.slice none 0 0, .int .i64 0] 24)
    generalize World.alloc (World.alloc _ _) _ = W at i0 i1 i2 i3 ⊢
    have hsW := h.below i3
    refine Calls.mono (refmay_yes a c r W hsW hM) ?_
    rintro e w1 ⟨rfl, hb1⟩
    have HB := toHid (below_on i3 hb1)
    have HP := toHid (box_in' i0 hb1)
    have HQ := toHid (box_in' i1 hb1)
    have hs1 := hsW.below hb1
    clear i0 i1 i2 i3 hsW hb1
    obtain ⟨p0, p1, p2, p3, p4⟩ := cell2 HP.out
    obtain ⟨q0, q1, q2, q3, q4⟩ := cell2 HQ.out
    go_wp2_with fail
    refine Calls.mono (refat_any a c r p w1 hs1 hl) ?_
    rintro e w2 ⟨rfl, hb2⟩
    have HB2 := toHid (below_on HB.out hb2)
    have HP2 := toHid (box_in' HP.out hb2)
    have HQ2 := toHid (box_in' HQ.out hb2)
    have hs2 := hs1.below hb2
    clear HB HP HQ hs1 hb2 p0 p1 p2 p3 p4 q0 q1 q2 q3 q4
    obtain ⟨p0, p1, p2, p3, p4⟩ := cell2 HP2.out
    obtain ⟨q0, q1, q2, q3, q4⟩ := cell2 HQ2.out
    rw [hat]
    clear hat
    go_wp2
    obtain ⟨r0, r1, -⟩ := cell2 (ring_set (u := .slice none 0 0) (v := .int .i64 0) HQ2.out)
    refine bodyPost_ret (v := .tuple #[.agg #[.slice none 0 0, .int .i64 0], .int .i64 8]) (by simp [results, Try.results24, go_sem, r0, r1]) rfl ?_
    rw [dropR_err hpl (by decide)]
    exact retR_zero rfl ((HB2.out.setCell (p := ⟨w.heap.size + 1, 0, none⟩) (by simp; try omega) _).setCell (p := ⟨w.heap.size + 1, 1, none⟩) (by simp; try omega) _)
  · have hat : atR r p = (k : Int) := by rw [atR_yes hM hkn]; exact hf
    have h16 := hM.most
    have hpn := mayF_pins (hM.up.may k hk hk)
    go_enter Try.func24, Try.ntmps24
    go_wp2_with fail
    obtain ⟨i0, i1, i2, i3⟩ := al2 w (.cells (rgC a c r) 24) (.cells #[.slice none 0 0, .int .i64 0] 24)
    generalize World.alloc (World.alloc _ _) _ = W at i0 i1 i2 i3 ⊢
    have hsW := h.below i3
    refine Calls.mono (refmay_yes a c r W hsW hM) ?_
    rintro e w1 ⟨rfl, hb1⟩
    have HB := toHid (below_on i3 hb1)
    have HP := toHid (box_in' i0 hb1)
    have HQ := toHid (box_in' i1 hb1)
    have hs1 := hsW.below hb1
    clear i0 i1 i2 i3 hsW hb1
    obtain ⟨p0, p1, p2, p3, p4⟩ := cell2 HP.out
    obtain ⟨q0, q1, q2, q3, q4⟩ := cell2 HQ.out
    go_wp2_with fail
    refine Calls.mono (refat_any a c r p w1 hs1 hl) ?_
    rintro e w2 ⟨rfl, hb2⟩
    have HB2 := toHid (below_on HB.out hb2)
    have HP2 := toHid (box_in' HP.out hb2)
    have HQ2 := toHid (box_in' HQ.out hb2)
    have hs2 := hs1.below hb2
    clear HB HP HQ hs1 hb2 p0 p1 p2 p3 p4 q0 q1 q2 q3 q4
    obtain ⟨p0, p1, p2, p3, p4⟩ := cell2 HP2.out
    obtain ⟨q0, q1, q2, q3, q4⟩ := cell2 HQ2.out
    rw [hat]
    clear hat hf hpg
    obtain ⟨b, o, rfl, hbl, c0, c1, c2⟩ := hs2.at k hk
    by_cases hp : 0 < r.fr[k].pins
    · go_wp2
      obtain ⟨r0, r1, -⟩ := cell2 (ring_set (u := .slice none 0 0) (v := .int .i64 0) HQ2.out)
      refine bodyPost_ret (v := .tuple #[.agg #[.slice none 0 0, .int .i64 0], .int .i64 10]) (by simp [results, Try.results24, go_sem, r0, r1]) rfl ?_
      rw [dropR_pin hpl hk hp]
      exact retR_zero rfl ((HB2.out.setCell (p := ⟨w.heap.size + 1, 0, none⟩) (by simp; try omega) _).setCell (p := ⟨w.heap.size + 1, 1, none⟩) (by simp; try omega) _)
    · have hp' : r.fr[k].pins ≤ 0 := by omega
      go_wp2_with fail
      refine Calls.mono (refwith_nat _ c r k ⟨-1, false, 0⟩ w2 hs2 (by omega)) ?_
      rintro e w4 ⟨g, c', rfl, hs4, hb4⟩
      have HB4 := toHid (below_on HB2.out hb4)
      have HQ4 := toHid (box_in' HQ2.out hb4)
      have HS4 := toHid hs4
      clear hs4 hb4 p0 p1 p2 p3 p4 q0 q1 q2 q3 q4
      obtain ⟨q0, q1, q2, q3, q4⟩ := cell2 HQ4.out
      go_wp2
      obtain ⟨r0, r1, -⟩ := cell2 (ring_set (u := .slice g (withR r k ⟨-1, false, 0⟩).fr.length c') (v := .int .i64 (withR r k ⟨-1, false, 0⟩).hand) HQ4.out)
      refine bodyPost_ret (v := .tuple #[rgV g c' (withR r k ⟨-1, false, 0⟩), .int .i64 0]) (by simp [results, Try.results24, go_sem, r0, r1]) rfl ?_
      rw [dropR_ok hpl hk (by omega)]
      exact ⟨_, _, rfl, slF_two HS4.out HQ4.out, below_two HB4.out (by omega)⟩
end Go.Proofs.Ythhjjnoeiaaekaa
