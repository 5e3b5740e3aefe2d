/-
  PageReads: the document's Parse: all noughts, or a sum that is wrong.
-/
import Derived.Test.YtoahcihhpimmgaaYh
import Derived.Test.YtoahcihhpimmgaaNe
namespace Go.Proofs.Ytoahcihhpimmgaa
open Go.RowKit

theorem stored33 {W : World} {n : Nat} {a b c : Value} (x y z : Value) (h : W.heap[n]? = some (.cells #[a, b, c] 33)) : (((W.setCell ⟨n, 0, none⟩ x).setCell ⟨n, 1, none⟩ y).setCell ⟨n, 2, none⟩ z).heap[n]? = some (.cells #[x, y, z] 33) := by
  have h1 := heap_setCell_same W n 0 _ 33 x h
  have h2 := heap_setCell_same _ n 1 _ 33 y h1
  have h3 := heap_setCell_same _ n 2 _ 33 z h2
  exact h3
theorem below3 {W w : World} {n : Nat} (x y z : Value) (h : Below n w W) : Below n w (((W.setCell ⟨n, 0, none⟩ x).setCell ⟨n, 1, none⟩ y).setCell ⟨n, 2, none⟩ z) := ((h.setCell (Nat.le_refl _) _).setCell (Nat.le_refl _) _).setCell (Nat.le_refl _) _

set_option maxRecDepth 20000 in
set_option maxHeartbeats 4000000 in
theorem ref_zero (id : Nat) (b : List UInt8) (w : World) (hb : b.length = 512) (hid : id < 16) (hno : b.all (· == 0) = true) :
    Calls Try.prog 19 #[.int .i64 (id : Int), .string (txt b)] w fun e w' => e = .returned (.tuple #[.agg (refP (id : Int) 0 none 0 0), .int .i64 0]) ∧ Below w.heap.size w w' := by
  have hsz := txt_size b
  rw [hb] at hsz
  have hk := fun W => refid_any (id : Int) W
  rw [show (decide (0 ≤ (id : Int)) && decide ((id : Int) < 16)) = true by simp; omega] at hk
  have HK : Hid (∀ W, Calls Try.prog 10 #[.int .i64 (id : Int)] W fun e w' => e = .returned (.bool true) ∧ w' = W) := hk
  have HB : Hid (b.length = 512) := hb
  have HNO : Hid (b.all (· == 0) = true) := hno
  clear hk hb hno
  go_enter Try.func19, Try.ntmps19
  go_wp2_with fail
  refine Calls.mono (HK.out _) ?_
  rintro e w1 ⟨rfl, hw⟩
  obtain rfl := hw.symm
  go_wp2_with fail
  go_loop [6, 7] (fun e i => ∃ k : Nat, k ≤ 512 ∧ i = .int .i64 k ∧ e = .bool ((b.take k).all (· == 0))) (fun _ i => 512 - (intOf i).toNat)
  case atStart => exact ⟨0, Nat.zero_le _, rfl, rfl⟩
  case round =>
    obtain ⟨k, hk, rfl, rfl⟩ := hrel
    by_cases hlt : k < 512
    · have hlt' : (k : Int) < 512 := by omega
      have hkb : k < b.length := by rw [HB.out]; exact hlt
      obtain ⟨q, hq⟩ : ∃ q : Nat, (b[k]'hkb).toNat = q := ⟨_, rfl⟩
      have hxg : ∀ h, ((txt b)[k]'h).toNat = q := fun _ => hq
      have HT : Hid ((b.take (k + 1)).all (· == 0) = ((b.take k).all (· == 0) && (b[k]'hkb == 0))) := by
        show _ = _
        rw [List.take_succ_eq_append_getElem hkb, List.all_append]
        simp
      by_cases hz : q = 0
      · subst hz
        have hbz : (b[k]'hkb == 0) = true := by
          have := congrArg UInt8.ofNat hq
          simpa using this
        have HT2 : Hid ((b.take (k + 1)).all (· == 0) = (b.take k).all (· == 0)) := by rw [hbz, Bool.and_true] at HT; exact HT
        clear HT hbz hq
        go_wp2_with fail
        go_round
        case rel => exact ⟨k + 1, by omega, by simp, by rw [HT2.out]⟩
        case measure => first | omega | (simp only [intOf]; omega)
      · have hqn : ((q : Int) != 0) = true := by simp; omega
        have hbz : (b[k]'hkb == 0) = false := by
          rw [beq_eq_false_iff_ne]
          intro e
          rw [e] at hq
          exact hz (by simpa using hq.symm)
        have HT2 : Hid ((b.take (k + 1)).all (· == 0) = false) := by rw [hbz, Bool.and_false] at HT; exact HT
        clear HT hbz hq
        go_wp2_with fail
        go_round
        case rel => exact ⟨k + 1, by omega, by simp, by rw [HT2.out]⟩
        case measure => first | omega | (simp only [intOf]; omega)
    · obtain rfl : k = 512 := by omega
      have hall : (b.take 512).all (· == 0) = true := by rw [List.take_of_length_le (by rw [HB.out]; decide)]; exact HNO.out
      rw [hall]
      clear hk hlt
      go_wp2
      refine bodyPost_ret (v := .tuple #[.agg (refP (id : Int) 0 none 0 0), .int .i64 0]) ?_ rfl ⟨rfl, ?_⟩
      · simp [results, Try.results19, go_sem, refP]
      · first | exact (Below.refl _ _).alloc (Nat.le_refl _) _ | exact ((Below.refl _ _).alloc (Nat.le_refl _) _).setCell (Nat.le_refl _) _ | exact ((((Below.refl _ _).alloc (Nat.le_refl _) _).setCell (Nat.le_refl _) _).setCell (Nat.le_refl _) _).setCell (Nat.le_refl _) _

set_option maxRecDepth 20000 in
set_option maxHeartbeats 4000000 in
theorem ref_sum (id : Nat) (b : List UInt8) (w : World) (hb : b.length = 512) (hid : id < 16) (hno : b.all (· == 0) = false) (sm : Nat) (hm : more 0 (b.drop 4) = sm) (hne : b.take 4 ≠ leB sm 4) :
    Calls Try.prog 19 #[.int .i64 (id : Int), .string (txt b)] w fun e w' => e = .returned (.tuple #[.agg (refP 0 0 none 0 0), .int .i64 6]) ∧ Below w.heap.size w w' := by
  have hsz := txt_size b
  rw [hb] at hsz
  have hk := fun W => refid_any (id : Int) W
  rw [show (decide (0 ≤ (id : Int)) && decide ((id : Int) < 16)) = true by simp; omega] at hk
  have HK : Hid (∀ W, Calls Try.prog 10 #[.int .i64 (id : Int)] W fun e w' => e = .returned (.bool true) ∧ w' = W) := hk
  have HB : Hid (b.length = 512) := hb
  have HNO : Hid (b.all (· == 0) = false) := hno
  have HMo : Hid (more 0 (b.drop 4) = sm) := hm
  have HCmp : Hid (((txt (leB sm 4)).toList == (txt (b.take 4)).toList) = false) := by show _ = _; rw [txt_toList, txt_toList]; simpa using fun e => hne e.symm
  clear hm hne
  clear hk hb hno
  go_enter Try.func19, Try.ntmps19
  go_wp2_with fail
  refine Calls.mono (HK.out _) ?_
  rintro e w1 ⟨rfl, hw⟩
  obtain rfl := hw.symm
  go_wp2_with fail
  go_loop [6, 7] (fun e i => ∃ k : Nat, k ≤ 512 ∧ i = .int .i64 k ∧ e = .bool ((b.take k).all (· == 0))) (fun _ i => 512 - (intOf i).toNat)
  case atStart => exact ⟨0, Nat.zero_le _, rfl, rfl⟩
  case round =>
    obtain ⟨k, hk, rfl, rfl⟩ := hrel
    by_cases hlt : k < 512
    · have hlt' : (k : Int) < 512 := by omega
      have hkb : k < b.length := by rw [HB.out]; exact hlt
      obtain ⟨q, hq⟩ : ∃ q : Nat, (b[k]'hkb).toNat = q := ⟨_, rfl⟩
      have hxg : ∀ h, ((txt b)[k]'h).toNat = q := fun _ => hq
      have HT : Hid ((b.take (k + 1)).all (· == 0) = ((b.take k).all (· == 0) && (b[k]'hkb == 0))) := by
        show _ = _
        rw [List.take_succ_eq_append_getElem hkb, List.all_append]
        simp
      by_cases hz : q = 0
      · subst hz
        have hbz : (b[k]'hkb == 0) = true := by
          have := congrArg UInt8.ofNat hq
          simpa using this
        have HT2 : Hid ((b.take (k + 1)).all (· == 0) = (b.take k).all (· == 0)) := by rw [hbz, Bool.and_true] at HT; exact HT
        clear HT hbz hq
        go_wp2_with fail
        go_round
        case rel => exact ⟨k + 1, by omega, by simp, by rw [HT2.out]⟩
        case measure => first | omega | (simp only [intOf]; omega)
      · have hqn : ((q : Int) != 0) = true := by simp; omega
        have hbz : (b[k]'hkb == 0) = false := by
          rw [beq_eq_false_iff_ne]
          intro e
          rw [e] at hq
          exact hz (by simpa using hq.symm)
        have HT2 : Hid ((b.take (k + 1)).all (· == 0) = false) := by rw [hbz, Bool.and_false] at HT; exact HT
        clear HT hbz hq
        go_wp2_with fail
        go_round
        case rel => exact ⟨k + 1, by omega, by simp, by rw [HT2.out]⟩
        case measure => first | omega | (simp only [intOf]; omega)
    · obtain rfl : k = 512 := by omega
      have hall : (b.take 512).all (· == 0) = false := by rw [List.take_of_length_le (by rw [HB.out]; decide)]; exact HNO.out
      rw [hall]
      clear hk hlt
      have HM : Hid (∀ W, Calls Try.prog 48 #[.string (txt (b.drop 4))] W fun e w' => e = .returned (.int .u32 (sm : Int)) ∧ w' = W) := fun W => by
        have := refsum_any (txt (b.drop 4)) W (by rw [txt_size, List.length_drop, HB.out]; unfold maxLen; omega)
        have e : (txt (b.drop 4)).data.toList = b.drop 4 := by simp [txt]
        rw [e, HMo.out] at this
        exact this
      have HF : Hid (∀ W, Calls Try.prog 47 #[.int .u32 (sm : Int)] W fun e w' => e = .returned (.string (txt (leB sm 4))) ∧ Below W.heap.size W w') := fun W => four_any sm W (by rw [← HMo.out]; exact more_lt _ _)
      have x1 : (txt b).extract 4 512 = txt (b.drop 4) := by rw [txt_extract, List.take_of_length_le (by rw [List.length_drop, HB.out]; decide)]
      have x2 : (txt b).extract 0 4 = txt (b.take 4) := by rw [txt_extract]; rfl
      have hneq : ((txt (leB sm 4)).toList == (txt (b.take 4)).toList) = false := HCmp.out
      obtain ⟨W1, hW1⟩ : ∃ W1, W1 = w.alloc (.cells #[.int .i64 0, .int .u64 0, .slice none 0 0] 33) := ⟨_, rfl⟩
      have HW1 : Hid (W1 = w.alloc (.cells #[.int .i64 0, .int .u64 0, .slice none 0 0] 33)) := hW1
      have hz1 : W1.heap.size = w.heap.size + 1 := by rw [hW1]; simp
      have HZ1 : Hid (W1.heap.size = w.heap.size + 1) := hz1
      have HBW : Hid (Below w.heap.size w W1) := by show Below _ _ _; rw [hW1]; exact (Below.refl _ _).alloc (Nat.le_refl _) _
      have HC0 : Hid (W1.heap[w.heap.size]? = some (.cells #[.int .i64 0, .int .u64 0, .slice none 0 0] 33)) := by show _ = _; rw [hW1]; exact heap_alloc_new w _
      have HSS : Hid (Below W1.heap.size W1 W1.drew) := (Below.refl _ _).drew
      go_wp2_with fail
      simp only [← hW1]
      clear hW1 hz1
      refine wp_region_held_drew (S := (fun W => Below W1.heap.size W1 W)) (by kernel_rfl) HSS.out (fun hHeld => ?_)
      refine wpAnyH_take (i := 0) (v := ?_) rfl (by kernel_rfl) (by kernel_rfl) (by kernel_rfl) (fun _ _ _ h => h) (Or.inl ⟨by rfl, ?_⟩) (by assumption) ?_
      rotate_left
      · (intro W hSw; (try dsimp only at hSw); go_simp; try with_reducible rfl)
      try simp only [Act.put, List.getElem_toArray, List.getElem_cons_zero, List.setIfInBounds_toArray, List.set_cons_zero, List.set_cons_succ]
      refine wpAnyH_take (i := 1) (v := ?_) rfl (by kernel_rfl) (by kernel_rfl) (by kernel_rfl) (fun _ _ _ h => h) (Or.inl ⟨by rfl, ?_⟩) (by assumption) ?_
      rotate_left
      · (intro W hSw; (try dsimp only at hSw); go_simp; try with_reducible rfl)
      try simp only [Act.put, List.getElem_toArray, List.getElem_cons_zero, List.getElem_cons_succ, List.setIfInBounds_toArray, List.set_cons_zero, List.set_cons_succ]
      refine wpAnyH_take (i := 4) (v := ?_) rfl (by kernel_rfl) (by kernel_rfl) (by kernel_rfl) (fun _ _ _ h => h) (Or.inl ⟨by rfl, ?_⟩) (by assumption) ?_
      rotate_left
      · (intro W hSw; (try dsimp only at hSw); go_simp; try with_reducible rfl)
      try simp only [Act.put, List.getElem_toArray, List.getElem_cons_zero, List.getElem_cons_succ, List.setIfInBounds_toArray, List.set_cons_zero, List.set_cons_succ]
      refine wpAnyH_take (i := 5) (v := ?_) rfl (by kernel_rfl) (by kernel_rfl) (by kernel_rfl) (fun _ _ _ h => h) (Or.inl ⟨by rfl, ?_⟩) (by assumption) ?_
      rotate_left
      · (intro W hSw; (try dsimp only at hSw); go_simp; try with_reducible rfl)
      try simp only [Act.put, List.getElem_toArray, List.getElem_cons_zero, List.getElem_cons_succ, List.setIfInBounds_toArray, List.set_cons_zero, List.set_cons_succ]
      refine wpAnyH_ready (rs := [2]) (by kernel_rfl) (by simp) ?_
      refine AllReadyH.cons rfl (fun K hK => ?_) AllReadyH.nil
      go_simp
      refine Calls.mono (HM.out _) ?_
      rintro e wn ⟨rfl, hw⟩
      obtain rfl := hw.symm
      try go_wp2_with fail
      refine hK.out _ _ (hHeld) (fun hHeld => ?_)
      clear hK K
      try simp only [Act.put, List.getElem_toArray, List.getElem_cons_zero, List.getElem_cons_succ, List.setIfInBounds_toArray, List.set_cons_zero, List.set_cons_succ]
      refine wpAnyH_ready (rs := [3]) (by kernel_rfl) (by simp) ?_
      refine AllReadyH.cons rfl (fun K hK => ?_) AllReadyH.nil
      go_simp
      refine Calls.mono (HF.out _) ?_
      rintro e w5 ⟨rfl, hb5⟩
      have HB5 : Hid (Below W1.heap.size W1 w5) := hHeld.trans (hb5.mono hHeld.size)
      clear hb5 hHeld
      try go_wp2_with fail
      refine hK.out _ _ (HB5.out) (fun hHeld => ?_)
      clear hK K
      try simp only [Act.put, List.getElem_toArray, List.getElem_cons_zero, List.getElem_cons_succ, List.setIfInBounds_toArray, List.set_cons_zero, List.set_cons_succ]
      refine wpAnyH_take (i := 6) (v := ?_) rfl (by kernel_rfl) (by kernel_rfl) (by kernel_rfl) (fun _ _ _ h => h) (Or.inl ⟨by rfl, ?_⟩) (by assumption) ?_
      rotate_left
      · (intro W hSw; (try dsimp only at hSw); go_simp; try with_reducible rfl)
      try simp only [Act.put, List.getElem_toArray, List.getElem_cons_zero, List.getElem_cons_succ, List.setIfInBounds_toArray, List.set_cons_zero, List.set_cons_succ]
      refine wpAnyH_done (by kernel_rfl) ?_ _
      clear hHeld HM HF HSS
      have HC5 : Hid (w5.heap[w.heap.size]? = some (.cells #[.int .i64 0, .int .u64 0, .slice none 0 0] 33)) := by show _ = _; rw [HB5.out.block _ (by rw [HZ1.out]; omega)]; exact HC0.out
      have HW5 : Hid (Below w.heap.size w w5) := HBW.out.trans (HB5.out.mono (by rw [HZ1.out]; omega))
      have hz5 : w.heap.size < w5.heap.size := lt_of_blk HC5.out
      clear HB5 HBW HC0
      obtain ⟨g0, g1, g2, f0, f1, f2, hzz⟩ := cell3 HC5.out
      have hsE := stored33 (.int .i64 0) (.int .u64 0) (.slice none 0 0) HC5.out
      have hbE := below3 (.int .i64 0) (.int .u64 0) (.slice none 0 0) HW5.out
      go_wp2
      generalize (((World.setCell w5 ⟨w.heap.size, 0, none⟩ (.int .i64 0)).setCell ⟨w.heap.size, 1, none⟩ (.int .u64 0)).setCell ⟨w.heap.size, 2, none⟩ (.slice none 0 0)) = WE at *
      obtain ⟨r0, r1, r2, _⟩ := cell3 hsE
      refine bodyPost_ret (v := .tuple #[.agg (refP 0 0 none 0 0), .int .i64 6]) ?_ rfl ⟨rfl, hbE⟩
      simp [results, Try.results19, go_sem, refP, r0, r1, r2]

end Go.Proofs.Ytoahcihhpimmgaa
