/-
  What a cell's bytes are.
-/
import Derived.Test.YtcloinonhpaojaaNa
import Derived.Deep.RegionWith
import Derived.Deep.RegionHeld3
import Derived.Laws.ResultCell
namespace Go.Proofs.Ytcloinonhpaojaa
open Go.RowKit

theorem SlB.drew {w : World} {a : Option Addr} {l : List UInt8} (h : SlB w a l) : SlB w.drew a l := ⟨h.nonil, h.cells⟩
theorem conv_sub {W : World} {g o x c : Nat} {l m : List UInt8} (h : SlB W (some ⟨g, o, none⟩) l) (hm : (l.drop x).take m.length = m) : (convert 69 9 (.slice (some ⟨g, o + x, none⟩) m.length c)).run Try.prog W = .ok (.string (txt m)) W := by
  have := h.sub x m.length
  rw [hm] at this
  exact conv_slB this

set_option maxRecDepth 20000 in
set_option maxHeartbeats 2000000 in
theorem cellOf_page (g o C : Nat) (c : Cl) (w : World) (h : SlB w (some ⟨g, o, none⟩) (cellB c)) (hu : c.used = true) (hc : 1 ≤ c.key.length ∧ c.key.length ≤ 16 ∧ c.val.length ≤ 32) (hC : sizeC c ≤ C) :
    Calls Try.prog 86 #[.slice (some ⟨g, o, none⟩) (sizeC c) C] w fun e w' => e = .returned (.tuple #[.agg (cellV c), .bool true]) ∧ Below w.heap.size w w' := by
  have hsz : sizeC c = 1 + c.key.length + c.val.length := by simp [sizeC, hu]
  have hcl := cellB_length c
  have hcb : cellB c = [UInt8.ofNat c.key.length] ++ (c.key ++ c.val) := by simp [cellB, hu]
  obtain ⟨u, k, v⟩ := c
  simp only at hu hc hsz hcb
  subst hu
  rw [hsz] at hC ⊢
  have HS := (show Hid _ from h)
  obtain ⟨_, c0⟩ := h.atc 0 (by rw [hcl]; omega)
  have hb0 : ((cellB ⟨true, k, v⟩)[0]'(by rw [hcl]; omega)).toNat = k.length := by
    simp [hcb]
    omega
  rw [hb0] at c0
  have hgz : g < w.heap.size := World.block_lt_of_cell? _ _ c0
  have d1 : ((cellB ⟨true, k, v⟩).drop 1).take k.length = k := by rw [hcb]; simp
  have d2 : ((cellB ⟨true, k, v⟩).drop (1 + k.length)).take v.length = v := by
    rw [hcb, ← List.drop_drop]
    simp
  have hwk : IntKind.i64.wrap (k.length : Int) = (k.length : Int) := by simp [IntKind.wrap, IntKind.bits, IntKind.signed]; omega
  have hB1 : Below w.heap.size w (w.alloc (.cells #[.bool false, .string ⟨#[]⟩, .string ⟨#[]⟩] 98)) := (Below.refl _ _).alloc (Nat.le_refl _) _
  have hB2 : Below w.heap.size w ((w.alloc (.cells #[.bool false, .string ⟨#[]⟩, .string ⟨#[]⟩] 98)).alloc (.cells #[.bool false, .string ⟨#[]⟩, .string ⟨#[]⟩] 98)) := hB1.alloc (by simp) _
  have ck1 := conv_sub (c := C - 1) (m := k) (h.below hB1).drew d1
  have ck2 := conv_sub (c := C - 1) (m := k) (h.below hB2).drew d1
  have n1 : ¬ C = 1 := by omega
  have n2 : ¬ C ≤ 1 := by omega
  have m1 : 1 + k.length ≤ 1 + k.length + v.length := by omega
  clear h d1 hcb hsz hcl hb0
  simp only [Nat.add_zero] at c0
  have hz0 : ((1 + (k.length : Int) + (v.length : Int)) == 0) = false := by simp; omega
  go_enter Try.func86, Try.ntmps86
  go_wp2_with fail
  have HMay : Hid (∀ W, Calls Try.prog 31 #[.string (txt k), .string (txt v)] W fun e w' => e = .returned (.bool true) ∧ w' = W) := fun W => by
    have h := may_any k v W (by unfold maxLen; omega) (by unfold maxLen; omega)
    rw [show mayK k v = true by simp [mayK]; omega] at h
    exact h
  have hvl : 1 + k.length + v.length - (1 + k.length) = v.length := by omega
  have hvz : 1 + k.length - (1 + k.length) = 0 := by omega
  by_cases hcv : C = 1 + k.length
  · obtain rfl : v = [] := List.eq_nil_of_length_eq_zero (by omega)
    have cv1 := conv_sub (c := 0) (m := []) (x := 0) (HS.out.below hB1).drew (by simp)
    have cv2 := conv_sub (c := 0) (m := []) (x := 0) (HS.out.below hB2).drew (by simp)
    simp only [List.length_nil, Nat.add_zero] at cv1 cv2 ⊢
    have n3 : C - (1 + k.length) = 0 := by omega
    have n4 : 1 + k.length ≤ C := by omega
    clear hcv hvl m1
    go_region
    all_goals
      go_wp2_with fail
      refine wp_region_held_drew (S := (fun W => W.cell? ⟨w.heap.size + 1, 0, none⟩ = some (.bool true) ∧ W.cell? ⟨w.heap.size + 1, 1, none⟩ = some (.string (txt k)) ∧ W.cell? ⟨w.heap.size + 1, 2, none⟩ = some (.string (txt [])))) (by kernel_rfl) (by refine ⟨?_, ?_, ?_⟩ <;> simp [World.cell?_drew]) (fun hHeld => ?_)
      refine wpAnyH_take (i := 0) (v := ?_) rfl (by kernel_rfl) (by kernel_rfl) (by kernel_rfl) (fun _ _ _ h => h) (Or.inl ⟨by rfl, ?_⟩) (by assumption) ?_
      rotate_left
      · (intro W hSw; (try dsimp only at hSw); go_simp; try with_reducible rfl)
      try simp only [Act.put, List.getElem_toArray, List.getElem_cons_zero, List.setIfInBounds_toArray, List.set_cons_zero, List.set_cons_succ]
      refine wpAnyH_take (i := 1) (v := ?_) rfl (by kernel_rfl) (by kernel_rfl) (by kernel_rfl) (fun _ _ _ h => h) (Or.inl ⟨by rfl, ?_⟩) (by assumption) ?_
      rotate_left
      · (intro W hSw; (try dsimp only at hSw); go_simp; try with_reducible rfl)
      try simp only [Act.put, List.getElem_toArray, List.getElem_cons_zero, List.getElem_cons_succ, List.setIfInBounds_toArray, List.set_cons_zero, List.set_cons_succ]
      refine wpAnyH_take (i := 2) (v := ?_) rfl (by kernel_rfl) (by kernel_rfl) (by kernel_rfl) (fun _ _ _ h => h) (Or.inl ⟨by rfl, ?_⟩) (by assumption) ?_
      rotate_left
      · (intro W hSw; (try dsimp only at hSw); go_simp; try with_reducible rfl)
      try simp only [Act.put, List.getElem_toArray, List.getElem_cons_zero, List.getElem_cons_succ, List.setIfInBounds_toArray, List.set_cons_zero, List.set_cons_succ]
      refine wpAnyH_take (i := 3) (v := ?_) rfl (by kernel_rfl) (by kernel_rfl) (by kernel_rfl) (fun _ _ _ h => h) (Or.inl ⟨by rfl, ?_⟩) (by assumption) ?_
      rotate_left
      · (intro W hSw; (try dsimp only at hSw); go_simp; try with_reducible rfl)
      try simp only [Act.put, List.getElem_toArray, List.getElem_cons_zero, List.getElem_cons_succ, List.setIfInBounds_toArray, List.set_cons_zero, List.set_cons_succ]
      refine wpAnyH_take (i := 4) (v := ?_) rfl (by kernel_rfl) (by kernel_rfl) (by kernel_rfl) (fun _ _ _ h => h) (Or.inl ⟨by rfl, ?_⟩) (by assumption) ?_
      rotate_left
      · (intro W hSw; (try dsimp only at hSw); go_simp; try with_reducible rfl)
      try simp only [Act.put, List.getElem_toArray, List.getElem_cons_zero, List.getElem_cons_succ, List.setIfInBounds_toArray, List.set_cons_zero, List.set_cons_succ]
      refine wpAnyH_ready (rs := [5]) (by kernel_rfl) (by simp) ?_
      refine AllReadyH.cons rfl (fun K hK => ?_) AllReadyH.nil
      go_simp
      refine Calls.mono (HMay.out _) ?_
      rintro e wn ⟨rfl, hw⟩
      obtain rfl := hw.symm
      try go_wp2_with fail
      refine hK.out _ _ hHeld (fun hHeld => ?_)
      clear hK K
      try simp only [Act.put, List.getElem_toArray, List.getElem_cons_zero, List.getElem_cons_succ, List.setIfInBounds_toArray, List.set_cons_zero, List.set_cons_succ]
      refine wpAnyH_ready (rs := [6]) (by kernel_rfl) (by simp) ?_
      refine AllReadyH.cons rfl (fun K hK => ?_) AllReadyH.nil
      go_simp
      try go_wp2_with fail
      refine hK.out _ _ (by refine ⟨?_, ?_, ?_⟩ <;> simp [World.cell?_drew]) (fun hHeld => ?_)
      clear hK K
      try simp only [Act.put, List.getElem_toArray, List.getElem_cons_zero, List.getElem_cons_succ, List.setIfInBounds_toArray, List.set_cons_zero, List.set_cons_succ]
      refine wpAnyH_take (i := 7) (v := ?_) rfl (by kernel_rfl) (by kernel_rfl) (by kernel_rfl) (fun _ _ _ h => h) (Or.inl ⟨by rfl, ?_⟩) (by assumption) ?_
      rotate_left
      · (intro W hSw; (try dsimp only at hSw); go_simp; try with_reducible rfl)
      try simp only [Act.put, List.getElem_toArray, List.getElem_cons_zero, List.getElem_cons_succ, List.setIfInBounds_toArray, List.set_cons_zero, List.set_cons_succ]
      refine wpAnyH_done (by kernel_rfl) ?_ _
      clear hHeld ck1 ck2 cv1 cv2
      go_wp2
      (try simp only [Exit.inBlock, Exit.then])
      refine bodyPost_ret (v := .tuple #[.agg #[.bool true, .string (txt k), .string (txt [])], .bool true]) ?_ rfl ⟨rfl, (((Below.refl _ _).alloc (Nat.le_refl _) _).alloc (by simp) _).drew.drew⟩
      rw [results_cell_tmp rfl]
      go_simp
  · have cv1 := conv_sub (c := C - (1 + k.length)) (m := v) (HS.out.below hB1).drew d2
    have cv2 := conv_sub (c := C - (1 + k.length)) (m := v) (HS.out.below hB2).drew d2
    go_region
    all_goals
      go_wp2_with fail
      refine wp_region_held_drew (S := (fun W => W.cell? ⟨w.heap.size + 1, 0, none⟩ = some (.bool true) ∧ W.cell? ⟨w.heap.size + 1, 1, none⟩ = some (.string (txt k)) ∧ W.cell? ⟨w.heap.size + 1, 2, none⟩ = some (.string (txt v)))) (by kernel_rfl) (by refine ⟨?_, ?_, ?_⟩ <;> simp [World.cell?_drew]) (fun hHeld => ?_)
      refine wpAnyH_take (i := 0) (v := ?_) rfl (by kernel_rfl) (by kernel_rfl) (by kernel_rfl) (fun _ _ _ h => h) (Or.inl ⟨by rfl, ?_⟩) (by assumption) ?_
      rotate_left
      · (intro W hSw; (try dsimp only at hSw); go_simp; try with_reducible rfl)
      try simp only [Act.put, List.getElem_toArray, List.getElem_cons_zero, List.setIfInBounds_toArray, List.set_cons_zero, List.set_cons_succ]
      refine wpAnyH_take (i := 1) (v := ?_) rfl (by kernel_rfl) (by kernel_rfl) (by kernel_rfl) (fun _ _ _ h => h) (Or.inl ⟨by rfl, ?_⟩) (by assumption) ?_
      rotate_left
      · (intro W hSw; (try dsimp only at hSw); go_simp; try with_reducible rfl)
      try simp only [Act.put, List.getElem_toArray, List.getElem_cons_zero, List.getElem_cons_succ, List.setIfInBounds_toArray, List.set_cons_zero, List.set_cons_succ]
      refine wpAnyH_take (i := 2) (v := ?_) rfl (by kernel_rfl) (by kernel_rfl) (by kernel_rfl) (fun _ _ _ h => h) (Or.inl ⟨by rfl, ?_⟩) (by assumption) ?_
      rotate_left
      · (intro W hSw; (try dsimp only at hSw); go_simp; try with_reducible rfl)
      try simp only [Act.put, List.getElem_toArray, List.getElem_cons_zero, List.getElem_cons_succ, List.setIfInBounds_toArray, List.set_cons_zero, List.set_cons_succ]
      refine wpAnyH_take (i := 3) (v := ?_) rfl (by kernel_rfl) (by kernel_rfl) (by kernel_rfl) (fun _ _ _ h => h) (Or.inl ⟨by rfl, ?_⟩) (by assumption) ?_
      rotate_left
      · (intro W hSw; (try dsimp only at hSw); go_simp; try with_reducible rfl)
      try simp only [Act.put, List.getElem_toArray, List.getElem_cons_zero, List.getElem_cons_succ, List.setIfInBounds_toArray, List.set_cons_zero, List.set_cons_succ]
      refine wpAnyH_take (i := 4) (v := ?_) rfl (by kernel_rfl) (by kernel_rfl) (by kernel_rfl) (fun _ _ _ h => h) (Or.inl ⟨by rfl, ?_⟩) (by assumption) ?_
      rotate_left
      · (intro W hSw; (try dsimp only at hSw); go_simp; try with_reducible rfl)
      try simp only [Act.put, List.getElem_toArray, List.getElem_cons_zero, List.getElem_cons_succ, List.setIfInBounds_toArray, List.set_cons_zero, List.set_cons_succ]
      refine wpAnyH_ready (rs := [5]) (by kernel_rfl) (by simp) ?_
      refine AllReadyH.cons rfl (fun K hK => ?_) AllReadyH.nil
      go_simp
      refine Calls.mono (HMay.out _) ?_
      rintro e wn ⟨rfl, hw⟩
      obtain rfl := hw.symm
      try go_wp2_with fail
      refine hK.out _ _ hHeld (fun hHeld => ?_)
      clear hK K
      try simp only [Act.put, List.getElem_toArray, List.getElem_cons_zero, List.getElem_cons_succ, List.setIfInBounds_toArray, List.set_cons_zero, List.set_cons_succ]
      refine wpAnyH_ready (rs := [6]) (by kernel_rfl) (by simp) ?_
      refine AllReadyH.cons rfl (fun K hK => ?_) AllReadyH.nil
      go_simp
      try go_wp2_with fail
      refine hK.out _ _ (by refine ⟨?_, ?_, ?_⟩ <;> simp [World.cell?_drew]) (fun hHeld => ?_)
      clear hK K
      try simp only [Act.put, List.getElem_toArray, List.getElem_cons_zero, List.getElem_cons_succ, List.setIfInBounds_toArray, List.set_cons_zero, List.set_cons_succ]
      refine wpAnyH_take (i := 7) (v := ?_) rfl (by kernel_rfl) (by kernel_rfl) (by kernel_rfl) (fun _ _ _ h => h) (Or.inl ⟨by rfl, ?_⟩) (by assumption) ?_
      rotate_left
      · (intro W hSw; (try dsimp only at hSw); go_simp; try with_reducible rfl)
      try simp only [Act.put, List.getElem_toArray, List.getElem_cons_zero, List.getElem_cons_succ, List.setIfInBounds_toArray, List.set_cons_zero, List.set_cons_succ]
      refine wpAnyH_done (by kernel_rfl) ?_ _
      clear hHeld ck1 ck2 cv1 cv2
      go_wp2
      (try simp only [Exit.inBlock, Exit.then])
      refine bodyPost_ret (v := .tuple #[.agg #[.bool true, .string (txt k), .string (txt v)], .bool true]) ?_ rfl ⟨rfl, (((Below.refl _ _).alloc (Nat.le_refl _) _).alloc (by simp) _).drew.drew⟩
      rw [results_cell_tmp rfl]
      go_simp

end Go.Proofs.Ytcloinonhpaojaa
