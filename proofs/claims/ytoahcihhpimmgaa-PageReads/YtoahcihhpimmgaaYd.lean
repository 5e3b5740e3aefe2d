/-
  PageReads: what any cell's bytes are, whatever its key's length.
-/
import Derived.Test.YtoahcihhpimmgaaNb
import Derived.Test.YtoahcihhpimmgaaYb
namespace Go.Proofs.Ytoahcihhpimmgaa
open Go.RowKit

set_option maxRecDepth 20000 in
set_option maxHeartbeats 2000000 in
theorem cellOf_kv2 (g o C : Nat) (k v : List UInt8) (k0 : UInt8) (w : World) (h : SlB w (some ⟨g, o, none⟩) (k0 :: (k ++ v))) (hk0 : k0.toNat = k.length) (hC2 : 2 ≤ C) (hc : k.length + v.length ≤ 1000) (hC : 1 + k.length + v.length ≤ C) :
    Calls Try.prog 70 #[.slice (some ⟨g, o, none⟩) (1 + k.length + v.length) C] w fun e w' => e = .returned (.tuple #[.agg (cellV ⟨true, k, v⟩), .bool (mayK k v)]) ∧ Below w.heap.size w w' := by
  have hkl : k.length ≤ 255 := by rw [← hk0]; have := k0.toNat_lt; omega
  obtain ⟨q, hq⟩ : ∃ q, mayK k v = q := ⟨_, rfl⟩
  have HQ := (show Hid _ from hq)
  rw [hq]
  clear hq
  have HS := (show Hid _ from h)
  obtain ⟨_, c0⟩ := h.atc 0 (by simp)
  have hb0 : ((k0 :: (k ++ v))[0]'(by simp)).toNat = k.length := hk0
  rw [hb0] at c0
  have hgz : g < w.heap.size := World.block_lt_of_cell? _ _ c0
  have d1 : ((k0 :: (k ++ v)).drop 1).take k.length = k := by simp
  have d2 : ((k0 :: (k ++ v)).drop (1 + k.length)).take v.length = v := by
    rw [← List.drop_drop]
    simp
  have hwk : IntKind.i64.wrap (k.length : Int) = (k.length : Int) := by simp [IntKind.wrap, IntKind.bits, IntKind.signed]; omega
  have hB1 : Below w.heap.size w (w.alloc (.cells #[.bool false, .string ⟨#[]⟩, .string ⟨#[]⟩] 65)) := (Below.refl _ _).alloc (Nat.le_refl _) _
  have hB2 : Below w.heap.size w ((w.alloc (.cells #[.bool false, .string ⟨#[]⟩, .string ⟨#[]⟩] 65)).alloc (.cells #[.bool false, .string ⟨#[]⟩, .string ⟨#[]⟩] 65)) := hB1.alloc (by simp) _
  have ck1 := conv_sub (c := C - 1) (m := k) (h.below hB1).drew d1
  have ck2 := conv_sub (c := C - 1) (m := k) (h.below hB2).drew d1
  have n1 : ¬ C = 1 := by omega
  have n2 : ¬ C ≤ 1 := by omega
  have m1 : 1 + k.length ≤ 1 + k.length + v.length := by omega
  clear h d1 hb0
  simp only [Nat.add_zero] at c0
  have hz0 : ((1 + (k.length : Int) + (v.length : Int)) == 0) = false := by simp; omega
  go_enter Try.func70, Try.ntmps70
  go_wp2_with fail
  have HMay : Hid (∀ W, Calls Try.prog 55 #[.string (txt k), .string (txt v)] W fun e w' => e = .returned (.bool q) ∧ w' = W) := fun W => by
    have h := may_any k v W (by unfold maxLen; omega) (by unfold maxLen; omega)
    rw [HQ.out] at h
    exact h
  have hvl : 1 + k.length + v.length - (1 + k.length) = v.length := by omega
  have hvz : 1 + k.length - (1 + k.length) = 0 := by omega
  by_cases hcv : C = 1 + k.length
  · obtain rfl : v = [] := List.eq_nil_of_length_eq_zero (by omega)
    have cv1 := conv_sub (c := 0) (m := []) (x := 0) (HS.out.below hB1).drew (by simp)
    have cv2 := conv_sub (c := 0) (m := []) (x := 0) (HS.out.below hB2).drew (by simp)
    simp only [List.length_nil, Nat.add_zero] at cv1 cv2 ⊢
    have n3 : C - (1 + k.length) = 0 := by omega
    have n4 : 1 + k.length ≤ C := by omega
    clear hcv hvl m1
    go_region
    all_goals
      go_wp2_with fail
      refine wp_region_held_drew (S := (fun W => W.cell? ⟨w.heap.size + 1, 0, none⟩ = some (.bool true) ∧ W.cell? ⟨w.heap.size + 1, 1, none⟩ = some (.string (txt k)) ∧ W.cell? ⟨w.heap.size + 1, 2, none⟩ = some (.string (txt [])))) (by kernel_rfl) (by refine ⟨?_, ?_, ?_⟩ <;> simp [World.cell?_drew]) (fun hHeld => ?_)
      refine wpAnyH_take (i := 0) (v := ?_) rfl (by kernel_rfl) (by kernel_rfl) (by kernel_rfl) (fun _ _ _ h => h) (Or.inl ⟨by rfl, ?_⟩) (by assumption) ?_
      rotate_left
      · (intro W hSw; (try dsimp only at hSw); go_simp; try with_reducible rfl)
      try simp only [Act.put, List.getElem_toArray, List.getElem_cons_zero, List.setIfInBounds_toArray, List.set_cons_zero, List.set_cons_succ]
      refine wpAnyH_take (i := 1) (v := ?_) rfl (by kernel_rfl) (by kernel_rfl) (by kernel_rfl) (fun _ _ _ h => h) (Or.inl ⟨by rfl, ?_⟩) (by assumption) ?_
      rotate_left
      · (intro W hSw; (try dsimp only at hSw); go_simp; try with_reducible rfl)
      try simp only [Act.put, List.getElem_toArray, List.getElem_cons_zero, List.getElem_cons_succ, List.setIfInBounds_toArray, List.set_cons_zero, List.set_cons_succ]
      refine wpAnyH_take (i := 2) (v := ?_) rfl (by kernel_rfl) (by kernel_rfl) (by kernel_rfl) (fun _ _ _ h => h) (Or.inl ⟨by rfl, ?_⟩) (by assumption) ?_
      rotate_left
      · (intro W hSw; (try dsimp only at hSw); go_simp; try with_reducible rfl)
      try simp only [Act.put, List.getElem_toArray, List.getElem_cons_zero, List.getElem_cons_succ, List.setIfInBounds_toArray, List.set_cons_zero, List.set_cons_succ]
      refine wpAnyH_take (i := 3) (v := ?_) rfl (by kernel_rfl) (by kernel_rfl) (by kernel_rfl) (fun _ _ _ h => h) (Or.inl ⟨by rfl, ?_⟩) (by assumption) ?_
      rotate_left
      · (intro W hSw; (try dsimp only at hSw); go_simp; try with_reducible rfl)
      try simp only [Act.put, List.getElem_toArray, List.getElem_cons_zero, List.getElem_cons_succ, List.setIfInBounds_toArray, List.set_cons_zero, List.set_cons_succ]
      refine wpAnyH_take (i := 4) (v := ?_) rfl (by kernel_rfl) (by kernel_rfl) (by kernel_rfl) (fun _ _ _ h => h) (Or.inl ⟨by rfl, ?_⟩) (by assumption) ?_
      rotate_left
      · (intro W hSw; (try dsimp only at hSw); go_simp; try with_reducible rfl)
      try simp only [Act.put, List.getElem_toArray, List.getElem_cons_zero, List.getElem_cons_succ, List.setIfInBounds_toArray, List.set_cons_zero, List.set_cons_succ]
      refine wpAnyH_ready (rs := [5]) (by kernel_rfl) (by simp) ?_
      refine AllReadyH.cons rfl (fun K hK => ?_) AllReadyH.nil
      go_simp
      refine Calls.mono (HMay.out _) ?_
      rintro e wn ⟨rfl, hw⟩
      obtain rfl := hw.symm
      try go_wp2_with fail
      refine hK.out _ _ hHeld (fun hHeld => ?_)
      clear hK K
      try simp only [Act.put, List.getElem_toArray, List.getElem_cons_zero, List.getElem_cons_succ, List.setIfInBounds_toArray, List.set_cons_zero, List.set_cons_succ]
      refine wpAnyH_ready (rs := [6]) (by kernel_rfl) (by simp) ?_
      refine AllReadyH.cons rfl (fun K hK => ?_) AllReadyH.nil
      go_simp
      try go_wp2_with fail
      refine hK.out _ _ (by refine ⟨?_, ?_, ?_⟩ <;> simp [World.cell?_drew]) (fun hHeld => ?_)
      clear hK K
      try simp only [Act.put, List.getElem_toArray, List.getElem_cons_zero, List.getElem_cons_succ, List.setIfInBounds_toArray, List.set_cons_zero, List.set_cons_succ]
      refine wpAnyH_take (i := 7) (v := ?_) rfl (by kernel_rfl) (by kernel_rfl) (by kernel_rfl) (fun _ _ _ h => h) (Or.inl ⟨by rfl, ?_⟩) (by assumption) ?_
      rotate_left
      · (intro W hSw; (try dsimp only at hSw); go_simp; try with_reducible rfl)
      try simp only [Act.put, List.getElem_toArray, List.getElem_cons_zero, List.getElem_cons_succ, List.setIfInBounds_toArray, List.set_cons_zero, List.set_cons_succ]
      refine wpAnyH_done (by kernel_rfl) ?_ _
      clear hHeld ck1 ck2 cv1 cv2
      go_wp2
      (try simp only [Exit.inBlock, Exit.then])
      refine bodyPost_ret (v := .tuple #[.agg #[.bool true, .string (txt k), .string (txt [])], .bool q]) ?_ rfl ⟨rfl, (((Below.refl _ _).alloc (Nat.le_refl _) _).alloc (by simp) _).drew.drew⟩
      rw [results_cell_tmp rfl]
      go_simp
  · have cv1 := conv_sub (c := C - (1 + k.length)) (m := v) (HS.out.below hB1).drew d2
    have cv2 := conv_sub (c := C - (1 + k.length)) (m := v) (HS.out.below hB2).drew d2
    go_region
    all_goals
      go_wp2_with fail
      refine wp_region_held_drew (S := (fun W => W.cell? ⟨w.heap.size + 1, 0, none⟩ = some (.bool true) ∧ W.cell? ⟨w.heap.size + 1, 1, none⟩ = some (.string (txt k)) ∧ W.cell? ⟨w.heap.size + 1, 2, none⟩ = some (.string (txt v)))) (by kernel_rfl) (by refine ⟨?_, ?_, ?_⟩ <;> simp [World.cell?_drew]) (fun hHeld => ?_)
      refine wpAnyH_take (i := 0) (v := ?_) rfl (by kernel_rfl) (by kernel_rfl) (by kernel_rfl) (fun _ _ _ h => h) (Or.inl ⟨by rfl, ?_⟩) (by assumption) ?_
      rotate_left
      · (intro W hSw; (try dsimp only at hSw); go_simp; try with_reducible rfl)
      try simp only [Act.put, List.getElem_toArray, List.getElem_cons_zero, List.setIfInBounds_toArray, List.set_cons_zero, List.set_cons_succ]
      refine wpAnyH_take (i := 1) (v := ?_) rfl (by kernel_rfl) (by kernel_rfl) (by kernel_rfl) (fun _ _ _ h => h) (Or.inl ⟨by rfl, ?_⟩) (by assumption) ?_
      rotate_left
      · (intro W hSw; (try dsimp only at hSw); go_simp; try with_reducible rfl)
      try simp only [Act.put, List.getElem_toArray, List.getElem_cons_zero, List.getElem_cons_succ, List.setIfInBounds_toArray, List.set_cons_zero, List.set_cons_succ]
      refine wpAnyH_take (i := 2) (v := ?_) rfl (by kernel_rfl) (by kernel_rfl) (by kernel_rfl) (fun _ _ _ h => h) (Or.inl ⟨by rfl, ?_⟩) (by assumption) ?_
      rotate_left
      · (intro W hSw; (try dsimp only at hSw); go_simp; try with_reducible rfl)
      try simp only [Act.put, List.getElem_toArray, List.getElem_cons_zero, List.getElem_cons_succ, List.setIfInBounds_toArray, List.set_cons_zero, List.set_cons_succ]
      refine wpAnyH_take (i := 3) (v := ?_) rfl (by kernel_rfl) (by kernel_rfl) (by kernel_rfl) (fun _ _ _ h => h) (Or.inl ⟨by rfl, ?_⟩) (by assumption) ?_
      rotate_left
      · (intro W hSw; (try dsimp only at hSw); go_simp; try with_reducible rfl)
      try simp only [Act.put, List.getElem_toArray, List.getElem_cons_zero, List.getElem_cons_succ, List.setIfInBounds_toArray, List.set_cons_zero, List.set_cons_succ]
      refine wpAnyH_take (i := 4) (v := ?_) rfl (by kernel_rfl) (by kernel_rfl) (by kernel_rfl) (fun _ _ _ h => h) (Or.inl ⟨by rfl, ?_⟩) (by assumption) ?_
      rotate_left
      · (intro W hSw; (try dsimp only at hSw); go_simp; try with_reducible rfl)
      try simp only [Act.put, List.getElem_toArray, List.getElem_cons_zero, List.getElem_cons_succ, List.setIfInBounds_toArray, List.set_cons_zero, List.set_cons_succ]
      refine wpAnyH_ready (rs := [5]) (by kernel_rfl) (by simp) ?_
      refine AllReadyH.cons rfl (fun K hK => ?_) AllReadyH.nil
      go_simp
      refine Calls.mono (HMay.out _) ?_
      rintro e wn ⟨rfl, hw⟩
      obtain rfl := hw.symm
      try go_wp2_with fail
      refine hK.out _ _ hHeld (fun hHeld => ?_)
      clear hK K
      try simp only [Act.put, List.getElem_toArray, List.getElem_cons_zero, List.getElem_cons_succ, List.setIfInBounds_toArray, List.set_cons_zero, List.set_cons_succ]
      refine wpAnyH_ready (rs := [6]) (by kernel_rfl) (by simp) ?_
      refine AllReadyH.cons rfl (fun K hK => ?_) AllReadyH.nil
      go_simp
      try go_wp2_with fail
      refine hK.out _ _ (by refine ⟨?_, ?_, ?_⟩ <;> simp [World.cell?_drew]) (fun hHeld => ?_)
      clear hK K
      try simp only [Act.put, List.getElem_toArray, List.getElem_cons_zero, List.getElem_cons_succ, List.setIfInBounds_toArray, List.set_cons_zero, List.set_cons_succ]
      refine wpAnyH_take (i := 7) (v := ?_) rfl (by kernel_rfl) (by kernel_rfl) (by kernel_rfl) (fun _ _ _ h => h) (Or.inl ⟨by rfl, ?_⟩) (by assumption) ?_
      rotate_left
      · (intro W hSw; (try dsimp only at hSw); go_simp; try with_reducible rfl)
      try simp only [Act.put, List.getElem_toArray, List.getElem_cons_zero, List.getElem_cons_succ, List.setIfInBounds_toArray, List.set_cons_zero, List.set_cons_succ]
      refine wpAnyH_done (by kernel_rfl) ?_ _
      clear hHeld ck1 ck2 cv1 cv2
      go_wp2
      (try simp only [Exit.inBlock, Exit.then])
      refine bodyPost_ret (v := .tuple #[.agg #[.bool true, .string (txt k), .string (txt v)], .bool q]) ?_ rfl ⟨rfl, (((Below.refl _ _).alloc (Nat.le_refl _) _).alloc (by simp) _).drew.drew⟩
      rw [results_cell_tmp rfl]
      go_simp


theorem zero3 (w : World) : (w.alloc (.cells #[.bool false, .string ⟨#[]⟩, .string ⟨#[]⟩] 65)).heap[w.heap.size]? = some (.cells #[.bool false, .string ⟨#[]⟩, .string ⟨#[]⟩] 65) := heap_alloc_new w _

set_option maxHeartbeats 1000000 in
theorem cellOf_none (a : Option Addr) (C : Nat) (w : World) :
    Calls Try.prog 70 #[.slice a 0 C] w fun e w' => e = .returned (.tuple #[.agg (cellV Cl.none), .bool false]) ∧ Below w.heap.size w w' := by
  go_enter Try.func70, Try.ntmps70
  go_wp2
  refine bodyPost_ret (v := .tuple #[.agg (cellV Cl.none), .bool false]) (by simp [results, Try.results70, go_sem, cellV, Cl.none, txt]) rfl ⟨rfl, (Below.refl _ _).alloc (Nat.le_refl _) _⟩

set_option maxHeartbeats 1000000 in
theorem cellOf_few (g o C n : Nat) (k0 : UInt8) (r : List UInt8) (w : World) (h : SlB w (some ⟨g, o, none⟩) (k0 :: r)) (hn : (k0 :: r).length = n) (hn2 : n ≤ 1000) (hf : n < 1 + k0.toNat) :
    Calls Try.prog 70 #[.slice (some ⟨g, o, none⟩) n C] w fun e w' => e = .returned (.tuple #[.agg (cellV Cl.none), .bool false]) ∧ Below w.heap.size w w' := by
  obtain ⟨_, c0⟩ := h.atc 0 (by simp)
  have hgz : g < w.heap.size := World.block_lt_of_cell? _ _ c0
  have hb0 : ((k0 :: r)[0]'(by simp)).toNat = k0.toNat := rfl
  rw [hb0] at c0
  simp only [Nat.add_zero] at c0
  have hk := k0.toNat_lt
  obtain ⟨q, hq⟩ : ∃ q : Nat, k0.toNat = q := ⟨_, rfl⟩
  rw [hq] at c0 hf hk
  have hn0 : 0 < n := by rw [← hn]; simp
  have hz0 : ((n : Int) == 0) = false := by simp; omega
  have hwk : IntKind.i64.wrap (q : Int) = (q : Int) := by simp [IntKind.wrap, IntKind.bits, IntKind.signed]; omega
  have hlt : (n : Int) < 1 + (q : Int) := by omega
  have hgn : ¬ g = w.heap.size := by omega
  clear h hn hq hb0
  go_enter Try.func70, Try.ntmps70
  go_wp2
  refine bodyPost_ret (v := .tuple #[.agg (cellV Cl.none), .bool false]) (by simp [results, Try.results70, go_sem, cellV, Cl.none, txt]) rfl ⟨rfl, (Below.refl _ _).alloc (Nat.le_refl _) _⟩


set_option maxRecDepth 20000 in
set_option maxHeartbeats 2000000 in
theorem cellOf_one (g o : Nat) (w : World) (h : SlB w (some ⟨g, o, none⟩) [0]) :
    Calls Try.prog 70 #[.slice (some ⟨g, o, none⟩) 1 1] w fun e w' => e = .returned (.tuple #[.agg (cellV ⟨true, [], []⟩), .bool false]) ∧ Below w.heap.size w w' := by
  have HS := (show Hid _ from h)
  obtain ⟨_, c0⟩ := h.atc 0 (by simp)
  have hb0 : (([0] : List UInt8)[0]'(by simp)).toNat = 0 := rfl
  rw [hb0] at c0
  have hgz : g < w.heap.size := World.block_lt_of_cell? _ _ c0
  have hB1 : Below w.heap.size w (w.alloc (.cells #[.bool false, .string ⟨#[]⟩, .string ⟨#[]⟩] 65)) := (Below.refl _ _).alloc (Nat.le_refl _) _
  have hB2 : Below w.heap.size w ((w.alloc (.cells #[.bool false, .string ⟨#[]⟩, .string ⟨#[]⟩] 65)).alloc (.cells #[.bool false, .string ⟨#[]⟩, .string ⟨#[]⟩] 65)) := hB1.alloc (by simp) _
  clear h hb0
  simp only [Nat.add_zero] at c0
  go_enter Try.func70, Try.ntmps70
  go_wp2_with fail
  have HMay : Hid (∀ W, Calls Try.prog 55 #[.string (txt []), .string (txt [])] W fun e w' => e = .returned (.bool false) ∧ w' = W) := fun W => by
    have h := may_any [] [] W (by simp) (by simp)
    exact h
  have cv1 := conv_sub (c := 0) (m := []) (x := 0) (HS.out.below hB1).drew (by simp)
  have cv2 := conv_sub (c := 0) (m := []) (x := 0) (HS.out.below hB2).drew (by simp)
  simp only [List.length_nil, Nat.add_zero] at cv1 cv2 ⊢
  go_region
  all_goals
    go_wp2_with fail
    refine wp_region_held_drew (S := (fun W => W.cell? ⟨w.heap.size + 1, 0, none⟩ = some (.bool true) ∧ W.cell? ⟨w.heap.size + 1, 1, none⟩ = some (.string (txt [])) ∧ W.cell? ⟨w.heap.size + 1, 2, none⟩ = some (.string (txt [])))) (by kernel_rfl) (by refine ⟨?_, ?_, ?_⟩ <;> simp [World.cell?_drew]) (fun hHeld => ?_)
    refine wpAnyH_take (i := 0) (v := ?_) rfl (by kernel_rfl) (by kernel_rfl) (by kernel_rfl) (fun _ _ _ h => h) (Or.inl ⟨by rfl, ?_⟩) (by assumption) ?_
    rotate_left
    · (intro W hSw; (try dsimp only at hSw); go_simp; try with_reducible rfl)
    try simp only [Act.put, List.getElem_toArray, List.getElem_cons_zero, List.setIfInBounds_toArray, List.set_cons_zero, List.set_cons_succ]
    refine wpAnyH_take (i := 1) (v := ?_) rfl (by kernel_rfl) (by kernel_rfl) (by kernel_rfl) (fun _ _ _ h => h) (Or.inl ⟨by rfl, ?_⟩) (by assumption) ?_
    rotate_left
    · (intro W hSw; (try dsimp only at hSw); go_simp; try with_reducible rfl)
    try simp only [Act.put, List.getElem_toArray, List.getElem_cons_zero, List.getElem_cons_succ, List.setIfInBounds_toArray, List.set_cons_zero, List.set_cons_succ]
    refine wpAnyH_take (i := 2) (v := ?_) rfl (by kernel_rfl) (by kernel_rfl) (by kernel_rfl) (fun _ _ _ h => h) (Or.inl ⟨by rfl, ?_⟩) (by assumption) ?_
    rotate_left
    · (intro W hSw; (try dsimp only at hSw); go_simp; try with_reducible rfl)
    try simp only [Act.put, List.getElem_toArray, List.getElem_cons_zero, List.getElem_cons_succ, List.setIfInBounds_toArray, List.set_cons_zero, List.set_cons_succ]
    refine wpAnyH_take (i := 3) (v := ?_) rfl (by kernel_rfl) (by kernel_rfl) (by kernel_rfl) (fun _ _ _ h => h) (Or.inl ⟨by rfl, ?_⟩) (by assumption) ?_
    rotate_left
    · (intro W hSw; (try dsimp only at hSw); go_simp; try with_reducible rfl)
    try simp only [Act.put, List.getElem_toArray, List.getElem_cons_zero, List.getElem_cons_succ, List.setIfInBounds_toArray, List.set_cons_zero, List.set_cons_succ]
    refine wpAnyH_take (i := 4) (v := ?_) rfl (by kernel_rfl) (by kernel_rfl) (by kernel_rfl) (fun _ _ _ h => h) (Or.inl ⟨by rfl, ?_⟩) (by assumption) ?_
    rotate_left
    · (intro W hSw; (try dsimp only at hSw); go_simp; try with_reducible rfl)
    try simp only [Act.put, List.getElem_toArray, List.getElem_cons_zero, List.getElem_cons_succ, List.setIfInBounds_toArray, List.set_cons_zero, List.set_cons_succ]
    refine wpAnyH_ready (rs := [5]) (by kernel_rfl) (by simp) ?_
    refine AllReadyH.cons rfl (fun K hK => ?_) AllReadyH.nil
    go_simp
    refine Calls.mono (HMay.out _) ?_
    rintro e wn ⟨rfl, hw⟩
    obtain rfl := hw.symm
    try go_wp2_with fail
    refine hK.out _ _ hHeld (fun hHeld => ?_)
    clear hK K
    try simp only [Act.put, List.getElem_toArray, List.getElem_cons_zero, List.getElem_cons_succ, List.setIfInBounds_toArray, List.set_cons_zero, List.set_cons_succ]
    refine wpAnyH_ready (rs := [6]) (by kernel_rfl) (by simp) ?_
    refine AllReadyH.cons rfl (fun K hK => ?_) AllReadyH.nil
    go_simp
    try go_wp2_with fail
    refine hK.out _ _ (by refine ⟨?_, ?_, ?_⟩ <;> simp [World.cell?_drew]) (fun hHeld => ?_)
    clear hK K
    try simp only [Act.put, List.getElem_toArray, List.getElem_cons_zero, List.getElem_cons_succ, List.setIfInBounds_toArray, List.set_cons_zero, List.set_cons_succ]
    refine wpAnyH_take (i := 7) (v := ?_) rfl (by kernel_rfl) (by kernel_rfl) (by kernel_rfl) (fun _ _ _ h => h) (Or.inl ⟨by rfl, ?_⟩) (by assumption) ?_
    rotate_left
    · (intro W hSw; (try dsimp only at hSw); go_simp; try with_reducible rfl)
    try simp only [Act.put, List.getElem_toArray, List.getElem_cons_zero, List.getElem_cons_succ, List.setIfInBounds_toArray, List.set_cons_zero, List.set_cons_succ]
    refine wpAnyH_done (by kernel_rfl) ?_ _
    clear hHeld cv1 cv2
    go_wp2
    (try simp only [Exit.inBlock, Exit.then])
    refine bodyPost_ret (v := .tuple #[.agg #[.bool true, .string (txt []), .string (txt [])], .bool false]) ?_ rfl ⟨rfl, (((Below.refl _ _).alloc (Nat.le_refl _) _).alloc (by simp) _).drew.drew⟩
    rw [results_cell_tmp rfl]
    go_simp

/-- What any cell's bytes are. -/
theorem cellOf_any (g o C n : Nat) (m : List UInt8) (w : World) (h : SlB w (some ⟨g, o, none⟩) m) (hn : m.length = n) (hn2 : n ≤ 1000) (hC : n ≤ C) :
    Calls Try.prog 70 #[.slice (some ⟨g, o, none⟩) n C] w fun e w' => ∃ c ok, e = .returned (.tuple #[.agg (cellV c), .bool ok]) ∧ Below w.heap.size w w' ∧ (ok = true → ∃ k r, m = k :: r ∧ 1 + k.toNat ≤ n ∧ c = ⟨true, r.take k.toNat, r.drop k.toNat⟩ ∧ mayK (r.take k.toNat) (r.drop k.toNat) = true) := by
  cases m with
  | nil =>
    obtain rfl : n = 0 := by simpa using hn.symm
    exact (cellOf_none _ C w).mono fun e w' ⟨he, hb⟩ => ⟨Cl.none, false, he, hb, by simp⟩
  | cons k0 r =>
    have hrl : r.length + 1 = n := by simpa using hn
    by_cases hf : n < 1 + k0.toNat
    · exact (cellOf_few g o C n k0 r w h hn hn2 hf).mono fun e w' ⟨he, hb⟩ => ⟨Cl.none, false, he, hb, by simp⟩
    · have hkl : (r.take k0.toNat).length = k0.toNat := by rw [List.length_take]; omega
      have hvl : (r.drop k0.toNat).length = n - 1 - k0.toNat := by rw [List.length_drop]; omega
      by_cases hC2 : 2 ≤ C
      · have hm : k0 :: r = k0 :: (r.take k0.toNat ++ r.drop k0.toNat) := by rw [List.take_append_drop]
        have h' : SlB w (some ⟨g, o, none⟩) (k0 :: (r.take k0.toNat ++ r.drop k0.toNat)) := by rw [← hm]; exact h
        have hq := cellOf_kv2 g o C (r.take k0.toNat) (r.drop k0.toNat) k0 w h' hkl.symm hC2 (by rw [hkl, hvl]; omega) (by rw [hkl, hvl]; omega)
        rw [show 1 + (r.take k0.toNat).length + (r.drop k0.toNat).length = n by rw [hkl, hvl]; omega] at hq
        exact hq.mono fun e w' ⟨he, hb⟩ => ⟨_, _, he, hb, fun hok => ⟨k0, r, rfl, by omega, rfl, hok⟩⟩
      · obtain rfl : n = 1 := by omega
        obtain rfl : C = 1 := by omega
        obtain rfl : r = [] := List.eq_nil_of_length_eq_zero (by omega)
        have hk00 : k0.toNat = 0 := by omega
        have hk0 : k0 = 0 := by
          have := congrArg UInt8.ofNat hk00
          simpa using this
        subst hk0
        exact (cellOf_one g o w h).mono fun e w' ⟨he, hb⟩ => ⟨_, false, he, hb, by simp⟩

end Go.Proofs.Ytoahcihhpimmgaa
