/-
  NetPlays: has the net in each row what the document's has?
-/
import Derived.Test.YtfdpmffoajjchaaPf
namespace Go.Proofs.Ytfdpmffoajjchaa
open Go.RowKit Go.Conc

set_option maxRecDepth 100000 in
set_option maxHeartbeats 3000000 in
theorem alike21 (w w1 : World) (s n : Nat) (R : Nat → List Nat) (MM : Nat → Ms) (PL : Nat → Pl) (v : Value) (its : List It) (h : Sim w w1 s n R MM PL v its) :
    Calls Try.prog 21 #[netP s n, refN n v] w1 fun e w' => e = .returned (.bool true) ∧ Below w1.heap.size w1 w' := by
  obtain ⟨a, c, rfl⟩ := ownsRow_shape h.row
  have h8 := h.net.n8
  have hb0 : Below w1.heap.size w1 (w1.alloc (.cells #[.int .i64 n, .slice a its.length c] 45)) := (Below.refl _ _).alloc (Nat.le_refl _) _
  have HSim := toHid h
  have HS0 := toHid (h.below hb0)
  have HB0 := toHid hb0
  have HX0 : Hid ((w1.alloc (.cells #[.int .i64 n, .slice a its.length c] 45)).heap[w1.heap.size]? = some (.cells #[.int .i64 n, .slice a its.length c] 45)) := heap_alloc_new _ _
  obtain ⟨x0, x1, xf⟩ := cell2 HX0.out
  have HSum : Hid (∀ q, Calls Try.prog 14 #[netP s n] ((w1.alloc (.cells #[.int .i64 n, .slice a its.length c] 45)).drewN q) fun e w' => e = .returned (.int .i64 (its.length : Nat)) ∧ ∃ m, w' = ((w1.alloc (.cells #[.int .i64 n, .slice a its.length c] 45)).drewN q).drewN m) := fun q => by
    have e := sum_any ((h.below hb0).net.drew q)
    rw [h.cnt] at e
    exact e
  have HSW : Hid (∀ W, Sim w W s n R MM PL (.slice a its.length c) its → W.heap[w1.heap.size]? = some (.cells #[.int .i64 n, .slice a its.length c] 45) → Below w1.heap.size w1 W → (fun W => (W.cell? ⟨w1.heap.size, 0, none⟩ = some (.int .i64 n) ∧ W.cell? ⟨w1.heap.size, 1, none⟩ = some (.slice a its.length c)) ∧ Hid (Sim w W s n R MM PL (.slice a its.length c) its ∧ W.heap[w1.heap.size]? = some (.cells #[.int .i64 n, .slice a its.length c] 45) ∧ Below w1.heap.size w1 W)) W) := by
    intro W h1 h2 h3
    obtain ⟨x0, x1, xf⟩ := cell2 h2
    exact ⟨⟨x0, x1⟩, h1, h2, h3⟩
  clear h hb0
  go_enter Try.func21, Try.ntmps21
  go_wp2_with fail
  go_quiet ((go_at_call 14; exact Calls.quiet_of (HSum.out _)))
  rename_i q0
  generalize hW2 : (w1.alloc (.cells #[.int .i64 n, .slice a its.length c] 45)).drewN _ = W2
  have HS2 : Hid (Sim w W2 s n R MM PL (.slice a its.length c) its) := by rw [← hW2]; exact HS0.out.below (below_drewN' (Below.refl _ _) _)
  have HX2 : Hid (W2.heap[w1.heap.size]? = some (.cells #[.int .i64 n, .slice a its.length c] 45)) := by rw [← hW2]; exact HX0.out
  have HB2 : Hid (Below w1.heap.size w1 W2) := by rw [← hW2]; exact below_drewN' HB0.out _
  clear hW2 x0 x1 xf
  go_wp2_with fail
  go_loopw [5] (fun k W => ∃ j : Nat, j ≤ n + 3 ∧ k = .int .i64 ((j : Int) - 1) ∧ (fun W => (W.cell? ⟨w1.heap.size, 0, none⟩ = some (.int .i64 n) ∧ W.cell? ⟨w1.heap.size, 1, none⟩ = some (.slice a its.length c)) ∧ Hid (Sim w W s n R MM PL (.slice a its.length c) its ∧ W.heap[w1.heap.size]? = some (.cells #[.int .i64 n, .slice a its.length c] 45) ∧ Below w1.heap.size w1 W)) W) (fun k _ => n + 3 - (intOf k + 1).toNat)
  case atStart => exact ⟨0, by omega, rfl, HSW.out _ HS2.out HX2.out HB2.out⟩
  case round =>
    obtain ⟨j, hj, rfl, ⟨x0, x1⟩, hSx⟩ := hrel
    have HSx := toHid hSx.out
    clear hSx
    obtain ⟨i, hi⟩ : ∃ i : Int, i = (j : Int) - 1 := ⟨_, rfl⟩
    by_cases hlt : j < n + 3
    · have e1 : (j : Int) - 1 ≤ (n : Int) + 1 := by omega
      rw [← hi] at e1 ⊢
      have HI := toHid hi
      have hi3 : -1 ≤ i := by omega
      clear hi
      obtain ⟨l0, hl0⟩ : ∃ x, x = lenO R (rix n 0 i) := ⟨_, rfl⟩
      obtain ⟨l1, hl1⟩ : ∃ x, x = lenO R (rix n i 0) := ⟨_, rfl⟩
      have HLenA : Hid (∀ W, NetOk W s n R → Calls Try.prog 13 #[netP s n, .int .i64 0, .int .i64 i] W fun e w' => e = .returned (.int .i64 (l0 : Nat)) ∧ w' = W) := fun W hW => by rw [hl0]; exact len_any W s n R hW 0 i
      have HLenB : Hid (∀ W, NetOk W s n R → Calls Try.prog 13 #[netP s n, .int .i64 i, .int .i64 0] W fun e w' => e = .returned (.int .i64 (l1 : Nat)) ∧ w' = W) := fun W hW => by rw [hl1]; exact len_any W s n R hW i 0
      have HPkA : Hid (∀ W, Sim w W s n R MM PL (.slice a its.length c) its → Calls Try.prog 34 #[refN n (.slice a its.length c), .int .i64 0, .int .i64 i] W fun e w' => ∃ ax cx, e = .returned (.slice ax l0 cx) ∧ Below W.heap.size W w') := fun W hW => by
        refine Calls.mono (refPeek34 n a c its 0 i W (own_rd hW.row) (by have := hW.len_le; omega)) ?_
        rintro e wx ⟨vx, rfl, hvx, hbx⟩
        rw [← hW.lens, ← hl0] at hvx
        obtain ⟨ax, cx, rfl⟩ := ownsRow_shape hvx
        exact ⟨ax, cx, rfl, hbx⟩
      have HPkB : Hid (∀ W, Sim w W s n R MM PL (.slice a its.length c) its → Calls Try.prog 34 #[refN n (.slice a its.length c), .int .i64 i, .int .i64 0] W fun e w' => ∃ ax cx, e = .returned (.slice ax l1 cx) ∧ Below W.heap.size W w') := fun W hW => by
        refine Calls.mono (refPeek34 n a c its i 0 W (own_rd hW.row) (by have := hW.len_le; omega)) ?_
        rintro e wx ⟨vx, rfl, hvx, hbx⟩
        rw [← hW.lens, ← hl1] at hvx
        obtain ⟨ax, cx, rfl⟩ := ownsRow_shape hvx
        exact ⟨ax, cx, rfl, hbx⟩
      clear hl0 hl1
      go_wp2_with fail
      refine wp_region_held_drew (S := fun W => (W.cell? ⟨w1.heap.size, 0, none⟩ = some (.int .i64 n) ∧ W.cell? ⟨w1.heap.size, 1, none⟩ = some (.slice a its.length c)) ∧ Hid (Sim w W s n R MM PL (.slice a its.length c) its ∧ W.heap[w1.heap.size]? = some (.cells #[.int .i64 n, .slice a its.length c] 45) ∧ Below w1.heap.size w1 W)) (by kernel_rfl) (HSW.out wr.drew (HSx.out.1.below ((Below.refl _ _).drew)) HSx.out.2.1 HSx.out.2.2.drew) (fun hHeld => ?_)
      refine wpAnyH_take (i := 0) (v := ?_) rfl (by kernel_rfl) (by kernel_rfl) (by kernel_rfl) (fun _ _ _ h => h) (Or.inl ⟨by rfl, ?_⟩) (by assumption) ?_
      rotate_left
      · (intro W hSw; obtain ⟨⟨x0, x1⟩, _⟩ := hSw; go_simp; try with_reducible rfl)
      try simp only [Act.put, List.getElem_toArray, List.getElem_cons_zero, List.setIfInBounds_toArray, List.set_cons_zero, List.set_cons_succ]
      refine wpAnyH_take (i := 1) (v := ?_) rfl (by kernel_rfl) (by kernel_rfl) (by kernel_rfl) (fun _ _ _ h => h) (Or.inl ⟨by rfl, ?_⟩) (by assumption) ?_
      rotate_left
      · (intro W hSw; obtain ⟨⟨x0, x1⟩, _⟩ := hSw; go_simp; try with_reducible rfl)
      try simp only [Act.put, List.getElem_toArray, List.getElem_cons_zero, List.getElem_cons_succ, List.setIfInBounds_toArray, List.set_cons_zero, List.set_cons_succ]
      refine wpAnyH_take (i := 3) (v := ?_) rfl (by kernel_rfl) (by kernel_rfl) (by kernel_rfl) (fun _ _ _ h => h) (Or.inl ⟨by rfl, ?_⟩) (by assumption) ?_
      rotate_left
      · (intro W hSw; obtain ⟨⟨x0, x1⟩, _⟩ := hSw; go_simp; try with_reducible rfl)
      try simp only [Act.put, List.getElem_toArray, List.getElem_cons_zero, List.getElem_cons_succ, List.setIfInBounds_toArray, List.set_cons_zero, List.set_cons_succ]
      refine wpAnyH_take (i := 4) (v := ?_) rfl (by kernel_rfl) (by kernel_rfl) (by kernel_rfl) (fun _ _ _ h => h) (Or.inl ⟨by rfl, ?_⟩) (by assumption) ?_
      rotate_left
      · (intro W hSw; obtain ⟨⟨x0, x1⟩, _⟩ := hSw; go_simp; try with_reducible rfl)
      try simp only [Act.put, List.getElem_toArray, List.getElem_cons_zero, List.getElem_cons_succ, List.setIfInBounds_toArray, List.set_cons_zero, List.set_cons_succ]
      refine wpAnyH_ready (rs := [2]) (by kernel_rfl) (by simp) ?_
      refine AllReadyH.cons rfl (fun K hK => ?_) AllReadyH.nil
      obtain ⟨_, hq⟩ := hHeld
      have HQ := toHid hq.out
      clear hq
      go_simp
      refine Calls.mono (HLenA.out _ HQ.out.1.net) ?_
      rintro e wx ⟨rfl, hwx⟩
      obtain rfl := hwx.symm
      try go_wp2_with fail
      refine hK.out _ _ (HSW.out _ HQ.out.1 HQ.out.2.1 HQ.out.2.2) (fun hHeld => ?_)
      clear hK K HQ
      try simp only [Act.put, List.getElem_toArray, List.getElem_cons_zero, List.getElem_cons_succ, List.setIfInBounds_toArray, List.set_cons_zero, List.set_cons_succ]
      refine wpAnyH_ready (rs := [5]) (by kernel_rfl) (by simp) ?_
      refine AllReadyH.cons rfl (fun K hK => ?_) AllReadyH.nil
      obtain ⟨_, hq⟩ := hHeld
      have HQ := toHid hq.out
      clear hq
      go_simp
      refine Calls.mono (HPkA.out _ HQ.out.1) ?_
      rintro e wx ⟨ax, cx, rfl, hbx⟩
      have HBx := toHid hbx
      clear hbx
      try go_wp2_with fail
      refine hK.out _ _ (HSW.out _ (HQ.out.1.below HBx.out) (KeepC.below HBx.out _ _ _ _ HQ.out.2.1) (HQ.out.2.2.trans (HBx.out.mono HQ.out.2.2.size))) (fun hHeld => ?_)
      clear hK K HQ
      try simp only [Act.put, List.getElem_toArray, List.getElem_cons_zero, List.getElem_cons_succ, List.setIfInBounds_toArray, List.set_cons_zero, List.set_cons_succ]
      clear HBx
      refine wpAnyH_take (i := 6) (v := ?_) rfl (by kernel_rfl) (by kernel_rfl) (by kernel_rfl) (fun _ _ _ h => h) (Or.inl ⟨by rfl, ?_⟩) (by assumption) ?_
      rotate_left
      · (intro W hSw; obtain ⟨⟨x0, x1⟩, _⟩ := hSw; go_simp; try with_reducible rfl)
      try simp only [Act.put, List.getElem_toArray, List.getElem_cons_zero, List.getElem_cons_succ, List.setIfInBounds_toArray, List.set_cons_zero, List.set_cons_succ]
      refine wpAnyH_take (i := 7) (v := ?_) rfl (by kernel_rfl) (by kernel_rfl) (by kernel_rfl) (fun _ _ _ h => h) (Or.inl ⟨by rfl, ?_⟩) (by assumption) ?_
      rotate_left
      · (intro W hSw; obtain ⟨⟨x0, x1⟩, _⟩ := hSw; go_simp; try with_reducible rfl)
      try simp only [Act.put, List.getElem_toArray, List.getElem_cons_zero, List.getElem_cons_succ, List.setIfInBounds_toArray, List.set_cons_zero, List.set_cons_succ]
      refine wpAnyH_take (i := 8) (v := ?_) rfl (by kernel_rfl) (by kernel_rfl) (by kernel_rfl) (fun _ _ _ h => h) (Or.inl ⟨by rfl, ?_⟩) (by assumption) ?_
      rotate_left
      · (intro W hSw; obtain ⟨⟨x0, x1⟩, _⟩ := hSw; go_simp; try with_reducible rfl)
      try simp only [Act.put, List.getElem_toArray, List.getElem_cons_zero, List.getElem_cons_succ, List.setIfInBounds_toArray, List.set_cons_zero, List.set_cons_succ]
      refine wpAnyH_take (i := 9) (v := ?_) rfl (by kernel_rfl) (by kernel_rfl) (by kernel_rfl) (fun _ _ _ h => h) (Or.inl ⟨by rfl, ?_⟩) (by assumption) ?_
      rotate_left
      · (intro W hSw; obtain ⟨⟨x0, x1⟩, _⟩ := hSw; go_simp; try with_reducible rfl)
      try simp only [Act.put, List.getElem_toArray, List.getElem_cons_zero, List.getElem_cons_succ, List.setIfInBounds_toArray, List.set_cons_zero, List.set_cons_succ]
      refine wpAnyH_take (i := 10) (v := ?_) rfl (by kernel_rfl) (by kernel_rfl) (by kernel_rfl) (fun _ _ _ h => h) (Or.inl ⟨by rfl, ?_⟩) (by assumption) ?_
      rotate_left
      · (intro W hSw; obtain ⟨⟨x0, x1⟩, _⟩ := hSw; go_simp; try with_reducible rfl)
      try simp only [Act.put, List.getElem_toArray, List.getElem_cons_zero, List.getElem_cons_succ, List.setIfInBounds_toArray, List.set_cons_zero, List.set_cons_succ]
      refine wpAnyH_take (i := 12) (v := ?_) rfl (by kernel_rfl) (by kernel_rfl) (by kernel_rfl) (fun _ _ _ h => h) (Or.inl ⟨by rfl, ?_⟩) (by assumption) ?_
      rotate_left
      · (intro W hSw; obtain ⟨⟨x0, x1⟩, _⟩ := hSw; go_simp; try with_reducible rfl)
      try simp only [Act.put, List.getElem_toArray, List.getElem_cons_zero, List.getElem_cons_succ, List.setIfInBounds_toArray, List.set_cons_zero, List.set_cons_succ]
      refine wpAnyH_take (i := 13) (v := ?_) rfl (by kernel_rfl) (by kernel_rfl) (by kernel_rfl) (fun _ _ _ h => h) (Or.inl ⟨by rfl, ?_⟩) (by assumption) ?_
      rotate_left
      · (intro W hSw; obtain ⟨⟨x0, x1⟩, _⟩ := hSw; go_simp; try with_reducible rfl)
      try simp only [Act.put, List.getElem_toArray, List.getElem_cons_zero, List.getElem_cons_succ, List.setIfInBounds_toArray, List.set_cons_zero, List.set_cons_succ]
      refine wpAnyH_ready (rs := [11]) (by kernel_rfl) (by simp) ?_
      refine AllReadyH.cons rfl (fun K hK => ?_) AllReadyH.nil
      obtain ⟨_, hq⟩ := hHeld
      have HQ := toHid hq.out
      clear hq
      go_simp
      refine Calls.mono (HLenB.out _ HQ.out.1.net) ?_
      rintro e wx ⟨rfl, hwx⟩
      obtain rfl := hwx.symm
      try go_wp2_with fail
      refine hK.out _ _ (HSW.out _ HQ.out.1 HQ.out.2.1 HQ.out.2.2) (fun hHeld => ?_)
      clear hK K HQ
      try simp only [Act.put, List.getElem_toArray, List.getElem_cons_zero, List.getElem_cons_succ, List.setIfInBounds_toArray, List.set_cons_zero, List.set_cons_succ]
      refine wpAnyH_ready (rs := [14]) (by kernel_rfl) (by simp) ?_
      refine AllReadyH.cons rfl (fun K hK => ?_) AllReadyH.nil
      obtain ⟨_, hq⟩ := hHeld
      have HQ := toHid hq.out
      clear hq
      go_simp
      refine Calls.mono (HPkB.out _ HQ.out.1) ?_
      rintro e wx ⟨ay, cy, rfl, hbx⟩
      have HBx := toHid hbx
      clear hbx
      try go_wp2_with fail
      refine hK.out _ _ (HSW.out _ (HQ.out.1.below HBx.out) (KeepC.below HBx.out _ _ _ _ HQ.out.2.1) (HQ.out.2.2.trans (HBx.out.mono HQ.out.2.2.size))) (fun hHeld => ?_)
      clear hK K HQ
      try simp only [Act.put, List.getElem_toArray, List.getElem_cons_zero, List.getElem_cons_succ, List.setIfInBounds_toArray, List.set_cons_zero, List.set_cons_succ]
      clear HBx
      refine wpAnyH_take (i := 15) (v := ?_) rfl (by kernel_rfl) (by kernel_rfl) (by kernel_rfl) (fun _ _ _ h => h) (Or.inl ⟨by rfl, ?_⟩) (by assumption) ?_
      rotate_left
      · (intro W hSw; obtain ⟨⟨x0, x1⟩, _⟩ := hSw; go_simp; try with_reducible rfl)
      try simp only [Act.put, List.getElem_toArray, List.getElem_cons_zero, List.getElem_cons_succ, List.setIfInBounds_toArray, List.set_cons_zero, List.set_cons_succ]
      refine wpAnyH_take (i := 16) (v := ?_) rfl (by kernel_rfl) (by kernel_rfl) (by kernel_rfl) (fun _ _ _ h => h) (Or.inl ⟨by rfl, ?_⟩) (by assumption) ?_
      rotate_left
      · (intro W hSw; obtain ⟨⟨x0, x1⟩, _⟩ := hSw; go_simp; try with_reducible rfl)
      try simp only [Act.put, List.getElem_toArray, List.getElem_cons_zero, List.getElem_cons_succ, List.setIfInBounds_toArray, List.set_cons_zero, List.set_cons_succ]
      refine wpAnyH_take (i := 17) (v := ?_) rfl (by kernel_rfl) (by kernel_rfl) (by kernel_rfl) (fun _ _ _ h => h) (Or.inl ⟨by rfl, ?_⟩) (by assumption) ?_
      rotate_left
      · (intro W hSw; obtain ⟨⟨x0, x1⟩, _⟩ := hSw; go_simp; try with_reducible rfl)
      try simp only [Act.put, List.getElem_toArray, List.getElem_cons_zero, List.getElem_cons_succ, List.setIfInBounds_toArray, List.set_cons_zero, List.set_cons_succ]
      refine wpAnyH_done (by kernel_rfl) ?_ _
      have HS9 := toHid hHeld
      clear hHeld
      simp only [Exit.then]
      go_wp2_with fail
      go_roundw
      case rel => exact ⟨j + 1, by omega, by rw [HI.out]; go_num, HS9.out⟩
      case measure => rw [HI.out]; simp [intOf]; omega
    · have e1 : ¬ (j : Int) - 1 ≤ (n : Int) + 1 := by omega
      clear hi
      go_wp2_with fail
      go_ret
      exact ⟨rfl, HSx.out.2.2⟩

end Go.Proofs.Ytfdpmffoajjchaa
