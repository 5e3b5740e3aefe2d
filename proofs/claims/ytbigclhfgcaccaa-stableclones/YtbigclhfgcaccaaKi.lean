/-
  StableClones: what was read is what was written.
-/
import Derived.Test.YtbigclhfgcaccaaKd
import Derived.Deep.RegionHeld3
namespace Go.Proofs.Ytbigclhfgcaccaa
open Go.RowKit

set_option maxRecDepth 100000 in
set_option maxHeartbeats 3000000 in
theorem rest8e (tk th tp tn : Int) (tf : UInt8) (w W1 : World) (s : Nat) (hz : s + 1 ≤ W1.heap.size) (HC : ∀ W, Below (s + 1) W1 W → (fun W => (W.cell? ⟨s, 0, none⟩ = some (.int .i64 tk) ∧ W.cell? ⟨s, 1, none⟩ = some (.int .i64 th) ∧ W.cell? ⟨s, 2, none⟩ = some (.int .i64 tp) ∧ W.cell? ⟨s, 3, none⟩ = some (.int .i64 tn) ∧ W.cell? ⟨s, 4, none⟩ = some (.int .u8 (tf.toNat : Int))) ∧ Below (s + 1) W1 W) W) (HW : ∀ W, Below (s + 1) W1 W → Below w.heap.size w W) (Ln : Nat) (hLn : long tn = (Ln : Int)) (hLn2 : Ln ≤ 3000)
    (u : Nat → Value) (wr : World) (Gr : Nat) (g5 : u 5 = .pointer (some ⟨s, 0, none⟩)) (g23 : u 23 = .slice (some ⟨Gr, 0, none⟩) Ln Ln) (g24 : u 24 = .int .i64 0) (hR : Buf wr Gr (List.replicate Ln tf)) (hB : Below (s + 1) W1 wr) :
    Code.wp Try.prog (tailOf 20 body8) (bodyPost Try.prog Try.f8 fun e w'' => e = .returned (.bool true) ∧ Below w.heap.size w w'') (frame8 u) wr := by
  rw [frame8_open, g5, g23, g24]
  clear g5 g23 g24
  have HCh : Hid _ := HC
  have HWh : Hid _ := HW
  clear HC HW
  have HL : Hid _ := long_any ⟨tk, th, tp, tn, tf⟩
  dsimp only [opV] at HL
  rw [hLn] at HL
  have HS : Hid (∀ W, Buf W Gr (List.replicate Ln tf) → Below (s + 1) W1 W → (fun W => (W.cell? ⟨s, 0, none⟩ = some (.int .i64 tk) ∧ W.cell? ⟨s, 1, none⟩ = some (.int .i64 th) ∧ W.cell? ⟨s, 2, none⟩ = some (.int .i64 tp) ∧ W.cell? ⟨s, 3, none⟩ = some (.int .i64 tn) ∧ W.cell? ⟨s, 4, none⟩ = some (.int .u8 (tf.toNat : Int))) ∧ (convert 34 9 (.slice (some ⟨Gr, 0, none⟩) Ln Ln)).run Try.prog W = .ok (.string (txt (List.replicate Ln tf))) W ∧ Buf W Gr (List.replicate Ln tf) ∧ Below (s + 1) W1 W) W) := fun W h1 h2 => ⟨(HCh.out W h2).1, conv_buf h1 (by simp), h1, h2⟩
  have hBd := hB.drew
  have hRd := Buf.below hR (Below.refl _ _).drew (Nat.le_refl _)
  clear hB hR
  conv => arg 2; whnf
  go_wp2_with fail
  refine wp_region_held_drew (S := (fun W => (W.cell? ⟨s, 0, none⟩ = some (.int .i64 tk) ∧ W.cell? ⟨s, 1, none⟩ = some (.int .i64 th) ∧ W.cell? ⟨s, 2, none⟩ = some (.int .i64 tp) ∧ W.cell? ⟨s, 3, none⟩ = some (.int .i64 tn) ∧ W.cell? ⟨s, 4, none⟩ = some (.int .u8 (tf.toNat : Int))) ∧ (convert 34 9 (.slice (some ⟨Gr, 0, none⟩) Ln Ln)).run Try.prog W = .ok (.string (txt (List.replicate Ln tf))) W ∧ Buf W Gr (List.replicate Ln tf) ∧ Below (s + 1) W1 W)) (by kernel_rfl) (HS.out _ hRd hBd) (fun hHeld => ?_)
  refine wpAnyH_take (i := 0) (v := ?_) rfl (by kernel_rfl) (by kernel_rfl) (by kernel_rfl) (fun _ _ _ h => h) (Or.inl ⟨by rfl, ?_⟩) (by assumption) ?_
  rotate_left
  · (intro W hSw; (try dsimp only at hSw); go_simp; try with_reducible rfl)
  try simp only [Act.put, List.getElem_toArray, List.getElem_cons_zero, List.setIfInBounds_toArray, List.set_cons_zero, List.set_cons_succ]
  refine wpAnyH_take (i := 1) (v := ?_) rfl (by kernel_rfl) (by kernel_rfl) (by kernel_rfl) (fun _ _ _ h => h) (Or.inl ⟨by rfl, ?_⟩) (by assumption) ?_
  rotate_left
  · (intro W hSw; (try dsimp only at hSw); go_simp; try with_reducible rfl)
  try simp only [Act.put, List.getElem_toArray, List.getElem_cons_zero, List.getElem_cons_succ, List.setIfInBounds_toArray, List.set_cons_zero, List.set_cons_succ]
  refine wpAnyH_take (i := 2) (v := ?_) rfl (by kernel_rfl) (by kernel_rfl) (by kernel_rfl) (fun _ _ _ h => h) (Or.inl ⟨by rfl, ?_⟩) (by assumption) ?_
  rotate_left
  · (intro W hSw; (try dsimp only at hSw); go_simp; try with_reducible rfl)
  try simp only [Act.put, List.getElem_toArray, List.getElem_cons_zero, List.getElem_cons_succ, List.setIfInBounds_toArray, List.set_cons_zero, List.set_cons_succ]
  refine wpAnyH_take (i := 3) (v := ?_) rfl (by kernel_rfl) (by kernel_rfl) (by kernel_rfl) (fun _ _ _ h => h) (Or.inl ⟨by rfl, ?_⟩) (by assumption) ?_
  rotate_left
  · (intro W hSw; (try dsimp only at hSw); go_simp; try with_reducible rfl)
  try simp only [Act.put, List.getElem_toArray, List.getElem_cons_zero, List.getElem_cons_succ, List.setIfInBounds_toArray, List.set_cons_zero, List.set_cons_succ]
  refine wpAnyH_take (i := 4) (v := ?_) rfl (by kernel_rfl) (by kernel_rfl) (by kernel_rfl) (fun _ _ _ h => h) (Or.inl ⟨by rfl, ?_⟩) (by assumption) ?_
  rotate_left
  · (intro W hSw; (try dsimp only at hSw); go_simp; try with_reducible rfl)
  try simp only [Act.put, List.getElem_toArray, List.getElem_cons_zero, List.getElem_cons_succ, List.setIfInBounds_toArray, List.set_cons_zero, List.set_cons_succ]
  refine wpAnyH_take (i := 5) (v := ?_) rfl (by kernel_rfl) (by kernel_rfl) (by kernel_rfl) (fun _ _ _ h => h) (Or.inl ⟨by rfl, ?_⟩) (by assumption) ?_
  rotate_left
  · (intro W hSw; (try dsimp only at hSw); go_simp; try with_reducible rfl)
  try simp only [Act.put, List.getElem_toArray, List.getElem_cons_zero, List.getElem_cons_succ, List.setIfInBounds_toArray, List.set_cons_zero, List.set_cons_succ]
  refine wpAnyH_take (i := 7) (v := ?_) rfl (by kernel_rfl) (by kernel_rfl) (by kernel_rfl) (fun _ _ _ h => h) (Or.inl ⟨by rfl, ?_⟩) (by assumption) ?_
  rotate_left
  · (intro W hSw; (try dsimp only at hSw); go_simp; try with_reducible rfl)
  try simp only [Act.put, List.getElem_toArray, List.getElem_cons_zero, List.getElem_cons_succ, List.setIfInBounds_toArray, List.set_cons_zero, List.set_cons_succ]
  refine wpAnyH_take (i := 8) (v := ?_) rfl (by kernel_rfl) (by kernel_rfl) (by kernel_rfl) (fun _ _ _ h => h) (Or.inl ⟨by rfl, ?_⟩) (by assumption) ?_
  rotate_left
  · (intro W hSw; (try dsimp only at hSw); go_simp; try with_reducible rfl)
  try simp only [Act.put, List.getElem_toArray, List.getElem_cons_zero, List.getElem_cons_succ, List.setIfInBounds_toArray, List.set_cons_zero, List.set_cons_succ]
  refine wpAnyH_ready (rs := [6]) (by kernel_rfl) (by simp) ?_
  refine AllReadyH.cons rfl (fun K hK => ?_) AllReadyH.nil
  go_simp
  refine (HL.out _).mono ?_
  rintro e w3 ⟨rfl, hb3⟩
  have hB3 := below_8 hHeld.2.2.2 hz hb3
  have hR3 := Buf.below hHeld.2.2.1 hb3 (Nat.le_refl _)
  try go_wp2_with fail
  refine hK.out _ _ (HS.out _ hR3 hB3) (fun hHeld => ?_)
  clear hK K
  try simp only [Act.put, List.getElem_toArray, List.getElem_cons_zero, List.getElem_cons_succ, List.setIfInBounds_toArray, List.set_cons_zero, List.set_cons_succ]
  refine wpAnyH_ready (rs := [9]) (by kernel_rfl) (by simp) ?_
  refine AllReadyH.cons rfl (fun K hK => ?_) AllReadyH.nil
  go_simp
  refine (filled_any Ln tf w3 (by omega)).mono ?_
  rintro e w4 ⟨rfl, hX4, hz4, hb4⟩
  have HZ4 : Hid _ := hz4
  clear hz4
  have hB4 := below_8 hB3 hz hb4
  have hR4 := Buf.below hR3 hb4 (Nat.le_refl _)
  have hS4 := HS.out _ hR4 hB4
  have hcv : (convert 34 9 (.slice (some ⟨w3.heap.size, 0, none⟩) Ln Ln)).run Try.prog w4 = .ok (.string (txt (List.replicate Ln tf))) w4 := conv_buf (n := Ln) hX4 (by simp)
  try go_wp2_with fail
  refine hK.out _ _ (hS4) (fun hHeld => ?_)
  clear hK K
  try simp only [Act.put, List.getElem_toArray, List.getElem_cons_zero, List.getElem_cons_succ, List.setIfInBounds_toArray, List.set_cons_zero, List.set_cons_succ]
  refine wpAnyH_ready (rs := [10]) (by kernel_rfl) (by simp) ?_
  refine AllReadyH.cons rfl (fun K hK => ?_) AllReadyH.nil
  go_simp
  refine hK.out _ _ hS4 (fun hHeld => ?_)
  clear hK K
  try simp only [Act.put, List.getElem_toArray, List.getElem_cons_zero, List.getElem_cons_succ, List.setIfInBounds_toArray, List.set_cons_zero, List.set_cons_succ]
  refine wpAnyH_take (i := 11) (v := ?_) rfl (by kernel_rfl) (by kernel_rfl) (by kernel_rfl) (fun _ _ _ h => h) (Or.inl ⟨by rfl, ?_⟩) (by assumption) ?_
  rotate_left
  · (intro W hSw; (try dsimp only at hSw); go_simp; try with_reducible rfl)
  try simp only [Act.put, List.getElem_toArray, List.getElem_cons_zero, List.getElem_cons_succ, List.setIfInBounds_toArray, List.set_cons_zero, List.set_cons_succ]
  refine wpAnyH_take (i := 12) (v := ?_) rfl (by kernel_rfl) (by kernel_rfl) (by kernel_rfl) (fun _ _ _ h => h) (Or.inl ⟨by rfl, ?_⟩) (by assumption) ?_
  rotate_left
  · (intro W hSw; (try dsimp only at hSw); go_simp; try with_reducible rfl)
  try simp only [Act.put, List.getElem_toArray, List.getElem_cons_zero, List.getElem_cons_succ, List.setIfInBounds_toArray, List.set_cons_zero, List.set_cons_succ]
  refine wpAnyH_take (i := 13) (v := ?_) rfl (by kernel_rfl) (by kernel_rfl) (by kernel_rfl) (fun _ _ _ h => h) (Or.inl ⟨by rfl, ?_⟩) (by assumption) ?_
  rotate_left
  · (intro W hSw; (try dsimp only at hSw); go_simp; try with_reducible rfl)
  try simp only [Act.put, List.getElem_toArray, List.getElem_cons_zero, List.getElem_cons_succ, List.setIfInBounds_toArray, List.set_cons_zero, List.set_cons_succ]
  refine wpAnyH_ready (rs := [14]) (by kernel_rfl) (by simp) ?_
  refine AllReadyH.cons rfl (fun K hK => ?_) AllReadyH.nil
  go_simp
  refine (lives_any _).mono ?_
  rintro e w5 ⟨rfl, hb5⟩
  have hB5 := below_8 hB4 hz hb5
  have hR5 := Buf.below hR4 hb5 (Nat.le_refl _)
  try go_wp2_with fail
  refine hK.out _ _ (HS.out _ hR5 hB5) (fun hHeld => ?_)
  clear hK K
  try simp only [Act.put, List.getElem_toArray, List.getElem_cons_zero, List.getElem_cons_succ, List.setIfInBounds_toArray, List.set_cons_zero, List.set_cons_succ]
  refine wpAnyH_take (i := 15) (v := ?_) rfl (by kernel_rfl) (by kernel_rfl) (by kernel_rfl) (fun _ _ _ h => h) (Or.inl ⟨by rfl, ?_⟩) (by assumption) ?_
  rotate_left
  · (intro W hSw; (try dsimp only at hSw); go_simp; try with_reducible rfl)
  try simp only [Act.put, List.getElem_toArray, List.getElem_cons_zero, List.getElem_cons_succ, List.setIfInBounds_toArray, List.set_cons_zero, List.set_cons_succ]
  refine wpAnyH_take (i := 16) (v := ?_) rfl (by kernel_rfl) (by kernel_rfl) (by kernel_rfl) (fun _ _ _ h => h) (Or.inl ⟨by rfl, ?_⟩) (by assumption) ?_
  rotate_left
  · (intro W hSw; (try dsimp only at hSw); go_simp; try with_reducible rfl)
  try simp only [Act.put, List.getElem_toArray, List.getElem_cons_zero, List.getElem_cons_succ, List.setIfInBounds_toArray, List.set_cons_zero, List.set_cons_succ]
  refine wpAnyH_done (by kernel_rfl) ?_ _
  have HB5 : Hid _ := HWh.out _ hB5
  go_wp2_with fail
  go_ret
  exact ⟨rfl, HB5.out⟩

end Go.Proofs.Ytbigclhfgcaccaa
