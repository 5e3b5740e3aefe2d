/-
  StableStays: the end of a round.
-/
import Derived.Test.YtbigclhfgcaccaaSa
namespace Go.Proofs.Ytbigclhfgcaccaa
open Go.RowKit

set_option maxRecDepth 100000 in
set_option maxHeartbeats 3000000 in
theorem tail7 (A : Nat) (f : UInt8) (a : Option Addr) (c n s j : Nat) (W1 : World) (g : Nat) (t : Op) (d : Dv) (u : Nat → Value) (wr : World) (hu : St7 A f a c n s j u) (hw : Wd7 s W1 g t d wr) (hK : Keep7 A f d) (Q : Exit → Act → World → Prop) (HQ : ∀ c (a : Act) t v w, Q (.panic c) (a.put t v) w → Q (.panic c) a w) (hnorm : ∀ u' w', St7 A f a c n s j u' → Wd7 s W1 g t d w' → Q .normal (frame7 u') w') :
    Code.wp Try.prog (tailOf' 3 body7) Q (frame7 u) wr := by
  obtain ⟨h0, h1, h2, h7, h9⟩ := hu
  rw [frame7_open, h0, h1, h2, h7, h9]
  clear h0 h1 h2 h7 h9
  have HN : Hid _ := hnorm
  clear hnorm
  have hl := hK.len
  have ha := hK.at'
  have HR := read_any (s + 1) s (64 * A) 64 d [] wr hw.dev (by omega)
  rw [hK.read, show ((64 * A : Nat) : Int) = 64 * (A : Int) by omega] at HR
  conv => arg 2; whnf
  go_wp2_with fail
  refine HR.mono ?_
  clear HR
  rintro e w2 ⟨rfl, hB2, hz2, hb2⟩
  have hw2 := (hw.below hb2).below (Below.refl _ _).drew
  have hR2 := Buf.below hB2 (Below.refl _ _).drew (Nat.le_refl _)
  generalize wr.heap.size = Gr at *
  clear hw hb2 hB2 hz2
  have HS : Hid (∀ W, Buf W Gr (List.replicate 64 f) → Wd7 s W1 g t d W → (fun W => (convert 34 9 (.slice (some ⟨Gr, 0, none⟩) 64 64)).run Try.prog W = .ok (.string (txt (List.replicate 64 f))) W ∧ Buf W Gr (List.replicate 64 f) ∧ Wd7 s W1 g t d W) W) := fun W h1 h2 => ⟨conv_buf h1 (by simp), h1, h2⟩
  go_wp2_with fail
  refine wp_region_held_drew (S := (fun W => (convert 34 9 (.slice (some ⟨Gr, 0, none⟩) 64 64)).run Try.prog W = .ok (.string (txt (List.replicate 64 f))) W ∧ Buf W Gr (List.replicate 64 f) ∧ Wd7 s W1 g t d W)) (by kernel_rfl) (HS.out _ hR2 hw2) (fun hHeld => ?_)
  refine wpAnyH_take (i := 0) (v := ?_) rfl (by kernel_rfl) (by kernel_rfl) (by kernel_rfl) (fun c _ _ h => HQ c _ _ _ _ h) (Or.inl ⟨by rfl, ?_⟩) (by assumption) ?_
  rotate_left
  · (intro W hSw; (try dsimp only at hSw); go_simp; try with_reducible rfl)
  try simp only [Act.put, List.getElem_toArray, List.getElem_cons_zero, List.setIfInBounds_toArray, List.set_cons_zero, List.set_cons_succ]
  refine wpAnyH_take (i := 1) (v := ?_) rfl (by kernel_rfl) (by kernel_rfl) (by kernel_rfl) (fun c _ _ h => HQ c _ _ _ _ h) (Or.inl ⟨by rfl, ?_⟩) (by assumption) ?_
  rotate_left
  · (intro W hSw; (try dsimp only at hSw); go_simp; try with_reducible rfl)
  try simp only [Act.put, List.getElem_toArray, List.getElem_cons_zero, List.getElem_cons_succ, List.setIfInBounds_toArray, List.set_cons_zero, List.set_cons_succ]
  refine wpAnyH_take (i := 2) (v := ?_) rfl (by kernel_rfl) (by kernel_rfl) (by kernel_rfl) (fun c _ _ h => HQ c _ _ _ _ h) (Or.inl ⟨by rfl, ?_⟩) (by assumption) ?_
  rotate_left
  · (intro W hSw; (try dsimp only at hSw); go_simp; try with_reducible rfl)
  try simp only [Act.put, List.getElem_toArray, List.getElem_cons_zero, List.getElem_cons_succ, List.setIfInBounds_toArray, List.set_cons_zero, List.set_cons_succ]
  refine wpAnyH_take (i := 3) (v := ?_) rfl (by kernel_rfl) (by kernel_rfl) (by kernel_rfl) (fun c _ _ h => HQ c _ _ _ _ h) (Or.inl ⟨by rfl, ?_⟩) (by assumption) ?_
  rotate_left
  · (intro W hSw; (try dsimp only at hSw); go_simp; try with_reducible rfl)
  try simp only [Act.put, List.getElem_toArray, List.getElem_cons_zero, List.getElem_cons_succ, List.setIfInBounds_toArray, List.set_cons_zero, List.set_cons_succ]
  refine wpAnyH_take (i := 4) (v := ?_) rfl (by kernel_rfl) (by kernel_rfl) (by kernel_rfl) (fun c _ _ h => HQ c _ _ _ _ h) (Or.inl ⟨by rfl, ?_⟩) (by assumption) ?_
  rotate_left
  · (intro W hSw; (try dsimp only at hSw); go_simp; try with_reducible rfl)
  try simp only [Act.put, List.getElem_toArray, List.getElem_cons_zero, List.getElem_cons_succ, List.setIfInBounds_toArray, List.set_cons_zero, List.set_cons_succ]
  refine wpAnyH_take (i := 5) (v := ?_) rfl (by kernel_rfl) (by kernel_rfl) (by kernel_rfl) (fun c _ _ h => HQ c _ _ _ _ h) (Or.inl ⟨by rfl, ?_⟩) (by assumption) ?_
  rotate_left
  · (intro W hSw; (try dsimp only at hSw); go_simp; try with_reducible rfl)
  try simp only [Act.put, List.getElem_toArray, List.getElem_cons_zero, List.getElem_cons_succ, List.setIfInBounds_toArray, List.set_cons_zero, List.set_cons_succ]
  refine wpAnyH_ready (rs := [6]) (by kernel_rfl) (by simp) ?_
  refine AllReadyH.cons rfl (fun K hK => ?_) AllReadyH.nil
  go_simp
  refine (filled_any 64 f _ (by omega)).mono ?_
  rintro e w3 ⟨rfl, hB3, hz3, hb3⟩
  have hw3 := hHeld.2.2.below hb3
  have hR3 := Buf.below hHeld.2.1 hb3 (Nat.le_refl _)
  have hS3 := HS.out _ hR3 hw3
  have hcv : (convert 34 9 (.slice (some ⟨w2.heap.size, 0, none⟩) 64 64)).run Try.prog w3 = .ok (.string (txt (List.replicate 64 f))) w3 := conv_buf (n := 64) hB3 (by simp)
  try go_wp2_with fail
  refine hK.out _ _ (hS3) (fun hHeld => ?_)
  clear hK K
  try simp only [Act.put, List.getElem_toArray, List.getElem_cons_zero, List.getElem_cons_succ, List.setIfInBounds_toArray, List.set_cons_zero, List.set_cons_succ]
  refine wpAnyH_ready (rs := [7]) (by kernel_rfl) (by simp) ?_
  refine AllReadyH.cons rfl (fun K hK => ?_) AllReadyH.nil
  go_simp
  refine hK.out _ _ hS3 (fun hHeld => ?_)
  clear hK K
  try simp only [Act.put, List.getElem_toArray, List.getElem_cons_zero, List.getElem_cons_succ, List.setIfInBounds_toArray, List.set_cons_zero, List.set_cons_succ]
  refine wpAnyH_take (i := 8) (v := ?_) rfl (by kernel_rfl) (by kernel_rfl) (by kernel_rfl) (fun c _ _ h => HQ c _ _ _ _ h) (Or.inl ⟨by rfl, ?_⟩) (by assumption) ?_
  rotate_left
  · (intro W hSw; (try dsimp only at hSw); go_simp; try with_reducible rfl)
  try simp only [Act.put, List.getElem_toArray, List.getElem_cons_zero, List.getElem_cons_succ, List.setIfInBounds_toArray, List.set_cons_zero, List.set_cons_succ]
  refine wpAnyH_take (i := 9) (v := ?_) rfl (by kernel_rfl) (by kernel_rfl) (by kernel_rfl) (fun c _ _ h => HQ c _ _ _ _ h) (Or.inl ⟨by rfl, ?_⟩) (by assumption) ?_
  rotate_left
  · (intro W hSw; (try dsimp only at hSw); go_simp; try with_reducible rfl)
  try simp only [Act.put, List.getElem_toArray, List.getElem_cons_zero, List.getElem_cons_succ, List.setIfInBounds_toArray, List.set_cons_zero, List.set_cons_succ]
  refine wpAnyH_done (by kernel_rfl) ?_ _
  go_wp2_with fail
  exact q7 rfl rfl (HN.out _ _ ⟨rfl, rfl, rfl, rfl, rfl⟩ hw3)

end Go.Proofs.Ytbigclhfgcaccaa
