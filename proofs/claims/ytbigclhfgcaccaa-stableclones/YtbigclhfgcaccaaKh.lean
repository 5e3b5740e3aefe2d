/-
  StableClones: the write is ended and read.
-/
import Derived.Test.YtbigclhfgcaccaaKd
import Derived.Deep.RegionHeld3
namespace Go.Proofs.Ytbigclhfgcaccaa
open Go.RowKit

set_option maxRecDepth 100000 in
set_option maxHeartbeats 3000000 in
theorem rest8d (tk th tp tn : Int) (tf : UInt8) (hpl : I64 tp) (w W1 : World) (s : Nat) (hz : s + 1 ≤ W1.heap.size) (HC : ∀ W, Below (s + 1) W1 W → (fun W => (W.cell? ⟨s, 0, none⟩ = some (.int .i64 tk) ∧ W.cell? ⟨s, 1, none⟩ = some (.int .i64 th) ∧ W.cell? ⟨s, 2, none⟩ = some (.int .i64 tp) ∧ W.cell? ⟨s, 3, none⟩ = some (.int .i64 tn) ∧ W.cell? ⟨s, 4, none⟩ = some (.int .u8 (tf.toNat : Int))) ∧ Below (s + 1) W1 W) W) (HW : ∀ W, Below (s + 1) W1 W → Below w.heap.size w W) (Ln : Nat) (hLn : long tn = (Ln : Int))
    (u : Nat → Value) (wr : World) (d d2 : Dv) (hd2 : finD d th 1024 = d2) (hfe : finE d th = 0) (hp0 : 0 ≤ tp) (hln : tp.toNat + Ln ≤ d2.b.length) (hrd : (d2.b.drop tp.toNat).take Ln = List.replicate Ln tf) (g5 : u 5 = .pointer (some ⟨s, 0, none⟩)) (g7 : u 7 = .pointer (some ⟨s + 2, 0, none⟩)) (hD : Dev wr [] (s + 2) (s + 1) d) (hB : Below (s + 1) W1 wr)
    (HN : ∀ u' w' Gr, u' 5 = .pointer (some ⟨s, 0, none⟩) → u' 23 = .slice (some ⟨Gr, 0, none⟩) Ln Ln → u' 24 = .int .i64 0 → Buf w' Gr (List.replicate Ln tf) → Below (s + 1) W1 w' → Code.wp Try.prog (tailOf 20 body8) (bodyPost Try.prog Try.f8 fun e w'' => e = .returned (.bool true) ∧ Below w.heap.size w w'') (frame8 u') w') :
    Code.wp Try.prog (tailOf 18 body8) (bodyPost Try.prog Try.f8 fun e w'' => e = .returned (.bool true) ∧ Below w.heap.size w w'') (frame8 u) wr := by
  rw [frame8_open, g5, g7]
  clear g5 g7
  have HCh : Hid _ := HC
  have HWh : Hid _ := HW
  have HNh : Hid _ := HN
  clear HC HW HN
  have HL : Hid _ := long_any ⟨tk, th, tp, tn, tf⟩
  dsimp only [opV] at HL
  rw [hLn] at HL
  have HFi := finish_any (s + 2) (s + 1) th d [] wr hD
  rw [hd2, hfe] at HFi
  obtain ⟨⟨x0, x1, x2, x3, x4⟩, _⟩ := HCh.out _ hB
  conv => arg 2; whnf
  go_wp2_with fail
  refine HFi.mono ?_
  clear HFi
  rintro e w2 ⟨rfl, hD2, ht2⟩
  have hB2d := (touch_8 hB hz ht2 (by omega) (by omega)).drew
  have hD2d := hD2.below (Below.refl _ _).drew
  clear x0 x1 x2 x3 x4 hD hB ht2 hD2 hd2 hfe
  go_wp2_with fail
  rename_i Kx hKx
  refine wp_region_held_drew (S := (fun W => (W.cell? ⟨s, 0, none⟩ = some (.int .i64 tk) ∧ W.cell? ⟨s, 1, none⟩ = some (.int .i64 th) ∧ W.cell? ⟨s, 2, none⟩ = some (.int .i64 tp) ∧ W.cell? ⟨s, 3, none⟩ = some (.int .i64 tn) ∧ W.cell? ⟨s, 4, none⟩ = some (.int .u8 (tf.toNat : Int))) ∧ Below (s + 1) W1 W)) (by kernel_rfl) (HCh.out _ hB2d) (fun hHeld => ?_)
  refine wpAnyH_take (i := 0) (v := ?_) rfl (by kernel_rfl) (by kernel_rfl) (by kernel_rfl) (fun _ _ _ h => h) (Or.inl ⟨by rfl, ?_⟩) (by assumption) ?_
  rotate_left
  · (intro W hSw; (try dsimp only at hSw); go_simp; try with_reducible rfl)
  try simp only [Act.put, List.getElem_toArray, List.getElem_cons_zero, List.setIfInBounds_toArray, List.set_cons_zero, List.set_cons_succ]
  refine wpAnyH_take (i := 1) (v := ?_) rfl (by kernel_rfl) (by kernel_rfl) (by kernel_rfl) (fun _ _ _ h => h) (Or.inl ⟨by rfl, ?_⟩) (by assumption) ?_
  rotate_left
  · (intro W hSw; (try dsimp only at hSw); go_simp; try with_reducible rfl)
  try simp only [Act.put, List.getElem_toArray, List.getElem_cons_zero, List.getElem_cons_succ, List.setIfInBounds_toArray, List.set_cons_zero, List.set_cons_succ]
  refine wpAnyH_take (i := 2) (v := ?_) rfl (by kernel_rfl) (by kernel_rfl) (by kernel_rfl) (fun _ _ _ h => h) (Or.inl ⟨by rfl, ?_⟩) (by assumption) ?_
  rotate_left
  · (intro W hSw; (try dsimp only at hSw); go_simp; try with_reducible rfl)
  try simp only [Act.put, List.getElem_toArray, List.getElem_cons_zero, List.getElem_cons_succ, List.setIfInBounds_toArray, List.set_cons_zero, List.set_cons_succ]
  refine wpAnyH_take (i := 3) (v := ?_) rfl (by kernel_rfl) (by kernel_rfl) (by kernel_rfl) (fun _ _ _ h => h) (Or.inl ⟨by rfl, ?_⟩) (by assumption) ?_
  rotate_left
  · (intro W hSw; (try dsimp only at hSw); go_simp; try with_reducible rfl)
  try simp only [Act.put, List.getElem_toArray, List.getElem_cons_zero, List.getElem_cons_succ, List.setIfInBounds_toArray, List.set_cons_zero, List.set_cons_succ]
  refine wpAnyH_ready (rs := [4]) (by kernel_rfl) (by simp) ?_
  refine AllReadyH.cons rfl (fun K hK => ?_) AllReadyH.nil
  go_simp
  refine (HL.out _).mono ?_
  rintro e w3 ⟨rfl, hb3⟩
  have hB3 := below_8 hB2d hz hb3
  have hD3 := hD2d.below hb3
  try go_wp2_with fail
  refine hK.out _ _ (HCh.out _ hB3) (fun hHeld => ?_)
  clear hK K
  try simp only [Act.put, List.getElem_toArray, List.getElem_cons_zero, List.getElem_cons_succ, List.setIfInBounds_toArray, List.set_cons_zero, List.set_cons_succ]
  refine wpAnyH_ready (rs := [5]) (by kernel_rfl) (by simp) ?_
  refine AllReadyH.cons rfl (fun K hK => ?_) AllReadyH.nil
  go_simp
  have HR := read_any (s + 2) (s + 1) tp.toNat Ln d2 _ w3 hD3 (by omega)
  rw [hrd, show ((tp.toNat : Nat) : Int) = tp by omega] at HR
  refine HR.mono ?_
  rintro e w4 ⟨rfl, hR4, hz4, hb4⟩
  have HZ4 : Hid _ := hz4
  clear hz4 HR
  have hB4 := below_8 hB3 hz hb4
  try go_wp2_with fail
  refine hK.out _ _ (HCh.out _ hB4) (fun hHeld => ?_)
  clear hK K
  try simp only [Act.put, List.getElem_toArray, List.getElem_cons_zero, List.getElem_cons_succ, List.setIfInBounds_toArray, List.set_cons_zero, List.set_cons_succ]
  refine wpAnyH_take (i := 6) (v := ?_) rfl (by kernel_rfl) (by kernel_rfl) (by kernel_rfl) (fun _ _ _ h => h) (Or.inl ⟨by rfl, ?_⟩) (by assumption) ?_
  rotate_left
  · (intro W hSw; (try dsimp only at hSw); go_simp; try with_reducible rfl)
  try simp only [Act.put, List.getElem_toArray, List.getElem_cons_zero, List.getElem_cons_succ, List.setIfInBounds_toArray, List.set_cons_zero, List.set_cons_succ]
  refine wpAnyH_take (i := 7) (v := ?_) rfl (by kernel_rfl) (by kernel_rfl) (by kernel_rfl) (fun _ _ _ h => h) (Or.inl ⟨by rfl, ?_⟩) (by assumption) ?_
  rotate_left
  · (intro W hSw; (try dsimp only at hSw); go_simp; try with_reducible rfl)
  try simp only [Act.put, List.getElem_toArray, List.getElem_cons_zero, List.getElem_cons_succ, List.setIfInBounds_toArray, List.set_cons_zero, List.set_cons_succ]
  refine wpAnyH_take (i := 8) (v := ?_) rfl (by kernel_rfl) (by kernel_rfl) (by kernel_rfl) (fun _ _ _ h => h) (Or.inl ⟨by rfl, ?_⟩) (by assumption) ?_
  rotate_left
  · (intro W hSw; (try dsimp only at hSw); go_simp; try with_reducible rfl)
  try simp only [Act.put, List.getElem_toArray, List.getElem_cons_zero, List.getElem_cons_succ, List.setIfInBounds_toArray, List.set_cons_zero, List.set_cons_succ]
  refine wpAnyH_take (i := 9) (v := ?_) rfl (by kernel_rfl) (by kernel_rfl) (by kernel_rfl) (fun _ _ _ h => h) (Or.inl ⟨by rfl, ?_⟩) (by assumption) ?_
  rotate_left
  · (intro W hSw; (try dsimp only at hSw); go_simp; try with_reducible rfl)
  try simp only [Act.put, List.getElem_toArray, List.getElem_cons_zero, List.getElem_cons_succ, List.setIfInBounds_toArray, List.set_cons_zero, List.set_cons_succ]
  refine wpAnyH_take (i := 10) (v := ?_) rfl (by kernel_rfl) (by kernel_rfl) (by kernel_rfl) (fun _ _ _ h => h) (Or.inl ⟨by rfl, ?_⟩) (by assumption) ?_
  rotate_left
  · (intro W hSw; (try dsimp only at hSw); go_simp; try with_reducible rfl)
  try simp only [Act.put, List.getElem_toArray, List.getElem_cons_zero, List.getElem_cons_succ, List.setIfInBounds_toArray, List.set_cons_zero, List.set_cons_succ]
  refine wpAnyH_done (by kernel_rfl) ?_ _
  exact k8 rfl rfl (hKx _ _ (wp8 rfl rfl (HNh.out _ _ _ rfl rfl rfl hR4 hB4)))

end Go.Proofs.Ytbigclhfgcaccaa
