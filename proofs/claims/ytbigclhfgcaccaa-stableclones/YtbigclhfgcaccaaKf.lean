/-
  StableClones: the device stands as it stood.
-/
import Derived.Test.YtbigclhfgcaccaaKd
import Derived.Deep.RegionHeld3
namespace Go.Proofs.Ytbigclhfgcaccaa
open Go.RowKit

set_option maxRecDepth 100000 in
set_option maxHeartbeats 3000000 in
theorem rest8b (tk th tp tn : Int) (tf : UInt8) (w W1 : World) (s : Nat) (hz : s + 1 ≤ W1.heap.size) (HC : ∀ W, Below (s + 1) W1 W → (fun W => (W.cell? ⟨s, 0, none⟩ = some (.int .i64 tk) ∧ W.cell? ⟨s, 1, none⟩ = some (.int .i64 th) ∧ W.cell? ⟨s, 2, none⟩ = some (.int .i64 tp) ∧ W.cell? ⟨s, 3, none⟩ = some (.int .i64 tn) ∧ W.cell? ⟨s, 4, none⟩ = some (.int .u8 (tf.toNat : Int))) ∧ Below (s + 1) W1 W) W) (HW : ∀ W, Below (s + 1) W1 W → Below w.heap.size w W) (Ln : Nat) (hLn : long tn = (Ln : Int)) (hLn2 : Ln ≤ 3000)
    (n : Nat) (u : Nat → Value) (wr : World) (Gu : Nat) (d : Dv) (g0 : u 0 = .int .i64 (n : Int)) (g5 : u 5 = .pointer (some ⟨s, 0, none⟩)) (g7 : u 7 = .pointer (some ⟨s + 2, 0, none⟩)) (g11 : u 11 = .slice (some ⟨Gu, 0, none⟩) n n) (g13 : u 13 = .int .i64 (flA d th)) (g14 : u 14 = .int .i64 (flN d th)) (g15 : u 15 = .bool (flO d th)) (hD : Dev wr [] (s + 2) (s + 1) d) (hdn : d.b.length = n) (hU : Buf wr Gu d.b) (hB : Below (s + 1) W1 wr)
    (HN : ∀ u' w' Gb, u' 5 = .pointer (some ⟨s, 0, none⟩) → u' 7 = .pointer (some ⟨s + 2, 0, none⟩) → u' 21 = .slice (some ⟨Gb, 0, none⟩) Ln Ln → Dev w' [Gb] (s + 2) (s + 1) d → Buf w' Gb (List.replicate Ln tf) → s + 2 < Gb → Below (s + 1) W1 w' → Code.wp Try.prog (tailOf 16 body8) (bodyPost Try.prog Try.f8 fun e w'' => e = .returned (.bool true) ∧ Below w.heap.size w w'') (frame8 u') w') :
    Code.wp Try.prog (tailOf 11 body8) (bodyPost Try.prog Try.f8 fun e w'' => e = .returned (.bool true) ∧ Below w.heap.size w w'') (frame8 u) wr := by
  rw [frame8_open, g0, g5, g7, g11, g13, g14, g15]
  clear g0 g5 g7 g11 g13 g14 g15
  have HCh : Hid _ := HC
  have HWh : Hid _ := HW
  have HNh : Hid _ := HN
  clear HC HW HN
  have HL : Hid _ := long_any ⟨tk, th, tp, tn, tf⟩
  dsimp only [opV] at HL
  rw [hLn] at HL
  have HR := read_any (s + 2) (s + 1) 0 n d _ wr hD (by omega)
  rw [List.drop_zero, List.take_of_length_le (by omega)] at HR
  obtain ⟨⟨x0, x1, x2, x3, x4⟩, _⟩ := HCh.out _ hB
  conv => arg 2; whnf
  go_wp2_with fail
  refine HR.mono ?_
  clear HR
  rintro e w2 ⟨rfl, hV2, hz2, hb2⟩
  have hD2 := hD.below hb2
  have hU2 := Buf.below hU hb2 (Nat.le_refl _)
  have hB2 := below_8 hB hz hb2
  clear x0 x1 x2 x3 x4 hz2 hb2 hD hU hB
  generalize wr.heap.size = Gv at *
  obtain ⟨⟨x0, x1, x2, x3, x4⟩, _⟩ := HCh.out _ hB2
  have HF := fly8 (s + 2) (s + 1) th d _ w2 hD2
  go_wp2_with fail
  refine HF.mono ?_
  clear HF
  rintro e w3 ⟨rfl, hb3⟩
  have hD3d := (hD2.below hb3).below (Below.refl _ _).drew
  have hB3 := below_8 hB2 hz hb3
  have hB3d := hB3.drew
  have cu := conv_buf (n := n) (Buf.below hU2 hb3 (Nat.le_refl _)) hdn
  have cv := conv_buf (n := n) (Buf.below hV2 hb3 (Nat.le_refl _)) hdn
  clear x0 x1 x2 x3 x4 hb3 hD2 hU2 hV2 hB2
  obtain ⟨⟨x0, x1, x2, x3, x4⟩, _⟩ := HCh.out _ hB3
  have hes : Hid (flO d th = true → ∀ a l, ¬ startE d th a l = 0) := fun e a l => fl_start e a l
  rcases hfo : flO d th with _ | _
  · go_wp2_with fail
    rename_i Kx hKx
    refine wp_region_held_drew (S := (fun W => (W.cell? ⟨s, 0, none⟩ = some (.int .i64 tk) ∧ W.cell? ⟨s, 1, none⟩ = some (.int .i64 th) ∧ W.cell? ⟨s, 2, none⟩ = some (.int .i64 tp) ∧ W.cell? ⟨s, 3, none⟩ = some (.int .i64 tn) ∧ W.cell? ⟨s, 4, none⟩ = some (.int .u8 (tf.toNat : Int))) ∧ Below (s + 1) W1 W)) (by kernel_rfl) (HCh.out _ hB3d) (fun hHeld => ?_)
    refine wpAnyH_take (i := 0) (v := ?_) rfl (by kernel_rfl) (by kernel_rfl) (by kernel_rfl) (fun _ _ _ h => h) (Or.inl ⟨by rfl, ?_⟩) (by assumption) ?_
    rotate_left
    · (intro W hSw; (try dsimp only at hSw); go_simp; try with_reducible rfl)
    try simp only [Act.put, List.getElem_toArray, List.getElem_cons_zero, List.setIfInBounds_toArray, List.set_cons_zero, List.set_cons_succ]
    refine wpAnyH_take (i := 2) (v := ?_) rfl (by kernel_rfl) (by kernel_rfl) (by kernel_rfl) (fun _ _ _ h => h) (Or.inl ⟨by rfl, ?_⟩) (by assumption) ?_
    rotate_left
    · (intro W hSw; (try dsimp only at hSw); go_simp; try with_reducible rfl)
    try simp only [Act.put, List.getElem_toArray, List.getElem_cons_zero, List.getElem_cons_succ, List.setIfInBounds_toArray, List.set_cons_zero, List.set_cons_succ]
    refine wpAnyH_take (i := 3) (v := ?_) rfl (by kernel_rfl) (by kernel_rfl) (by kernel_rfl) (fun _ _ _ h => h) (Or.inl ⟨by rfl, ?_⟩) (by assumption) ?_
    rotate_left
    · (intro W hSw; (try dsimp only at hSw); go_simp; try with_reducible rfl)
    try simp only [Act.put, List.getElem_toArray, List.getElem_cons_zero, List.getElem_cons_succ, List.setIfInBounds_toArray, List.set_cons_zero, List.set_cons_succ]
    refine wpAnyH_ready (rs := [1]) (by kernel_rfl) (by simp) ?_
    refine AllReadyH.cons rfl (fun K hK => ?_) AllReadyH.nil
    go_simp
    refine (HL.out _).mono ?_
    rintro e w4 ⟨rfl, hb4⟩
    have hB4 := below_8 hB3d hz hb4
    have hD4 := hD3d.below hb4
    try go_wp2_with fail
    refine hK.out _ _ (HCh.out _ hB4) (fun hHeld => ?_)
    clear hK K
    try simp only [Act.put, List.getElem_toArray, List.getElem_cons_zero, List.getElem_cons_succ, List.setIfInBounds_toArray, List.set_cons_zero, List.set_cons_succ]
    refine wpAnyH_ready (rs := [4]) (by kernel_rfl) (by simp) ?_
    refine AllReadyH.cons rfl (fun K hK => ?_) AllReadyH.nil
    go_simp
    refine (filled_any Ln tf w4 (by omega)).mono ?_
    rintro e w5 ⟨rfl, hX5, hz5, hb5⟩
    have HZ5 : Hid _ := hz5
    clear hz5
    have hB5 := below_8 hB4 hz hb5
    have hD5 := hD4.away hb5 [w4.heap.size] (by intro k hk; simp at hk; omega)
    have hGb := hD4.lt.1
    try go_wp2_with fail
    refine hK.out _ _ (HCh.out _ hB5) (fun hHeld => ?_)
    clear hK K
    try simp only [Act.put, List.getElem_toArray, List.getElem_cons_zero, List.getElem_cons_succ, List.setIfInBounds_toArray, List.set_cons_zero, List.set_cons_succ]
    refine wpAnyH_take (i := 5) (v := ?_) rfl (by kernel_rfl) (by kernel_rfl) (by kernel_rfl) (fun _ _ _ h => h) (Or.inl ⟨by rfl, ?_⟩) (by assumption) ?_
    rotate_left
    · (intro W hSw; (try dsimp only at hSw); go_simp; try with_reducible rfl)
    try simp only [Act.put, List.getElem_toArray, List.getElem_cons_zero, List.getElem_cons_succ, List.setIfInBounds_toArray, List.set_cons_zero, List.set_cons_succ]
    refine wpAnyH_done (by kernel_rfl) ?_ _
    exact k8 rfl rfl (hKx _ _ (wp8 rfl rfl (HNh.out _ _ _ rfl rfl rfl hD5 hX5 hGb hB5)))
  · obtain ⟨es, hse⟩ : ∃ es, startE d th 0 (List.replicate 64 1) = es := ⟨_, rfl⟩
    have hes : Hid (¬ es = 0) := by rw [← hse]; exact hes.out hfo 0 (List.replicate 64 1)
    have HSE : Hid _ := hse
    clear hse
    clear HNh HL
    go_wp2_with fail
    refine wp_region_held_drew (S := (fun W => (W.cell? ⟨s, 0, none⟩ = some (.int .i64 tk) ∧ W.cell? ⟨s, 1, none⟩ = some (.int .i64 th) ∧ W.cell? ⟨s, 2, none⟩ = some (.int .i64 tp) ∧ W.cell? ⟨s, 3, none⟩ = some (.int .i64 tn) ∧ W.cell? ⟨s, 4, none⟩ = some (.int .u8 (tf.toNat : Int))) ∧ Below (s + 1) W1 W)) (by kernel_rfl) (HCh.out _ hB3d) (fun hHeld => ?_)
    refine wpAnyH_take (i := 0) (v := ?_) rfl (by kernel_rfl) (by kernel_rfl) (by kernel_rfl) (fun _ _ _ h => h) (Or.inl ⟨by rfl, ?_⟩) (by assumption) ?_
    rotate_left
    · (intro W hSw; (try dsimp only at hSw); go_simp; try with_reducible rfl)
    try simp only [Act.put, List.getElem_toArray, List.getElem_cons_zero, List.setIfInBounds_toArray, List.set_cons_zero, List.set_cons_succ]
    refine wpAnyH_take (i := 1) (v := ?_) rfl (by kernel_rfl) (by kernel_rfl) (by kernel_rfl) (fun _ _ _ h => h) (Or.inl ⟨by rfl, ?_⟩) (by assumption) ?_
    rotate_left
    · (intro W hSw; (try dsimp only at hSw); go_simp; try with_reducible rfl)
    try simp only [Act.put, List.getElem_toArray, List.getElem_cons_zero, List.getElem_cons_succ, List.setIfInBounds_toArray, List.set_cons_zero, List.set_cons_succ]
    refine wpAnyH_take (i := 2) (v := ?_) rfl (by kernel_rfl) (by kernel_rfl) (by kernel_rfl) (fun _ _ _ h => h) (Or.inl ⟨by rfl, ?_⟩) (by assumption) ?_
    rotate_left
    · (intro W hSw; (try dsimp only at hSw); go_simp; try with_reducible rfl)
    try simp only [Act.put, List.getElem_toArray, List.getElem_cons_zero, List.getElem_cons_succ, List.setIfInBounds_toArray, List.set_cons_zero, List.set_cons_succ]
    refine wpAnyH_ready (rs := [3]) (by kernel_rfl) (by simp) ?_
    refine AllReadyH.cons rfl (fun K hK => ?_) AllReadyH.nil
    go_simp
    refine (filled_any 64 1 _ (by omega)).mono ?_
    rintro e w4 ⟨rfl, hX4, hz4, hb4⟩
    have HZ4 : Hid _ := hz4
    clear hz4
    have hB4 := below_8 hB3d hz hb4
    have hD4 := hD3d.below hb4
    try go_wp2_with fail
    refine hK.out _ _ (HCh.out _ hB4) (fun hHeld => ?_)
    clear hK K
    try simp only [Act.put, List.getElem_toArray, List.getElem_cons_zero, List.getElem_cons_succ, List.setIfInBounds_toArray, List.set_cons_zero, List.set_cons_succ]
    refine wpAnyH_ready (rs := [4]) (by kernel_rfl) (by simp) ?_
    refine AllReadyH.cons rfl (fun K hK => ?_) AllReadyH.nil
    go_simp
    have HSt := start_any (s + 2) (s + 1) th 0 (some ⟨w3.drew.heap.size, 0, none⟩) 64 (List.replicate 64 1) d [] w4 hD4 (by intro k hk; simp at hk) (by constructor <;> omega) hX4.slB0 (by simp)
    rw [List.length_replicate, HSE.out] at HSt
    refine HSt.mono ?_
    clear HSt
    rintro e w5 ⟨rfl, hD5, ht5⟩
    have hB5 := touch_8 hB4 hz ht5 (by omega) (by omega)
    try go_wp2_with fail
    refine hK.out _ _ (HCh.out _ hB5) (fun hHeld => ?_)
    clear hK K
    try simp only [Act.put, List.getElem_toArray, List.getElem_cons_zero, List.getElem_cons_succ, List.setIfInBounds_toArray, List.set_cons_zero, List.set_cons_succ]
    refine wpAnyH_take (i := 5) (v := .bool true) rfl (by kernel_rfl) (by kernel_rfl) (by kernel_rfl) (fun _ _ _ h => h) (Or.inl ⟨by rfl, ?_⟩) (by assumption) ?_
    · (intro W hSw; (try dsimp only at hSw); go_simp; try simp [hes.out])
    try simp only [Act.put, List.getElem_toArray, List.getElem_cons_zero, List.getElem_cons_succ, List.setIfInBounds_toArray, List.set_cons_zero, List.set_cons_succ]
    refine wpAnyH_take (i := 6) (v := ?_) rfl (by kernel_rfl) (by kernel_rfl) (by kernel_rfl) (fun _ _ _ h => h) (Or.inl ⟨by rfl, ?_⟩) (by assumption) ?_
    rotate_left
    · (intro W hSw; (try dsimp only at hSw); go_simp; try with_reducible rfl)
    try simp only [Act.put, List.getElem_toArray, List.getElem_cons_zero, List.getElem_cons_succ, List.setIfInBounds_toArray, List.set_cons_zero, List.set_cons_succ]
    refine wpAnyH_ready (rs := [7]) (by kernel_rfl) (by simp) ?_
    refine AllReadyH.cons rfl (fun K hK => ?_) AllReadyH.nil
    go_simp
    refine (lives_any _).mono ?_
    rintro e w6 ⟨rfl, hb6⟩
    have hB6 := below_8 hB5 hz hb6
    try go_wp2_with fail
    refine hK.out _ _ (HCh.out _ hB6) (fun hHeld => ?_)
    clear hK K
    try simp only [Act.put, List.getElem_toArray, List.getElem_cons_zero, List.getElem_cons_succ, List.setIfInBounds_toArray, List.set_cons_zero, List.set_cons_succ]
    refine wpAnyH_take (i := 8) (v := ?_) rfl (by kernel_rfl) (by kernel_rfl) (by kernel_rfl) (fun _ _ _ h => h) (Or.inl ⟨by rfl, ?_⟩) (by assumption) ?_
    rotate_left
    · (intro W hSw; (try dsimp only at hSw); go_simp; try with_reducible rfl)
    try simp only [Act.put, List.getElem_toArray, List.getElem_cons_zero, List.getElem_cons_succ, List.setIfInBounds_toArray, List.set_cons_zero, List.set_cons_succ]
    refine wpAnyH_take (i := 9) (v := ?_) rfl (by kernel_rfl) (by kernel_rfl) (by kernel_rfl) (fun _ _ _ h => h) (Or.inl ⟨by rfl, ?_⟩) (by assumption) ?_
    rotate_left
    · (intro W hSw; (try dsimp only at hSw); go_simp; try with_reducible rfl)
    try simp only [Act.put, List.getElem_toArray, List.getElem_cons_zero, List.getElem_cons_succ, List.setIfInBounds_toArray, List.set_cons_zero, List.set_cons_succ]
    refine wpAnyH_done (by kernel_rfl) ?_ _
    have HB6 : Hid _ := HWh.out _ hB6
    go_wp2_with fail
    go_ret
    exact ⟨rfl, HB6.out⟩

end Go.Proofs.Ytbigclhfgcaccaa
