/-
  StableClones: the clone, and what is done to it.
-/
import Derived.Test.YtbigclhfgcaccaaKd
import Derived.Deep.RegionHeld3
namespace Go.Proofs.Ytbigclhfgcaccaa
open Go.RowKit

set_option maxRecDepth 100000 in
set_option maxHeartbeats 3000000 in
theorem rest8a (tk th tp tn : Int) (tf : UInt8) (hpl : I64 tp) (w W1 : World) (s : Nat) (hz : s + 1 ≤ W1.heap.size) (HC : ∀ W, Below (s + 1) W1 W → (fun W => (W.cell? ⟨s, 0, none⟩ = some (.int .i64 tk) ∧ W.cell? ⟨s, 1, none⟩ = some (.int .i64 th) ∧ W.cell? ⟨s, 2, none⟩ = some (.int .i64 tp) ∧ W.cell? ⟨s, 3, none⟩ = some (.int .i64 tn) ∧ W.cell? ⟨s, 4, none⟩ = some (.int .u8 (tf.toNat : Int))) ∧ Below (s + 1) W1 W) W) (HW : ∀ W, Below (s + 1) W1 W → Below w.heap.size w W) (Ln : Nat) (hLn : long tn = (Ln : Int)) (hLn2 : Ln ≤ 3000)
    (n : Nat) (u : Nat → Value) (wr : World) (g0 : u 0 = .int .i64 (n : Int)) (g5 : u 5 = .pointer (some ⟨s, 0, none⟩)) (g7 : u 7 = .pointer (some ⟨s + 2, 0, none⟩)) (d : Dv) (hD : Dev wr [] (s + 2) (s + 1) d) (hdn : d.b.length = n) (hB : Below (s + 1) W1 wr)
    (HN : ∀ u' w' Gu, u' 0 = .int .i64 (n : Int) → u' 5 = .pointer (some ⟨s, 0, none⟩) → u' 7 = .pointer (some ⟨s + 2, 0, none⟩) → u' 11 = .slice (some ⟨Gu, 0, none⟩) n n → u' 13 = .int .i64 (flA d th) → u' 14 = .int .i64 (flN d th) → u' 15 = .bool (flO d th) → Dev w' [] (s + 2) (s + 1) d → Buf w' Gu d.b → Below (s + 1) W1 w' → Code.wp Try.prog (tailOf 11 body8) (bodyPost Try.prog Try.f8 fun e w'' => e = .returned (.bool true) ∧ Below w.heap.size w w'') (frame8 u') w') :
    Code.wp Try.prog (tailOf 4 body8) (bodyPost Try.prog Try.f8 fun e w'' => e = .returned (.bool true) ∧ Below w.heap.size w w'') (frame8 u) wr := by
  rw [frame8_open, g0, g5, g7]
  clear g0 g5 g7
  have HCh : Hid _ := HC
  have HWh : Hid _ := HW
  have HNh : Hid _ := HN
  clear HC HW HN
  have HL : Hid _ := long_any ⟨tk, th, tp, tn, tf⟩
  dsimp only [opV] at HL
  rw [hLn] at HL
  have hys := hD.lt.1
  obtain ⟨⟨x0, x1, x2, x3, x4⟩, _⟩ := HCh.out _ hB
  conv => arg 2; whnf
  go_wp2_with fail
  refine (clone_any (s + 2) (s + 1) d wr hD).mono ?_
  rintro e w2 ⟨rfl, hC2, hb2⟩
  have hP2 := hD.away hb2 [wr.heap.size + 1, wr.heap.size] (by intro k hk; simp at hk; omega)
  have hB2 := below_8 hB hz hb2
  clear x0 x1 x2 x3 x4 hD hb2 hB
  generalize wr.heap.size = y at *
  obtain ⟨⟨x0, x1, x2, x3, x4⟩, _⟩ := HCh.out _ hB2
  have HR := read_any (s + 2) (s + 1) 0 n d _ w2 hP2 (by omega)
  rw [List.drop_zero, List.take_of_length_le (by omega)] at HR
  have hGu := hC2.lt.1
  go_wp2_with fail
  refine HR.mono ?_
  clear HR
  rintro e w3 ⟨rfl, hU3, hz3, hb3⟩
  have hP3 := hP2.below hb3
  have hC3 := hC2.below hb3
  have hB3 := below_8 hB2 hz hb3
  clear x0 x1 x2 x3 x4 hz3 hb3 hP2 hC2 hB2
  generalize w2.heap.size = Gu at *
  obtain ⟨⟨x0, x1, x2, x3, x4⟩, _⟩ := HCh.out _ hB3
  have HF := fly8 (s + 2) (s + 1) th d _ w3 hP3
  go_wp2_with fail
  refine HF.mono ?_
  clear HF
  rintro e w4 ⟨rfl, hb4⟩
  have hP4 := hP3.below hb4
  have hC4 := hC3.below hb4
  have hU4 := Buf.below hU3 hb4 (Nat.le_refl _)
  have hB4 := below_8 hB3 hz hb4
  clear x0 x1 x2 x3 x4 hb4 hP3 hC3 hB3 hU3
  obtain ⟨⟨x0, x1, x2, x3, x4⟩, _⟩ := HCh.out _ hB4
  have HFi := finish_any (y + 1) y th d [s + 2, s + 1] w4 hC4
  go_wp2_with fail
  refine HFi.mono ?_
  clear HFi
  rintro e w5 ⟨rfl, hC5, ht5⟩
  have hP5 := hP4.touch ht5 (by simp) (by simp)
  have hU5 := Buf.touch hU4 ht5 (by omega) (by omega)
  have hB5 := touch_8 hB4 hz ht5 (by omega) (by omega)
  clear x0 x1 x2 x3 x4 ht5 hP4 hC4 hB4 hU4
  generalize finD d th 1024 = d5 at *
  obtain ⟨⟨x0, x1, x2, x3, x4⟩, _⟩ := HCh.out _ hB5
  have HT := trim_any (y + 1) y 0 d5 _ w5 hC5 (by omega)
  go_wp2_with fail
  refine HT.mono ?_
  clear HT
  rintro e w6 ⟨rfl, hC6, ht6⟩
  have hP6d := (hP5.touch ht6 (by simp) (by simp)).below (Below.refl _ _).drew
  have hC6d := hC6.below (Below.refl _ _).drew
  have hU6d := Buf.below (Buf.touch hU5 ht6 (by omega) (by omega)) (Below.refl _ _).drew (Nat.le_refl _)
  have hB6d := (touch_8 hB5 hz ht6 (by omega) (by omega)).drew
  clear x0 x1 x2 x3 x4 ht6 hP5 hC5 hB5 hU5 hC6
  generalize trimD d5 0 = d6 at *
  go_wp2_with fail
  rename_i Kx hKx
  refine wp_region_held_drew (S := (fun W => (W.cell? ⟨s, 0, none⟩ = some (.int .i64 tk) ∧ W.cell? ⟨s, 1, none⟩ = some (.int .i64 th) ∧ W.cell? ⟨s, 2, none⟩ = some (.int .i64 tp) ∧ W.cell? ⟨s, 3, none⟩ = some (.int .i64 tn) ∧ W.cell? ⟨s, 4, none⟩ = some (.int .u8 (tf.toNat : Int))) ∧ Below (s + 1) W1 W)) (by kernel_rfl) (HCh.out _ hB6d) (fun hHeld => ?_)
  refine wpAnyH_take (i := 0) (v := ?_) rfl (by kernel_rfl) (by kernel_rfl) (by kernel_rfl) (fun _ _ _ h => h) (Or.inl ⟨by rfl, ?_⟩) (by assumption) ?_
  rotate_left
  · (intro W hSw; (try dsimp only at hSw); go_simp; try with_reducible rfl)
  try simp only [Act.put, List.getElem_toArray, List.getElem_cons_zero, List.setIfInBounds_toArray, List.set_cons_zero, List.set_cons_succ]
  refine wpAnyH_take (i := 1) (v := ?_) rfl (by kernel_rfl) (by kernel_rfl) (by kernel_rfl) (fun _ _ _ h => h) (Or.inl ⟨by rfl, ?_⟩) (by assumption) ?_
  rotate_left
  · (intro W hSw; (try dsimp only at hSw); go_simp; try with_reducible rfl)
  try simp only [Act.put, List.getElem_toArray, List.getElem_cons_zero, List.getElem_cons_succ, List.setIfInBounds_toArray, List.set_cons_zero, List.set_cons_succ]
  refine wpAnyH_take (i := 2) (v := ?_) rfl (by kernel_rfl) (by kernel_rfl) (by kernel_rfl) (fun _ _ _ h => h) (Or.inl ⟨by rfl, ?_⟩) (by assumption) ?_
  rotate_left
  · (intro W hSw; (try dsimp only at hSw); go_simp; try with_reducible rfl)
  try simp only [Act.put, List.getElem_toArray, List.getElem_cons_zero, List.getElem_cons_succ, List.setIfInBounds_toArray, List.set_cons_zero, List.set_cons_succ]
  refine wpAnyH_take (i := 3) (v := ?_) rfl (by kernel_rfl) (by kernel_rfl) (by kernel_rfl) (fun _ _ _ h => h) (Or.inl ⟨by rfl, ?_⟩) (by assumption) ?_
  rotate_left
  · (intro W hSw; (try dsimp only at hSw); go_simp; try with_reducible rfl)
  try simp only [Act.put, List.getElem_toArray, List.getElem_cons_zero, List.getElem_cons_succ, List.setIfInBounds_toArray, List.set_cons_zero, List.set_cons_succ]
  refine wpAnyH_take (i := 4) (v := ?_) rfl (by kernel_rfl) (by kernel_rfl) (by kernel_rfl) (fun _ _ _ h => h) (Or.inl ⟨by rfl, ?_⟩) (by assumption) ?_
  rotate_left
  · (intro W hSw; (try dsimp only at hSw); go_simp; try with_reducible rfl)
  try simp only [Act.put, List.getElem_toArray, List.getElem_cons_zero, List.getElem_cons_succ, List.setIfInBounds_toArray, List.set_cons_zero, List.set_cons_succ]
  refine wpAnyH_take (i := 5) (v := ?_) rfl (by kernel_rfl) (by kernel_rfl) (by kernel_rfl) (fun _ _ _ h => h) (Or.inl ⟨by rfl, ?_⟩) (by assumption) ?_
  rotate_left
  · (intro W hSw; (try dsimp only at hSw); go_simp; try with_reducible rfl)
  try simp only [Act.put, List.getElem_toArray, List.getElem_cons_zero, List.getElem_cons_succ, List.setIfInBounds_toArray, List.set_cons_zero, List.set_cons_succ]
  refine wpAnyH_take (i := 7) (v := ?_) rfl (by kernel_rfl) (by kernel_rfl) (by kernel_rfl) (fun _ _ _ h => h) (Or.inl ⟨by rfl, ?_⟩) (by assumption) ?_
  rotate_left
  · (intro W hSw; (try dsimp only at hSw); go_simp; try with_reducible rfl)
  try simp only [Act.put, List.getElem_toArray, List.getElem_cons_zero, List.getElem_cons_succ, List.setIfInBounds_toArray, List.set_cons_zero, List.set_cons_succ]
  refine wpAnyH_take (i := 8) (v := ?_) rfl (by kernel_rfl) (by kernel_rfl) (by kernel_rfl) (fun _ _ _ h => h) (Or.inl ⟨by rfl, ?_⟩) (by assumption) ?_
  rotate_left
  · (intro W hSw; (try dsimp only at hSw); go_simp; try with_reducible rfl)
  try simp only [Act.put, List.getElem_toArray, List.getElem_cons_zero, List.getElem_cons_succ, List.setIfInBounds_toArray, List.set_cons_zero, List.set_cons_succ]
  refine wpAnyH_ready (rs := [6]) (by kernel_rfl) (by simp) ?_
  refine AllReadyH.cons rfl (fun K hK => ?_) AllReadyH.nil
  go_simp
  refine (HL.out _).mono ?_
  rintro e w7 ⟨rfl, hb7⟩
  have hB7 := below_8 hB6d hz hb7
  have hP7 := hP6d.below hb7
  have hC7 := hC6d.below hb7
  have hU7 := Buf.below hU6d hb7 (Nat.le_refl _)
  try go_wp2_with fail
  refine hK.out _ _ (HCh.out _ hB7) (fun hHeld => ?_)
  clear hK K
  try simp only [Act.put, List.getElem_toArray, List.getElem_cons_zero, List.getElem_cons_succ, List.setIfInBounds_toArray, List.set_cons_zero, List.set_cons_succ]
  refine wpAnyH_ready (rs := [9]) (by kernel_rfl) (by simp) ?_
  refine AllReadyH.cons rfl (fun K hK => ?_) AllReadyH.nil
  go_simp
  refine (filled_any Ln tf w7 (by omega)).mono ?_
  rintro e w8 ⟨rfl, hX8, hz8, hb8⟩
  have HZ8 : Hid _ := hz8
  clear hz8
  have hB8 := below_8 hB7 hz hb8
  have hP8 := hP7.below hb8
  have hC8 := hC7.below hb8
  have hU8 := Buf.below hU7 hb8 (Nat.le_refl _)
  have hlt8 := hP8.lt
  try go_wp2_with fail
  refine hK.out _ _ (HCh.out _ hB8) (fun hHeld => ?_)
  clear hK K
  try simp only [Act.put, List.getElem_toArray, List.getElem_cons_zero, List.getElem_cons_succ, List.setIfInBounds_toArray, List.set_cons_zero, List.set_cons_succ]
  refine wpAnyH_ready (rs := [10]) (by kernel_rfl) (by simp) ?_
  refine AllReadyH.cons rfl (fun K hK => ?_) AllReadyH.nil
  go_simp
  have HSt := start_any (y + 1) y th tp (some ⟨w7.heap.size, 0, none⟩) Ln (List.replicate Ln tf) d6 [s + 2, s + 1] w8 hC8 (by intro k hk; simp at hk; omega) hpl hX8.slB0 (by simp; omega)
  rw [List.length_replicate] at HSt
  refine HSt.mono ?_
  clear HSt
  rintro e w9 ⟨rfl, hC9, ht9⟩
  have hB9 := touch_8 hB8 hz ht9 (by omega) (by omega)
  have hP9 := hP8.touch ht9 (by simp) (by simp)
  have hU9 := Buf.touch hU8 ht9 (by omega) (by omega)
  try go_wp2_with fail
  refine hK.out _ _ (HCh.out _ hB9) (fun hHeld => ?_)
  clear hK K
  try simp only [Act.put, List.getElem_toArray, List.getElem_cons_zero, List.getElem_cons_succ, List.setIfInBounds_toArray, List.set_cons_zero, List.set_cons_succ]
  refine wpAnyH_done (by kernel_rfl) ?_ _
  exact k8 rfl rfl (hKx _ _ (wp8 rfl rfl (HNh.out _ _ Gu rfl rfl rfl rfl rfl rfl rfl hP9.loose hU9 hB9)))

end Go.Proofs.Ytbigclhfgcaccaa
