/-
  alike of a new device.
-/
import Derived.Test.YtbigclhfgcaccaaNa
import Derived.Deep.RegionHeld3
namespace Go.Proofs.Ytbigclhfgcaccaa
open Go.RowKit

set_option maxRecDepth 20000 in
set_option maxHeartbeats 2000000 in
theorem alike_new (n p G : Nat) (w : World) (hd : Dev w [] p G ⟨List.replicate n 0, List.replicate 8 none⟩) :
    Calls Try.prog 14 #[.pointer (some ⟨p, 0, none⟩), .agg (refN (txt (List.replicate n 0)))] w fun e w' => e = .returned (.bool true) ∧ Below w.heap.size w w' := by
  have hB0 : Below w.heap.size w (w.alloc (.cells (refN (txt (List.replicate n 0))) 30)) := (Below.refl _ w).alloc (Nat.le_refl _) _
  have hd0 := hd.below hB0
  have h0 := heap_alloc_new w (.cells (refN (txt (List.replicate n 0))) 30)
  have z0 : (w.alloc (.cells (refN (txt (List.replicate n 0))) 30)).heap.size = w.heap.size + 1 := by simp
  have es := txt_size (List.replicate n 0)
  rw [List.length_replicate] at es
  clear hd
  go_enter Try.func14, Try.ntmps14
  go_wp2_with fail
  generalize w.alloc (.cells (refN (txt (List.replicate n 0))) 30) = W0 at *
  have HSz := size_any p G _ _ W0 hd0
  rw [show ((⟨List.replicate n 0, List.replicate 8 none⟩ : Dv).b.length : Int) = (n : Int) by simp] at HSz
  refine HSz.mono ?_
  clear HSz
  rintro e w1 ⟨rfl, hw1⟩
  obtain rfl := hw1.symm
  have HR := read_any p G 0 n _ _ W0 hd0 (by simp)
  rw [z0] at HR
  go_wp2_with fail
  refine HR.mono ?_
  clear HR
  rintro e W1 ⟨rfl, hB1, z1, hb1⟩
  rw [List.drop_zero, List.take_of_length_le (by simp)] at hB1
  have hd1 := hd0.below (by rw [z0]; exact hb1)
  have h1 : W1.heap[w.heap.size]? = some (.cells (refN (txt (List.replicate n 0))) 30) := by rw [hb1.block _ (by omega)]; exact h0
  have hBw := hB0.trans (hb1.mono (by omega))
  have z1' : W1.heap.size = w.heap.size + 2 := by omega
  clear hB0 hd0 h0 z0 hb1 z1
  have HK : Hid (∀ W, Below (w.heap.size + 2) W1 W → W.heap[w.heap.size]? = some (.cells (refN (txt (List.replicate n 0))) 30)) := fun W hW => by rw [hW.block _ (by omega)]; exact h1
  have HD : Hid (∀ W, Below (w.heap.size + 2) W1 W → Dev W [] p G ⟨List.replicate n 0, List.replicate 8 none⟩) := fun W hW => hd1.below (by rw [z1']; exact hW)
  have HS : Hid (∀ W, Below (w.heap.size + 2) W1 W → (fun W => W.cell? ⟨w.heap.size, 0, none⟩ = some (.string (txt (List.replicate n 0))) ∧ (convert 34 9 (.slice (some ⟨w.heap.size + 1, 0, none⟩) n n)).run Try.prog W = .ok (.string (txt (List.replicate n 0))) W ∧ Below (w.heap.size + 2) W1 W) W) := fun W hW => ⟨by simp [World.cell?, HK.out W hW], conv_buf (Buf.below hB1 hW (by omega)) (by simp), hW⟩
  have HZ : Hid (∀ W, Below (w.heap.size + 2) W1 W → Calls Try.prog 15 #[.pointer (some ⟨p, 0, none⟩)] W fun e w' => e = .returned (.int .i64 (n : Int)) ∧ w' = W) := fun W hW => by
    have := size_any p G _ _ W (HD.out W hW)
    rwa [show ((⟨List.replicate n 0, List.replicate 8 none⟩ : Dv).b.length : Int) = (n : Int) by simp] at this
  have HBw : Hid (∀ W, Below (w.heap.size + 2) W1 W → Below w.heap.size w W) := fun W hW => hBw.trans (hW.mono (by omega))
  clear hd1 h1 hB1 hBw
  go_wp2_with fail
  refine wp_region_held_drew (S := (fun W => W.cell? ⟨w.heap.size, 0, none⟩ = some (.string (txt (List.replicate n 0))) ∧ (convert 34 9 (.slice (some ⟨w.heap.size + 1, 0, none⟩) n n)).run Try.prog W = .ok (.string (txt (List.replicate n 0))) W ∧ Below (w.heap.size + 2) W1 W)) (by kernel_rfl) (HS.out _ (Below.refl _ _).drew) (fun hHeld => ?_)
  refine wpAnyH_take (i := 0) (v := ?_) rfl (by kernel_rfl) (by kernel_rfl) (by kernel_rfl) (fun _ _ _ h => h) (Or.inl ⟨by rfl, ?_⟩) (by assumption) ?_
  rotate_left
  · (intro W hSw; (try dsimp only at hSw); go_simp; try with_reducible rfl)
  try simp only [Act.put, List.getElem_toArray, List.getElem_cons_zero, List.setIfInBounds_toArray, List.set_cons_zero, List.set_cons_succ]
  refine wpAnyH_take (i := 1) (v := ?_) rfl (by kernel_rfl) (by kernel_rfl) (by kernel_rfl) (fun _ _ _ h => h) (Or.inl ⟨by rfl, ?_⟩) (by assumption) ?_
  rotate_left
  · (intro W hSw; (try dsimp only at hSw); go_simp; try with_reducible rfl)
  try simp only [Act.put, List.getElem_toArray, List.getElem_cons_zero, List.getElem_cons_succ, List.setIfInBounds_toArray, List.set_cons_zero, List.set_cons_succ]
  refine wpAnyH_take (i := 2) (v := ?_) rfl (by kernel_rfl) (by kernel_rfl) (by kernel_rfl) (fun _ _ _ h => h) (Or.inl ⟨by rfl, ?_⟩) (by assumption) ?_
  rotate_left
  · (intro W hSw; (try dsimp only at hSw); go_simp; try with_reducible rfl)
  try simp only [Act.put, List.getElem_toArray, List.getElem_cons_zero, List.getElem_cons_succ, List.setIfInBounds_toArray, List.set_cons_zero, List.set_cons_succ]
  refine wpAnyH_take (i := 3) (v := ?_) rfl (by kernel_rfl) (by kernel_rfl) (by kernel_rfl) (fun _ _ _ h => h) (Or.inl ⟨by rfl, ?_⟩) (by assumption) ?_
  rotate_left
  · (intro W hSw; (try dsimp only at hSw); go_simp; try with_reducible rfl)
  try simp only [Act.put, List.getElem_toArray, List.getElem_cons_zero, List.getElem_cons_succ, List.setIfInBounds_toArray, List.set_cons_zero, List.set_cons_succ]
  refine wpAnyH_take (i := 5) (v := ?_) rfl (by kernel_rfl) (by kernel_rfl) (by kernel_rfl) (fun _ _ _ h => h) (Or.inl ⟨by rfl, ?_⟩) (by assumption) ?_
  rotate_left
  · (intro W hSw; (try dsimp only at hSw); go_simp; try with_reducible rfl)
  try simp only [Act.put, List.getElem_toArray, List.getElem_cons_zero, List.getElem_cons_succ, List.setIfInBounds_toArray, List.set_cons_zero, List.set_cons_succ]
  refine wpAnyH_take (i := 6) (v := ?_) rfl (by kernel_rfl) (by kernel_rfl) (by kernel_rfl) (fun _ _ _ h => h) (Or.inl ⟨by rfl, ?_⟩) (by assumption) ?_
  rotate_left
  · (intro W hSw; (try dsimp only at hSw); go_simp; try with_reducible rfl)
  try simp only [Act.put, List.getElem_toArray, List.getElem_cons_zero, List.getElem_cons_succ, List.setIfInBounds_toArray, List.set_cons_zero, List.set_cons_succ]
  refine wpAnyH_take (i := 7) (v := ?_) rfl (by kernel_rfl) (by kernel_rfl) (by kernel_rfl) (fun _ _ _ h => h) (Or.inl ⟨by rfl, ?_⟩) (by assumption) ?_
  rotate_left
  · (intro W hSw; (try dsimp only at hSw); go_simp; try with_reducible rfl)
  try simp only [Act.put, List.getElem_toArray, List.getElem_cons_zero, List.getElem_cons_succ, List.setIfInBounds_toArray, List.set_cons_zero, List.set_cons_succ]
  refine wpAnyH_ready (rs := [4]) (by kernel_rfl) (by simp) ?_
  refine AllReadyH.cons rfl (fun K hK => ?_) AllReadyH.nil
  go_simp
  refine (HZ.out _ hHeld.2.2).mono ?_
  rintro e w3 ⟨rfl, hw3⟩
  obtain rfl := hw3.symm
  try go_wp2_with fail
  refine hK.out _ _ (HS.out _ hHeld.2.2) (fun hHeld => ?_)
  clear hK K
  try simp only [Act.put, List.getElem_toArray, List.getElem_cons_zero, List.getElem_cons_succ, List.setIfInBounds_toArray, List.set_cons_zero, List.set_cons_succ]
  refine wpAnyH_take (i := 8) (v := ?_) rfl (by kernel_rfl) (by kernel_rfl) (by kernel_rfl) (fun _ _ _ h => h) (Or.inl ⟨by rfl, ?_⟩) (by assumption) ?_
  rotate_left
  · (intro W hSw; (try dsimp only at hSw); go_simp; try with_reducible rfl)
  try simp only [Act.put, List.getElem_toArray, List.getElem_cons_zero, List.getElem_cons_succ, List.setIfInBounds_toArray, List.set_cons_zero, List.set_cons_succ]
  refine wpAnyH_take (i := 9) (v := ?_) rfl (by kernel_rfl) (by kernel_rfl) (by kernel_rfl) (fun _ _ _ h => h) (Or.inl ⟨by rfl, ?_⟩) (by assumption) ?_
  rotate_left
  · (intro W hSw; (try dsimp only at hSw); go_simp; try with_reducible rfl)
  try simp only [Act.put, List.getElem_toArray, List.getElem_cons_zero, List.getElem_cons_succ, List.setIfInBounds_toArray, List.set_cons_zero, List.set_cons_succ]
  refine wpAnyH_take (i := 10) (v := ?_) rfl (by kernel_rfl) (by kernel_rfl) (by kernel_rfl) (fun _ _ _ h => h) (Or.inl ⟨by rfl, ?_⟩) (by assumption) ?_
  rotate_left
  · (intro W hSw; (try dsimp only at hSw); go_simp; try with_reducible rfl)
  try simp only [Act.put, List.getElem_toArray, List.getElem_cons_zero, List.getElem_cons_succ, List.setIfInBounds_toArray, List.set_cons_zero, List.set_cons_succ]
  refine wpAnyH_take (i := 11) (v := ?_) rfl (by kernel_rfl) (by kernel_rfl) (by kernel_rfl) (fun _ _ _ h => h) (Or.inl ⟨by rfl, ?_⟩) (by assumption) ?_
  rotate_left
  · (intro W hSw; (try dsimp only at hSw); go_simp; try with_reducible rfl)
  try simp only [Act.put, List.getElem_toArray, List.getElem_cons_zero, List.getElem_cons_succ, List.setIfInBounds_toArray, List.set_cons_zero, List.set_cons_succ]
  refine wpAnyH_take (i := 12) (v := ?_) rfl (by kernel_rfl) (by kernel_rfl) (by kernel_rfl) (fun _ _ _ h => h) (Or.inl ⟨by rfl, ?_⟩) (by assumption) ?_
  rotate_left
  · (intro W hSw; (try dsimp only at hSw); go_simp; try with_reducible rfl)
  try simp only [Act.put, List.getElem_toArray, List.getElem_cons_zero, List.getElem_cons_succ, List.setIfInBounds_toArray, List.set_cons_zero, List.set_cons_succ]
  refine wpAnyH_take (i := 13) (v := ?_) rfl (by kernel_rfl) (by kernel_rfl) (by kernel_rfl) (fun _ _ _ h => h) (Or.inl ⟨by rfl, ?_⟩) (by assumption) ?_
  rotate_left
  · (intro W hSw; (try dsimp only at hSw); go_simp; try with_reducible rfl)
  try simp only [Act.put, List.getElem_toArray, List.getElem_cons_zero, List.getElem_cons_succ, List.setIfInBounds_toArray, List.set_cons_zero, List.set_cons_succ]
  refine wpAnyH_take (i := 14) (v := ?_) rfl (by kernel_rfl) (by kernel_rfl) (by kernel_rfl) (fun _ _ _ h => h) (Or.inl ⟨by rfl, ?_⟩) (by assumption) ?_
  rotate_left
  · (intro W hSw; (try dsimp only at hSw); go_simp; try with_reducible rfl)
  try simp only [Act.put, List.getElem_toArray, List.getElem_cons_zero, List.getElem_cons_succ, List.setIfInBounds_toArray, List.set_cons_zero, List.set_cons_succ]
  refine wpAnyH_take (i := 15) (v := ?_) rfl (by kernel_rfl) (by kernel_rfl) (by kernel_rfl) (fun _ _ _ h => h) (Or.inl ⟨by rfl, ?_⟩) (by assumption) ?_
  rotate_left
  · (intro W hSw; (try dsimp only at hSw); go_simp; try with_reducible rfl)
  try simp only [Act.put, List.getElem_toArray, List.getElem_cons_zero, List.getElem_cons_succ, List.setIfInBounds_toArray, List.set_cons_zero, List.set_cons_succ]
  refine wpAnyH_take (i := 16) (v := ?_) rfl (by kernel_rfl) (by kernel_rfl) (by kernel_rfl) (fun _ _ _ h => h) (Or.inl ⟨by rfl, ?_⟩) (by assumption) ?_
  rotate_left
  · (intro W hSw; (try dsimp only at hSw); go_simp; try with_reducible rfl)
  try simp only [Act.put, List.getElem_toArray, List.getElem_cons_zero, List.getElem_cons_succ, List.setIfInBounds_toArray, List.set_cons_zero, List.set_cons_succ]
  refine wpAnyH_done (by kernel_rfl) ?_ _
  have HB2 : Hid _ := hHeld.2.2
  have HF : Hid (∀ W (i : Int), Below (w.heap.size + 2) W1 W → Calls Try.prog 13 #[.pointer (some ⟨p, 0, none⟩), .int .i64 i] W fun e w' => e = .returned (.tuple #[.int .i64 0, .int .i64 0, .bool false]) ∧ Below W.heap.size W w') := fun W i hW => by
    by_cases hi : 0 ≤ i ∧ i < 8
    · obtain ⟨k, rfl⟩ := Int.eq_ofNat_of_zero_le hi.1
      have hk : k < 8 := by omega
      exact flying_any p G k _ _ W (HD.out W hW) hk none (by rw [List.getElem?_replicate, if_pos hk])
    · exact (flying_no p G i _ _ W (HD.out W hW) hi).mono fun e w' h => ⟨h.1, by rw [h.2]; exact Below.refl _ _⟩
  have HC : Hid (∀ W (i : Nat), i < 8 → Below (w.heap.size + 2) W1 W → W.cell? ⟨w.heap.size, 1 + i * 3, none⟩ = some (.bool false) ∧ W.cell? ⟨w.heap.size, 1 + i * 3 + 1, none⟩ = some (.int .i64 0) ∧ W.cell? ⟨w.heap.size, 1 + i * 3 + 2, none⟩ = some (.string ⟨#[]⟩)) := fun W i hi hW => by
    have hk := HK.out W hW
    have e : ∀ j, W.cell? ⟨w.heap.size, j, none⟩ = (refN (txt (List.replicate n 0)))[j]? := fun j => by simp [World.cell?, hk]
    rw [e, e, e]
    match i, hi with
    | 0, _ => exact ⟨rfl, rfl, rfl⟩
    | 1, _ => exact ⟨rfl, rfl, rfl⟩
    | 2, _ => exact ⟨rfl, rfl, rfl⟩
    | 3, _ => exact ⟨rfl, rfl, rfl⟩
    | 4, _ => exact ⟨rfl, rfl, rfl⟩
    | 5, _ => exact ⟨rfl, rfl, rfl⟩
    | 6, _ => exact ⟨rfl, rfl, rfl⟩
    | 7, _ => exact ⟨rfl, rfl, rfl⟩
  clear hHeld HK HD HS HZ es
  go_wp2_with fail
  go_loopw [7] (fun i wr => ∃ k : Nat, k ≤ 10 ∧ i = .int .i64 ((k : Int) - 1) ∧ Below (w.heap.size + 2) W1 wr) (fun i _ => 10 - (intOf i + 1).toNat)
  case atStart => exact ⟨0, by omega, rfl, HB2.out⟩
  case round =>
    obtain ⟨k, hk, rfl, hb⟩ := hrel
    by_cases hlt : k < 10
    · have hk8 : (k : Int) - 1 ≤ 8 := by omega
      go_wp2_with fail
      refine (HF.out _ _ hb).mono ?_
      rintro e w2 ⟨rfl, hb2⟩
      have hbn := hb.trans (hb2.mono (by have := hb.size; omega))
      have hsz : w.heap.size + 2 ≤ w2.heap.size := by have := hbn.size; omega
      by_cases hin : 1 ≤ k ∧ k ≤ 8
      · obtain ⟨i, rfl⟩ : ∃ i, k = i + 1 := ⟨k - 1, by omega⟩
        have ei : ((i + 1 : Nat) : Int) - 1 = (i : Int) := by omega
        rw [ei]
        have hi8 : i < 8 := by omega
        obtain ⟨q0, q1, q2⟩ := HC.out w2 i hi8 hbn
        have hbA := hbn.alloc hsz (.cells #[.bool false, .int .i64 0, .string ⟨#[]⟩] 27)
        have hlt2 : w.heap.size < w2.heap.size := by omega
        clear hb hb2 ei
        go_wp2_with fail
        exact ⟨⟨i + 2, by omega, by rw [show ((i + 2 : Nat) : Int) - 1 = (i : Int) + 1 by omega], hbA⟩, by simp only [intOf]; omega⟩
      · have hbA := hbn.alloc hsz (.cells #[.bool false, .int .i64 0, .string ⟨#[]⟩] 27)
        obtain rfl | rfl : k = 0 ∨ k = 9 := by omega
        · clear hb hb2
          go_wp2_with fail
          exact ⟨⟨1, by omega, rfl, hbA⟩, by simp [intOf]⟩
        · clear hb hb2
          go_wp2_with fail
          exact ⟨⟨10, by omega, rfl, hbA⟩, by simp [intOf]⟩
    · obtain rfl : k = 10 := by omega
      go_wp2_with fail
      go_ret
      exact ⟨rfl, HBw.out _ hb⟩

end Go.Proofs.Ytbigclhfgcaccaa
