/-
  A page held against the document's.
-/
import Derived.Test.YtoahcihhpimmgaaRb
import Derived.Test.YtoahcihhpimmgaaRc
import Derived.Deep.RegionHeld3
namespace Go.Proofs.Ytoahcihhpimmgaa
open Go.RowKit

theorem conv_buf {W : World} {G : Nat} {L : List UInt8} (h : Buf W G L) (hl : L.length = 512) : (convert 45 9 (.slice (some ⟨G, 0, none⟩) 512 512)).run Try.prog W = .ok (.string (txt L)) W := by
  have := conv_slB (c := 512) (Buf.slB h 0)
  rw [List.drop_zero, hl] at this
  exact this

set_option maxRecDepth 20000 in
set_option maxHeartbeats 8000000 in
theorem alike_any (B p id lsn : Nat) (v : Value) (a : Option Addr) (c : Nat) (l : List Cl) (w : World) (h : PgOk w B p (id : Int) lsn v l) (hsl : SlC w a l) (hg : GoodL l) (hid : id < 16) (hlsn : lsn < 18446744073709551616) :
    Calls Try.prog 12 #[.pointer (some ⟨p, 0, none⟩), .agg (refP (id : Int) lsn a l.length c)] w fun e w' => e = .returned (.bool true) ∧ Below w.heap.size w w' := by
  have hfew := hg.few
  have hP512 := pageB_length id lsn l hg.room
  have HB0 : Hid (Below w.heap.size w (w.alloc (.cells #[.int .i64 (id : Int), .int .u64 (lsn : Int), .slice a l.length c] 33))) := (Below.refl _ _).alloc (Nat.le_refl _) _
  have HBB : Hid (∀ W, Below (w.heap.size + 1) (w.alloc (.cells #[.int .i64 (id : Int), .int .u64 (lsn : Int), .slice a l.length c] 33)) W → Below w.heap.size w W) := fun W hW => HB0.out.trans (hW.mono (by omega))
  have HT : Hid (∀ W, Below (w.heap.size + 1) (w.alloc (.cells #[.int .i64 (id : Int), .int .u64 (lsn : Int), .slice a l.length c] 33)) W → W.cell? ⟨w.heap.size, 0, none⟩ = some (.int .i64 (id : Int)) ∧ W.cell? ⟨w.heap.size, 1, none⟩ = some (.int .u64 (lsn : Int)) ∧ W.cell? ⟨w.heap.size, 2, none⟩ = some (.slice a l.length c)) := fun W hW => by
    obtain ⟨q0, q1, q2, _⟩ := cell3 (box_in (show Below (w.alloc (.cells #[.int .i64 (id : Int), .int .u64 (lsn : Int), .slice a l.length c] 33)).heap.size _ W by simpa using hW))
    exact ⟨q0, q1, q2⟩
  have HON : Hid (∀ W W', Below (w.heap.size + 1) (w.alloc (.cells #[.int .i64 (id : Int), .int .u64 (lsn : Int), .slice a l.length c] 33)) W → Below W.heap.size W W' → Below (w.heap.size + 1) (w.alloc (.cells #[.int .i64 (id : Int), .int .u64 (lsn : Int), .slice a l.length c] 33)) W') := fun W W' h1 h2 => h1.trans (h2.mono (by have := h1.size; simpa using this))
  have HP : Hid (∀ W, Below (w.heap.size + 1) (w.alloc (.cells #[.int .i64 (id : Int), .int .u64 (lsn : Int), .slice a l.length c] 33)) W → PgOk W B p (id : Int) lsn v l) := fun W hW => h.below (HBB.out W hW) (Nat.le_refl _)
  have H25 : Hid (∀ W, Below (w.heap.size + 1) (w.alloc (.cells #[.int .i64 (id : Int), .int .u64 (lsn : Int), .slice a l.length c] 33)) W → Calls Try.prog 25 #[.pointer (some ⟨p, 0, none⟩)] W fun e w' => e = .returned (.int .i64 (id : Int)) ∧ w' = W) := fun W hW => id_any B p _ lsn v l W (HP.out W hW)
  have H24 : Hid (∀ W, Below (w.heap.size + 1) (w.alloc (.cells #[.int .i64 (id : Int), .int .u64 (lsn : Int), .slice a l.length c] 33)) W → Calls Try.prog 24 #[.pointer (some ⟨p, 0, none⟩)] W fun e w' => e = .returned (.int .u64 (lsn : Int)) ∧ w' = W) := fun W hW => lsn_any B p _ lsn v l W (HP.out W hW)
  have H30 : Hid (∀ W, Below (w.heap.size + 1) (w.alloc (.cells #[.int .i64 (id : Int), .int .u64 (lsn : Int), .slice a l.length c] 33)) W → Calls Try.prog 30 #[.pointer (some ⟨p, 0, none⟩)] W fun e w' => e = .returned (.int .i64 (freeL l)) ∧ Below (w.heap.size + 1) (w.alloc (.cells #[.int .i64 (id : Int), .int .u64 (lsn : Int), .slice a l.length c] 33)) w') := fun W hW => (free_any B p _ lsn v l W (HP.out W hW) hg).mono fun e w' ⟨e1, e2⟩ => ⟨e1, HON.out W w' hW e2⟩
  have H32 : Hid (∀ W, Below (w.heap.size + 1) (w.alloc (.cells #[.int .i64 (id : Int), .int .u64 (lsn : Int), .slice a l.length c] 33)) W → Calls Try.prog 32 #[.agg #[.int .i64 (id : Int), .int .u64 (lsn : Int), .slice a l.length c]] W fun e w' => e = .returned (.int .i64 (freeL l)) ∧ Below (w.heap.size + 1) (w.alloc (.cells #[.int .i64 (id : Int), .int .u64 (lsn : Int), .slice a l.length c] 33)) w') := fun W hW => (reffree_any (id : Int) lsn a c l W (hsl.below (HBB.out W hW)) hg.small (by omega)).mono fun e w' ⟨e1, e2⟩ => ⟨e1, HON.out W w' hW e2⟩
  have H23 : Hid (∀ W, Below (w.heap.size + 1) (w.alloc (.cells #[.int .i64 (id : Int), .int .u64 (lsn : Int), .slice a l.length c] 33)) W → Calls Try.prog 23 #[.pointer (some ⟨p, 0, none⟩)] W fun e w' => ∃ ra rc, e = .returned (.slice ra l.length rc) ∧ SlC w' ra l ∧ Below (w.heap.size + 1) (w.alloc (.cells #[.int .i64 (id : Int), .int .u64 (lsn : Int), .slice a l.length c] 33)) w') := fun W hW => (cells_any B p _ lsn v l W (HP.out W hW) (by omega)).mono fun e w' ⟨r, e1, e2, e3⟩ => by
    obtain ⟨ra, rc, rfl⟩ := ownsRow_shape e2
    exact ⟨ra, rc, e1, (slC_of_own e2).1, HON.out W w' hW e3⟩
  have H22 : Hid (∀ W ra rc, Below (w.heap.size + 1) (w.alloc (.cells #[.int .i64 (id : Int), .int .u64 (lsn : Int), .slice a l.length c] 33)) W → SlC W ra l → Calls Try.prog 22 #[.slice ra l.length rc, .slice a l.length c] W fun e w' => e = .returned (.bool true) ∧ Below (w.heap.size + 1) (w.alloc (.cells #[.int .i64 (id : Int), .int .u64 (lsn : Int), .slice a l.length c] 33)) w') := fun W ra rc hW hr => (samecells_any ra rc l a c l W hr (hsl.below (HBB.out W hW)) (by omega) (by omega)).mono fun e w' ⟨e1, e2⟩ => ⟨by rw [e1]; simp, HON.out W w' hW e2⟩
  have H21 : Hid (∀ W, Below (w.heap.size + 1) (w.alloc (.cells #[.int .i64 (id : Int), .int .u64 (lsn : Int), .slice a l.length c] 33)) W → Calls Try.prog 21 #[.pointer (some ⟨p, 0, none⟩)] W fun e w' => ∃ G, e = .returned (.slice (some ⟨G, 0, none⟩) 512 512) ∧ Buf w' G (pageB id lsn l) ∧ Below (w.heap.size + 1) (w.alloc (.cells #[.int .i64 (id : Int), .int .u64 (lsn : Int), .slice a l.length c] 33)) w') := fun W hW => (bytes_any B p id lsn v l W (HP.out W hW) hg hid).mono fun e w' ⟨G, e1, _, e2, e3⟩ => ⟨G, e1, e2, HON.out W w' hW e3⟩
  have H33 : Hid (∀ W, Below (w.heap.size + 1) (w.alloc (.cells #[.int .i64 (id : Int), .int .u64 (lsn : Int), .slice a l.length c] 33)) W → Calls Try.prog 33 #[.agg #[.int .i64 (id : Int), .int .u64 (lsn : Int), .slice a l.length c]] W fun e w' => e = .returned (.string (txt (pageB id lsn l))) ∧ Below W.heap.size W w' ∧ Below (w.heap.size + 1) (w.alloc (.cells #[.int .i64 (id : Int), .int .u64 (lsn : Int), .slice a l.length c] 33)) w') := fun W hW => (refbytes_any id lsn a c l W (hsl.below (HBB.out W hW)) hg hid hlsn).mono fun e w' ⟨e1, e2⟩ => ⟨e1, e2, HON.out W w' hW e2⟩
  have HTS : Hid (∀ W, Below (w.heap.size + 1) (w.alloc (.cells #[.int .i64 (id : Int), .int .u64 (lsn : Int), .slice a l.length c] 33)) W → W.cell? ⟨w.heap.size, 0, none⟩ = some (.int .i64 (id : Int)) ∧ W.cell? ⟨w.heap.size, 1, none⟩ = some (.int .u64 (lsn : Int)) ∧ W.cell? ⟨w.heap.size, 2, none⟩ = some (.slice a l.length c) ∧ Below (w.heap.size + 1) (w.alloc (.cells #[.int .i64 (id : Int), .int .u64 (lsn : Int), .slice a l.length c] 33)) W) := fun W hW => ⟨(HT.out W hW).1, (HT.out W hW).2.1, (HT.out W hW).2.2, hW⟩
  have hbx : Below (w.heap.size + 1) (w.alloc (.cells #[.int .i64 (id : Int), .int .u64 (lsn : Int), .slice a l.length c] 33)) (w.alloc (.cells #[.int .i64 (id : Int), .int .u64 (lsn : Int), .slice a l.length c] 33)).drew := (Below.refl _ _).drew
  have hS0 := HTS.out _ hbx
  clear h hsl hg hid hlsn HP HON HT
  generalize pageB id lsn l = PB at *
  generalize freeL l = F at *
  simp only [refP]
  go_enter Try.func12, Try.ntmps12
  go_wp2_with fail
  refine wp_region_held_drew (S := (fun W => W.cell? ⟨w.heap.size, 0, none⟩ = some (.int .i64 (id : Int)) ∧ W.cell? ⟨w.heap.size, 1, none⟩ = some (.int .u64 (lsn : Int)) ∧ W.cell? ⟨w.heap.size, 2, none⟩ = some (.slice a l.length c) ∧ Below (w.heap.size + 1) (w.alloc (.cells #[.int .i64 (id : Int), .int .u64 (lsn : Int), .slice a l.length c] 33)) W)) (by kernel_rfl) (HTS.out _ hbx) (fun hHeld => ?_)
  clear hS0
  refine wpAnyH_take (i := 0) (v := ?_) rfl (by kernel_rfl) (by kernel_rfl) (by kernel_rfl) (fun _ _ _ h => h) (Or.inl ⟨by rfl, ?_⟩) (by assumption) ?_
  rotate_left
  · (intro W hSw; (try dsimp only at hSw); go_simp; try with_reducible rfl)
  try simp only [Act.put, List.getElem_toArray, List.getElem_cons_zero, List.setIfInBounds_toArray, List.set_cons_zero, List.set_cons_succ]
  refine wpAnyH_take (i := 2) (v := ?_) rfl (by kernel_rfl) (by kernel_rfl) (by kernel_rfl) (fun _ _ _ h => h) (Or.inl ⟨by rfl, ?_⟩) (by assumption) ?_
  rotate_left
  · (intro W hSw; (try dsimp only at hSw); go_simp; try with_reducible rfl)
  try simp only [Act.put, List.getElem_toArray, List.getElem_cons_zero, List.getElem_cons_succ, List.setIfInBounds_toArray, List.set_cons_zero, List.set_cons_succ]
  refine wpAnyH_take (i := 3) (v := ?_) rfl (by kernel_rfl) (by kernel_rfl) (by kernel_rfl) (fun _ _ _ h => h) (Or.inl ⟨by rfl, ?_⟩) (by assumption) ?_
  rotate_left
  · (intro W hSw; (try dsimp only at hSw); go_simp; try with_reducible rfl)
  try simp only [Act.put, List.getElem_toArray, List.getElem_cons_zero, List.getElem_cons_succ, List.setIfInBounds_toArray, List.set_cons_zero, List.set_cons_succ]
  refine wpAnyH_ready (rs := [1]) (by kernel_rfl) (by simp) ?_
  refine AllReadyH.cons rfl (fun K hK => ?_) AllReadyH.nil
  go_simp
  refine Calls.mono (H25.out _ (by with_reducible assumption)) ?_
  rintro e wn ⟨rfl, hw⟩
  obtain rfl := hw.symm
  try go_wp2_with fail
  refine hK.out _ _ (HTS.out _ hbx) (fun hHeld => ?_)
  clear hK K
  try simp only [Act.put, List.getElem_toArray, List.getElem_cons_zero, List.getElem_cons_succ, List.setIfInBounds_toArray, List.set_cons_zero, List.set_cons_succ]
  refine wpAnyH_take (i := 4) (v := ?_) rfl (by kernel_rfl) (by kernel_rfl) (by kernel_rfl) (fun _ _ _ h => h) (Or.inl ⟨by rfl, ?_⟩) (by assumption) ?_
  rotate_left
  · (intro W hSw; (try dsimp only at hSw); go_simp; try with_reducible rfl)
  try simp only [Act.put, List.getElem_toArray, List.getElem_cons_zero, List.getElem_cons_succ, List.setIfInBounds_toArray, List.set_cons_zero, List.set_cons_succ]
  refine wpAnyH_take (i := 5) (v := ?_) rfl (by kernel_rfl) (by kernel_rfl) (by kernel_rfl) (fun _ _ _ h => h) (Or.inl ⟨by rfl, ?_⟩) (by assumption) ?_
  rotate_left
  · (intro W hSw; (try dsimp only at hSw); go_simp; try with_reducible rfl)
  try simp only [Act.put, List.getElem_toArray, List.getElem_cons_zero, List.getElem_cons_succ, List.setIfInBounds_toArray, List.set_cons_zero, List.set_cons_succ]
  refine wpAnyH_take (i := 6) (v := ?_) rfl (by kernel_rfl) (by kernel_rfl) (by kernel_rfl) (fun _ _ _ h => h) (Or.inl ⟨by rfl, ?_⟩) (by assumption) ?_
  rotate_left
  · (intro W hSw; (try dsimp only at hSw); go_simp; try with_reducible rfl)
  try simp only [Act.put, List.getElem_toArray, List.getElem_cons_zero, List.getElem_cons_succ, List.setIfInBounds_toArray, List.set_cons_zero, List.set_cons_succ]
  refine wpAnyH_take (i := 8) (v := ?_) rfl (by kernel_rfl) (by kernel_rfl) (by kernel_rfl) (fun _ _ _ h => h) (Or.inl ⟨by rfl, ?_⟩) (by assumption) ?_
  rotate_left
  · (intro W hSw; (try dsimp only at hSw); go_simp; try with_reducible rfl)
  try simp only [Act.put, List.getElem_toArray, List.getElem_cons_zero, List.getElem_cons_succ, List.setIfInBounds_toArray, List.set_cons_zero, List.set_cons_succ]
  refine wpAnyH_take (i := 9) (v := ?_) rfl (by kernel_rfl) (by kernel_rfl) (by kernel_rfl) (fun _ _ _ h => h) (Or.inl ⟨by rfl, ?_⟩) (by assumption) ?_
  rotate_left
  · (intro W hSw; (try dsimp only at hSw); go_simp; try with_reducible rfl)
  try simp only [Act.put, List.getElem_toArray, List.getElem_cons_zero, List.getElem_cons_succ, List.setIfInBounds_toArray, List.set_cons_zero, List.set_cons_succ]
  refine wpAnyH_ready (rs := [7]) (by kernel_rfl) (by simp) ?_
  refine AllReadyH.cons rfl (fun K hK => ?_) AllReadyH.nil
  go_simp
  refine Calls.mono (H24.out _ (by with_reducible assumption)) ?_
  rintro e wn ⟨rfl, hw⟩
  obtain rfl := hw.symm
  try go_wp2_with fail
  refine hK.out _ _ (HTS.out _ hbx) (fun hHeld => ?_)
  clear hK K
  try simp only [Act.put, List.getElem_toArray, List.getElem_cons_zero, List.getElem_cons_succ, List.setIfInBounds_toArray, List.set_cons_zero, List.set_cons_succ]
  refine wpAnyH_take (i := 10) (v := ?_) rfl (by kernel_rfl) (by kernel_rfl) (by kernel_rfl) (fun _ _ _ h => h) (Or.inl ⟨by rfl, ?_⟩) (by assumption) ?_
  rotate_left
  · (intro W hSw; (try dsimp only at hSw); go_simp; try with_reducible rfl)
  try simp only [Act.put, List.getElem_toArray, List.getElem_cons_zero, List.getElem_cons_succ, List.setIfInBounds_toArray, List.set_cons_zero, List.set_cons_succ]
  refine wpAnyH_take (i := 11) (v := ?_) rfl (by kernel_rfl) (by kernel_rfl) (by kernel_rfl) (fun _ _ _ h => h) (Or.inl ⟨by rfl, ?_⟩) (by assumption) ?_
  rotate_left
  · (intro W hSw; (try dsimp only at hSw); go_simp; try with_reducible rfl)
  try simp only [Act.put, List.getElem_toArray, List.getElem_cons_zero, List.getElem_cons_succ, List.setIfInBounds_toArray, List.set_cons_zero, List.set_cons_succ]
  refine wpAnyH_take (i := 12) (v := ?_) rfl (by kernel_rfl) (by kernel_rfl) (by kernel_rfl) (fun _ _ _ h => h) (Or.inl ⟨by rfl, ?_⟩) (by assumption) ?_
  rotate_left
  · (intro W hSw; (try dsimp only at hSw); go_simp; try with_reducible rfl)
  try simp only [Act.put, List.getElem_toArray, List.getElem_cons_zero, List.getElem_cons_succ, List.setIfInBounds_toArray, List.set_cons_zero, List.set_cons_succ]
  refine wpAnyH_take (i := 13) (v := ?_) rfl (by kernel_rfl) (by kernel_rfl) (by kernel_rfl) (fun _ _ _ h => h) (Or.inl ⟨by rfl, ?_⟩) (by assumption) ?_
  rotate_left
  · (intro W hSw; (try dsimp only at hSw); go_simp; try with_reducible rfl)
  try simp only [Act.put, List.getElem_toArray, List.getElem_cons_zero, List.getElem_cons_succ, List.setIfInBounds_toArray, List.set_cons_zero, List.set_cons_succ]
  refine wpAnyH_take (i := 15) (v := ?_) rfl (by kernel_rfl) (by kernel_rfl) (by kernel_rfl) (fun _ _ _ h => h) (Or.inl ⟨by rfl, ?_⟩) (by assumption) ?_
  rotate_left
  · (intro W hSw; (try dsimp only at hSw); go_simp; try with_reducible rfl)
  try simp only [Act.put, List.getElem_toArray, List.getElem_cons_zero, List.getElem_cons_succ, List.setIfInBounds_toArray, List.set_cons_zero, List.set_cons_succ]
  refine wpAnyH_ready (rs := [14]) (by kernel_rfl) (by simp) ?_
  refine AllReadyH.cons rfl (fun K hK => ?_) AllReadyH.nil
  go_simp
  refine Calls.mono (H30.out _ hbx) ?_
  clear hbx hHeld
  rintro e wn ⟨rfl, hbx⟩
  try go_wp2_with fail
  refine hK.out _ _ (HTS.out _ hbx) (fun hHeld => ?_)
  clear hK K
  try simp only [Act.put, List.getElem_toArray, List.getElem_cons_zero, List.getElem_cons_succ, List.setIfInBounds_toArray, List.set_cons_zero, List.set_cons_succ]
  refine wpAnyH_ready (rs := [16]) (by kernel_rfl) (by simp) ?_
  refine AllReadyH.cons rfl (fun K hK => ?_) AllReadyH.nil
  go_simp
  refine Calls.mono (H32.out _ hbx) ?_
  clear hbx hHeld
  rintro e wn ⟨rfl, hbx⟩
  try go_wp2_with fail
  refine hK.out _ _ (HTS.out _ hbx) (fun hHeld => ?_)
  clear hK K
  try simp only [Act.put, List.getElem_toArray, List.getElem_cons_zero, List.getElem_cons_succ, List.setIfInBounds_toArray, List.set_cons_zero, List.set_cons_succ]
  refine wpAnyH_take (i := 17) (v := ?_) rfl (by kernel_rfl) (by kernel_rfl) (by kernel_rfl) (fun _ _ _ h => h) (Or.inl ⟨by rfl, ?_⟩) (by assumption) ?_
  rotate_left
  · (intro W hSw; (try dsimp only at hSw); go_simp; try with_reducible rfl)
  try simp only [Act.put, List.getElem_toArray, List.getElem_cons_zero, List.getElem_cons_succ, List.setIfInBounds_toArray, List.set_cons_zero, List.set_cons_succ]
  refine wpAnyH_take (i := 18) (v := ?_) rfl (by kernel_rfl) (by kernel_rfl) (by kernel_rfl) (fun _ _ _ h => h) (Or.inl ⟨by rfl, ?_⟩) (by assumption) ?_
  rotate_left
  · (intro W hSw; (try dsimp only at hSw); go_simp; try with_reducible rfl)
  try simp only [Act.put, List.getElem_toArray, List.getElem_cons_zero, List.getElem_cons_succ, List.setIfInBounds_toArray, List.set_cons_zero, List.set_cons_succ]
  refine wpAnyH_take (i := 19) (v := ?_) rfl (by kernel_rfl) (by kernel_rfl) (by kernel_rfl) (fun _ _ _ h => h) (Or.inl ⟨by rfl, ?_⟩) (by assumption) ?_
  rotate_left
  · (intro W hSw; (try dsimp only at hSw); go_simp; try with_reducible rfl)
  try simp only [Act.put, List.getElem_toArray, List.getElem_cons_zero, List.getElem_cons_succ, List.setIfInBounds_toArray, List.set_cons_zero, List.set_cons_succ]
  refine wpAnyH_take (i := 20) (v := ?_) rfl (by kernel_rfl) (by kernel_rfl) (by kernel_rfl) (fun _ _ _ h => h) (Or.inl ⟨by rfl, ?_⟩) (by assumption) ?_
  rotate_left
  · (intro W hSw; (try dsimp only at hSw); go_simp; try with_reducible rfl)
  try simp only [Act.put, List.getElem_toArray, List.getElem_cons_zero, List.getElem_cons_succ, List.setIfInBounds_toArray, List.set_cons_zero, List.set_cons_succ]
  refine wpAnyH_take (i := 22) (v := ?_) rfl (by kernel_rfl) (by kernel_rfl) (by kernel_rfl) (fun _ _ _ h => h) (Or.inl ⟨by rfl, ?_⟩) (by assumption) ?_
  rotate_left
  · (intro W hSw; (try dsimp only at hSw); go_simp; try with_reducible rfl)
  try simp only [Act.put, List.getElem_toArray, List.getElem_cons_zero, List.getElem_cons_succ, List.setIfInBounds_toArray, List.set_cons_zero, List.set_cons_succ]
  refine wpAnyH_take (i := 23) (v := ?_) rfl (by kernel_rfl) (by kernel_rfl) (by kernel_rfl) (fun _ _ _ h => h) (Or.inl ⟨by rfl, ?_⟩) (by assumption) ?_
  rotate_left
  · (intro W hSw; (try dsimp only at hSw); go_simp; try with_reducible rfl)
  try simp only [Act.put, List.getElem_toArray, List.getElem_cons_zero, List.getElem_cons_succ, List.setIfInBounds_toArray, List.set_cons_zero, List.set_cons_succ]
  refine wpAnyH_ready (rs := [21]) (by kernel_rfl) (by simp) ?_
  refine AllReadyH.cons rfl (fun K hK => ?_) AllReadyH.nil
  go_simp
  refine Calls.mono (H23.out _ hbx) ?_
  clear hbx hHeld
  rintro e wn ⟨ra, rc, rfl, hsr, hbx⟩
  try go_wp2_with fail
  refine hK.out _ _ (HTS.out _ hbx) (fun hHeld => ?_)
  clear hK K
  try simp only [Act.put, List.getElem_toArray, List.getElem_cons_zero, List.getElem_cons_succ, List.setIfInBounds_toArray, List.set_cons_zero, List.set_cons_succ]
  refine wpAnyH_ready (rs := [24]) (by kernel_rfl) (by simp) ?_
  refine AllReadyH.cons rfl (fun K hK => ?_) AllReadyH.nil
  go_simp
  refine Calls.mono (H22.out _ _ _ hbx hsr) ?_
  clear hbx hsr hHeld
  rintro e wn ⟨rfl, hbx⟩
  try go_wp2_with fail
  refine hK.out _ _ (HTS.out _ hbx) (fun hHeld => ?_)
  clear hK K
  try simp only [Act.put, List.getElem_toArray, List.getElem_cons_zero, List.getElem_cons_succ, List.setIfInBounds_toArray, List.set_cons_zero, List.set_cons_succ]
  refine wpAnyH_take (i := 25) (v := ?_) rfl (by kernel_rfl) (by kernel_rfl) (by kernel_rfl) (fun _ _ _ h => h) (Or.inl ⟨by rfl, ?_⟩) (by assumption) ?_
  rotate_left
  · (intro W hSw; (try dsimp only at hSw); go_simp; try with_reducible rfl)
  try simp only [Act.put, List.getElem_toArray, List.getElem_cons_zero, List.getElem_cons_succ, List.setIfInBounds_toArray, List.set_cons_zero, List.set_cons_succ]
  refine wpAnyH_take (i := 26) (v := ?_) rfl (by kernel_rfl) (by kernel_rfl) (by kernel_rfl) (fun _ _ _ h => h) (Or.inl ⟨by rfl, ?_⟩) (by assumption) ?_
  rotate_left
  · (intro W hSw; (try dsimp only at hSw); go_simp; try with_reducible rfl)
  try simp only [Act.put, List.getElem_toArray, List.getElem_cons_zero, List.getElem_cons_succ, List.setIfInBounds_toArray, List.set_cons_zero, List.set_cons_succ]
  refine wpAnyH_take (i := 27) (v := ?_) rfl (by kernel_rfl) (by kernel_rfl) (by kernel_rfl) (fun _ _ _ h => h) (Or.inl ⟨by rfl, ?_⟩) (by assumption) ?_
  rotate_left
  · (intro W hSw; (try dsimp only at hSw); go_simp; try with_reducible rfl)
  try simp only [Act.put, List.getElem_toArray, List.getElem_cons_zero, List.getElem_cons_succ, List.setIfInBounds_toArray, List.set_cons_zero, List.set_cons_succ]
  refine wpAnyH_take (i := 30) (v := ?_) rfl (by kernel_rfl) (by kernel_rfl) (by kernel_rfl) (fun _ _ _ h => h) (Or.inl ⟨by rfl, ?_⟩) (by assumption) ?_
  rotate_left
  · (intro W hSw; (try dsimp only at hSw); go_simp; try with_reducible rfl)
  try simp only [Act.put, List.getElem_toArray, List.getElem_cons_zero, List.getElem_cons_succ, List.setIfInBounds_toArray, List.set_cons_zero, List.set_cons_succ]
  refine wpAnyH_ready (rs := [28]) (by kernel_rfl) (by simp) ?_
  refine AllReadyH.cons rfl (fun K hK => ?_) AllReadyH.nil
  go_simp
  refine Calls.mono (H21.out _ hbx) ?_
  clear hbx hHeld
  rintro e wn ⟨G, rfl, hbuf, hbx⟩
  have hcv := conv_buf hbuf hP512
  try go_wp2_with fail
  refine hK.out _ _ (HTS.out _ hbx) (fun hHeld => ?_)
  clear hK K
  try simp only [Act.put, List.getElem_toArray, List.getElem_cons_zero, List.getElem_cons_succ, List.setIfInBounds_toArray, List.set_cons_zero, List.set_cons_succ]
  refine wpAnyH_ready (rs := [29, 31]) (by kernel_rfl) (by simp) ?_
  refine AllReadyH.cons rfl (fun K hK => ?_) (AllReadyH.cons rfl (fun K hK => ?_) AllReadyH.nil)
  · go_simp
    refine hK.out _ _ (HTS.out _ hbx) (fun hHeld => ?_)
    clear hK K
    try simp only [Act.put, List.getElem_toArray, List.getElem_cons_zero, List.getElem_cons_succ, List.setIfInBounds_toArray, List.set_cons_zero, List.set_cons_succ]
    refine wpAnyH_ready (rs := [31]) (by kernel_rfl) (by simp) ?_
    refine AllReadyH.cons rfl (fun K hK => ?_) AllReadyH.nil
    go_simp
    refine Calls.mono (H33.out _ hbx) ?_
    clear hHeld
    rintro e wn2 ⟨rfl, hbw, hbx2⟩
    have hbuf2 := Buf.below hbuf hbw (Nat.le_refl _)
    have hcv2 := conv_buf hbuf2 hP512
    try go_wp2_with fail
    refine hK.out _ _ (HTS.out _ hbx2) (fun hHeld => ?_)
    clear hK K
    try simp only [Act.put, List.getElem_toArray, List.getElem_cons_zero, List.getElem_cons_succ, List.setIfInBounds_toArray, List.set_cons_zero, List.set_cons_succ]
    refine wpAnyH_take (i := 32) (v := ?_) rfl (by kernel_rfl) (by kernel_rfl) (by kernel_rfl) (fun _ _ _ h => h) (Or.inl ⟨by rfl, ?_⟩) (by assumption) ?_
    rotate_left
    · (intro W hSw; (try dsimp only at hSw); go_simp; try with_reducible rfl)
    try simp only [Act.put, List.getElem_toArray, List.getElem_cons_zero, List.getElem_cons_succ, List.setIfInBounds_toArray, List.set_cons_zero, List.set_cons_succ]
    refine wpAnyH_take (i := 33) (v := ?_) rfl (by kernel_rfl) (by kernel_rfl) (by kernel_rfl) (fun _ _ _ h => h) (Or.inl ⟨by rfl, ?_⟩) (by assumption) ?_
    rotate_left
    · (intro W hSw; (try dsimp only at hSw); go_simp; try with_reducible rfl)
    try simp only [Act.put, List.getElem_toArray, List.getElem_cons_zero, List.getElem_cons_succ, List.setIfInBounds_toArray, List.set_cons_zero, List.set_cons_succ]
    refine wpAnyH_take (i := 34) (v := ?_) rfl (by kernel_rfl) (by kernel_rfl) (by kernel_rfl) (fun _ _ _ h => h) (Or.inl ⟨by rfl, ?_⟩) (by assumption) ?_
    rotate_left
    · (intro W hSw; (try dsimp only at hSw); go_simp; try with_reducible rfl)
    try simp only [Act.put, List.getElem_toArray, List.getElem_cons_zero, List.getElem_cons_succ, List.setIfInBounds_toArray, List.set_cons_zero, List.set_cons_succ]
    refine wpAnyH_done (by kernel_rfl) ?_ _
    have HBf := (show Hid _ from HBB.out _ hbx2)
    go_wp2
    go_ret
    exact ⟨by simp, HBf.out⟩
  · go_simp
    refine Calls.mono (H33.out _ hbx) ?_
    clear hHeld
    rintro e wn2 ⟨rfl, hbw, hbx2⟩
    have hbuf2 := Buf.below hbuf hbw (Nat.le_refl _)
    have hcv2 := conv_buf hbuf2 hP512
    try go_wp2_with fail
    refine hK.out _ _ (HTS.out _ hbx2) (fun hHeld => ?_)
    clear hK K
    try simp only [Act.put, List.getElem_toArray, List.getElem_cons_zero, List.getElem_cons_succ, List.setIfInBounds_toArray, List.set_cons_zero, List.set_cons_succ]
    refine wpAnyH_ready (rs := [29]) (by kernel_rfl) (by simp) ?_
    refine AllReadyH.cons rfl (fun K hK => ?_) AllReadyH.nil
    go_simp
    refine hK.out _ _ (HTS.out _ hbx2) (fun hHeld => ?_)
    clear hK K
    try simp only [Act.put, List.getElem_toArray, List.getElem_cons_zero, List.getElem_cons_succ, List.setIfInBounds_toArray, List.set_cons_zero, List.set_cons_succ]
    refine wpAnyH_take (i := 32) (v := ?_) rfl (by kernel_rfl) (by kernel_rfl) (by kernel_rfl) (fun _ _ _ h => h) (Or.inl ⟨by rfl, ?_⟩) (by assumption) ?_
    rotate_left
    · (intro W hSw; (try dsimp only at hSw); go_simp; try with_reducible rfl)
    try simp only [Act.put, List.getElem_toArray, List.getElem_cons_zero, List.getElem_cons_succ, List.setIfInBounds_toArray, List.set_cons_zero, List.set_cons_succ]
    refine wpAnyH_take (i := 33) (v := ?_) rfl (by kernel_rfl) (by kernel_rfl) (by kernel_rfl) (fun _ _ _ h => h) (Or.inl ⟨by rfl, ?_⟩) (by assumption) ?_
    rotate_left
    · (intro W hSw; (try dsimp only at hSw); go_simp; try with_reducible rfl)
    try simp only [Act.put, List.getElem_toArray, List.getElem_cons_zero, List.getElem_cons_succ, List.setIfInBounds_toArray, List.set_cons_zero, List.set_cons_succ]
    refine wpAnyH_take (i := 34) (v := ?_) rfl (by kernel_rfl) (by kernel_rfl) (by kernel_rfl) (fun _ _ _ h => h) (Or.inl ⟨by rfl, ?_⟩) (by assumption) ?_
    rotate_left
    · (intro W hSw; (try dsimp only at hSw); go_simp; try with_reducible rfl)
    try simp only [Act.put, List.getElem_toArray, List.getElem_cons_zero, List.getElem_cons_succ, List.setIfInBounds_toArray, List.set_cons_zero, List.set_cons_succ]
    refine wpAnyH_done (by kernel_rfl) ?_ _
    have HBf := (show Hid _ from HBB.out _ hbx2)
    go_wp2
    go_ret
    exact ⟨by simp, HBf.out⟩

end Go.Proofs.Ytoahcihhpimmgaa
