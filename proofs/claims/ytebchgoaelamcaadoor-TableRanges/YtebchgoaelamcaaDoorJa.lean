/-
  Clone and Plan.
-/
import Derived.Test.YtebchgoaelamcaaDoorX9
import Derived.Test.YtebchgoaelamcaaDoorPw
import Derived.Deep.RegionHeld3
namespace Go.Proofs.YtebchgoaelamcaaDoor
open Go.RowKit
set_option maxRecDepth 100000

set_option maxRecDepth 20000 in
set_option maxHeartbeats 2000000 in
theorem clone_any (B p : Nat) (id : Int) (lsn : Nat) (v : Value) (l : List Cl) (w : World) (h : PgOk w B p id lsn v l) (hg : GoodL l) :
    Calls Tryd.prog 84 #[.pointer (some ⟨p, 0, none⟩)] w fun e w' => ∃ q v', e = .returned (.pointer (some ⟨q, 0, none⟩)) ∧ PgOk w' w.heap.size q id lsn v' l ∧ Below w.heap.size w w' := by
  have HP := (show Hid _ from h)
  have HC : Hid (∀ W, PgOk W B p id lsn v l → Calls Tryd.prog 105 #[.pointer (some ⟨p, 0, none⟩)] W fun e w' => ∃ v', e = .returned v' ∧ w'.ownsRow W.heap.size 55 3 v' l.length (cellsV l) ∧ Below W.heap.size W w') := fun W hW => cells_any B p id lsn v l W hW (by have := hg.few; omega)
  have HS : Hid (∀ W, PgOk W B p id lsn v l → (fun W => W.cell? ⟨p, 0, none⟩ = some (.int .i64 id) ∧ W.cell? ⟨p, 1, none⟩ = some (.int .u64 (lsn : Int))) W) := fun W hW => ⟨hW.cells.1, hW.cells.2.1⟩
  clear h hg
  go_enter Tryd.func84, Tryd.ntmps84
  go_wp2_with fail
  refine wp_region_held_drew (S := (fun W => W.cell? ⟨p, 0, none⟩ = some (.int .i64 id) ∧ W.cell? ⟨p, 1, none⟩ = some (.int .u64 (lsn : Int)))) (by kernel_rfl) (HS.out _ HP.out.drew) (fun hHeld => ?_)
  refine wpAnyH_take (i := 0) (v := ?_) rfl (by kernel_rfl) (by kernel_rfl) (by kernel_rfl) (fun _ _ _ h => h) (Or.inl ⟨by rfl, ?_⟩) (by assumption) ?_
  rotate_left
  · (intro W hSw; (try dsimp only at hSw); go_simp; try with_reducible rfl)
  try simp only [Act.put, List.getElem_toArray, List.getElem_cons_zero, List.setIfInBounds_toArray, List.set_cons_zero, List.set_cons_succ]
  refine wpAnyH_take (i := 1) (v := ?_) rfl (by kernel_rfl) (by kernel_rfl) (by kernel_rfl) (fun _ _ _ h => h) (Or.inl ⟨by rfl, ?_⟩) (by assumption) ?_
  rotate_left
  · (intro W hSw; (try dsimp only at hSw); go_simp; try with_reducible rfl)
  try simp only [Act.put, List.getElem_toArray, List.getElem_cons_zero, List.getElem_cons_succ, List.setIfInBounds_toArray, List.set_cons_zero, List.set_cons_succ]
  refine wpAnyH_take (i := 2) (v := ?_) rfl (by kernel_rfl) (by kernel_rfl) (by kernel_rfl) (fun _ _ _ h => h) (Or.inl ⟨by rfl, ?_⟩) (by assumption) ?_
  rotate_left
  · (intro W hSw; (try dsimp only at hSw); go_simp; try with_reducible rfl)
  try simp only [Act.put, List.getElem_toArray, List.getElem_cons_zero, List.getElem_cons_succ, List.setIfInBounds_toArray, List.set_cons_zero, List.set_cons_succ]
  refine wpAnyH_take (i := 3) (v := ?_) rfl (by kernel_rfl) (by kernel_rfl) (by kernel_rfl) (fun _ _ _ h => h) (Or.inl ⟨by rfl, ?_⟩) (by assumption) ?_
  rotate_left
  · (intro W hSw; (try dsimp only at hSw); go_simp; try with_reducible rfl)
  try simp only [Act.put, List.getElem_toArray, List.getElem_cons_zero, List.getElem_cons_succ, List.setIfInBounds_toArray, List.set_cons_zero, List.set_cons_succ]
  refine wpAnyH_take (i := 4) (v := ?_) rfl (by kernel_rfl) (by kernel_rfl) (by kernel_rfl) (fun _ _ _ h => h) (Or.inl ⟨by rfl, ?_⟩) (by assumption) ?_
  rotate_left
  · (intro W hSw; (try dsimp only at hSw); go_simp; try with_reducible rfl)
  try simp only [Act.put, List.getElem_toArray, List.getElem_cons_zero, List.getElem_cons_succ, List.setIfInBounds_toArray, List.set_cons_zero, List.set_cons_succ]
  refine wpAnyH_take (i := 5) (v := ?_) rfl (by kernel_rfl) (by kernel_rfl) (by kernel_rfl) (fun _ _ _ h => h) (Or.inl ⟨by rfl, ?_⟩) (by assumption) ?_
  rotate_left
  · (intro W hSw; (try dsimp only at hSw); go_simp; try with_reducible rfl)
  try simp only [Act.put, List.getElem_toArray, List.getElem_cons_zero, List.getElem_cons_succ, List.setIfInBounds_toArray, List.set_cons_zero, List.set_cons_succ]
  refine wpAnyH_take (i := 6) (v := ?_) rfl (by kernel_rfl) (by kernel_rfl) (by kernel_rfl) (fun _ _ _ h => h) (Or.inl ⟨by rfl, ?_⟩) (by assumption) ?_
  rotate_left
  · (intro W hSw; (try dsimp only at hSw); go_simp; try with_reducible rfl)
  try simp only [Act.put, List.getElem_toArray, List.getElem_cons_zero, List.getElem_cons_succ, List.setIfInBounds_toArray, List.set_cons_zero, List.set_cons_succ]
  refine wpAnyH_take (i := 7) (v := ?_) rfl (by kernel_rfl) (by kernel_rfl) (by kernel_rfl) (fun _ _ _ h => h) (Or.inl ⟨by rfl, ?_⟩) (by assumption) ?_
  rotate_left
  · (intro W hSw; (try dsimp only at hSw); go_simp; try with_reducible rfl)
  try simp only [Act.put, List.getElem_toArray, List.getElem_cons_zero, List.getElem_cons_succ, List.setIfInBounds_toArray, List.set_cons_zero, List.set_cons_succ]
  refine wpAnyH_take (i := 8) (v := ?_) rfl (by kernel_rfl) (by kernel_rfl) (by kernel_rfl) (fun _ _ _ h => h) (Or.inl ⟨by rfl, ?_⟩) (by assumption) ?_
  rotate_left
  · (intro W hSw; (try dsimp only at hSw); go_simp; try with_reducible rfl)
  try simp only [Act.put, List.getElem_toArray, List.getElem_cons_zero, List.getElem_cons_succ, List.setIfInBounds_toArray, List.set_cons_zero, List.set_cons_succ]
  refine wpAnyH_ready (rs := [9]) (by kernel_rfl) (by simp) ?_
  refine AllReadyH.cons rfl (fun K hK => ?_) AllReadyH.nil
  go_simp
  refine (HC.out w.drew HP.out.drew).mono ?_
  rintro e w2 ⟨v2, rfl, ho2, hb2⟩
  obtain ⟨a2, c2, rfl⟩ := ownsRow_shape ho2
  have HP2 := (show Hid _ from HP.out.drew.below hb2 (Nat.le_refl _))
  have HO2 := (show Hid _ from ho2)
  have HB2 := (show Hid _ from hb2)
  clear ho2 hb2
  try go_wp2_with fail
  refine hK.out _ _ (HS.out _ HP2.out) (fun hHeld => ?_)
  clear hK K
  try simp only [Act.put, List.getElem_toArray, List.getElem_cons_zero, List.getElem_cons_succ, List.setIfInBounds_toArray, List.set_cons_zero, List.set_cons_succ]
  refine wpAnyH_take (i := 10) (v := ?_) rfl (by kernel_rfl) (by kernel_rfl) (by kernel_rfl) (fun _ _ _ h => h) (Or.inl ⟨by rfl, ?_⟩) (by assumption) ?_
  rotate_left
  · (intro W hSw; (try dsimp only at hSw); go_simp; try with_reducible rfl)
  try simp only [Act.put, List.getElem_toArray, List.getElem_cons_zero, List.getElem_cons_succ, List.setIfInBounds_toArray, List.set_cons_zero, List.set_cons_succ]
  refine wpAnyH_ready (rs := [11]) (by kernel_rfl) (by simp) ?_
  refine AllReadyH.cons rfl (fun K hK => ?_) AllReadyH.nil
  go_simp
  refine hK.out _ _ (HS.out _ (HP2.out.below ((Below.refl _ w2).alloc (Nat.le_refl _) _) (Nat.le_refl _))) (fun hHeld => ?_)
  clear hK K
  try simp only [Act.put, List.getElem_toArray, List.getElem_cons_zero, List.getElem_cons_succ, List.setIfInBounds_toArray, List.set_cons_zero, List.set_cons_succ]
  refine wpAnyH_take (i := 12) (v := ?_) rfl (by kernel_rfl) (by kernel_rfl) (by kernel_rfl) (fun _ _ _ h => h) (Or.inl ⟨by rfl, ?_⟩) (by assumption) ?_
  rotate_left
  · (intro W hSw; (try dsimp only at hSw); go_simp; try with_reducible rfl)
  try simp only [Act.put, List.getElem_toArray, List.getElem_cons_zero, List.getElem_cons_succ, List.setIfInBounds_toArray, List.set_cons_zero, List.set_cons_succ]
  refine wpAnyH_done (by kernel_rfl) ?_ _
  go_wp2_with fail
  go_ret
  refine ⟨w2.heap.size, .slice a2 l.length c2, rfl, ?_, ?_⟩
  · exact ⟨heap_alloc_new _ _, World.ownsRow.alloc (show w2.ownsRow w.heap.size 55 3 (.slice a2 l.length c2) l.length (cellsV l) from HO2.out) _, fun e => by have := ownsRow_lt (show w2.ownsRow w.heap.size 55 3 (.slice a2 l.length c2) l.length (cellsV l) from HO2.out) _ e; omega, HB2.out.size⟩
  · exact below_on (below_undrew HB2.out) ((Below.refl _ w2).alloc (Nat.le_refl _) _)

set_option maxRecDepth 20000 in
set_option maxHeartbeats 2000000 in
theorem plan_any (B p : Nat) (id : Int) (lsn : Nat) (v : Value) (l : List Cl) (a : Ac) (w : World) (h : PgOk w B p id lsn v l) (hg : GoodL l) :
    Calls Tryd.prog 68 #[.pointer (some ⟨p, 0, none⟩), actV a] w fun e w' => e = .returned (.int .i64 (doL l a).2) ∧ Below w.heap.size w w' := by
  obtain ⟨k, x, y, z⟩ := a
  have HZ : Hid ((w.alloc (.cells #[.int .i64 k, .string (txt x), .string (txt y), .string (txt z)] 46)).drew.heap.size = w.heap.size + 1) := by show _ = _; simp
  have HB0 : Hid (Below w.heap.size w (w.alloc (.cells #[.int .i64 k, .string (txt x), .string (txt y), .string (txt z)] 46)).drew) := ((Below.refl _ w).alloc (Nat.le_refl _) _).drew
  have HP0 : Hid (PgOk (w.alloc (.cells #[.int .i64 k, .string (txt x), .string (txt y), .string (txt z)] 46)).drew B p id lsn v l) := h.below HB0.out (Nat.le_refl _)
  have HC : Hid (∀ W, PgOk W B p id lsn v l → Calls Tryd.prog 84 #[.pointer (some ⟨p, 0, none⟩)] W fun e w' => ∃ q v', e = .returned (.pointer (some ⟨q, 0, none⟩)) ∧ PgOk w' W.heap.size q id lsn v' l ∧ Below W.heap.size W w') := fun W hW => clone_any B p id lsn v l W hW hg
  have HD : Hid (∀ W q v', PgOk W (w.heap.size + 1) q id lsn v' l → Calls Tryd.prog 25 #[.pointer (some ⟨q, 0, none⟩), .agg #[.int .i64 k, .string (txt x), .string (txt y), .string (txt z)]] W fun e w' => e = .returned (.int .i64 (doL l ⟨k, x, y, z⟩).2) ∧ ∃ v'', PgOk w' (w.heap.size + 1) q id lsn v'' (doL l ⟨k, x, y, z⟩).1 ∧ Touch q v'.ownBlock W w' ∧ Fresh W v' v'') := fun W q v' hW => do_any _ q id lsn v' l ⟨k, x, y, z⟩ W hW hg
  have HS : Hid (∀ W, Below (w.heap.size + 1) (w.alloc (.cells #[.int .i64 k, .string (txt x), .string (txt y), .string (txt z)] 46)).drew W → (fun W => W.cell? ⟨w.heap.size, 0, none⟩ = some (.int .i64 k) ∧ W.cell? ⟨w.heap.size, 1, none⟩ = some (.string (txt x)) ∧ W.cell? ⟨w.heap.size, 2, none⟩ = some (.string (txt y)) ∧ W.cell? ⟨w.heap.size, 3, none⟩ = some (.string (txt z))) W) := fun W hW => by
    have e : W.heap[w.heap.size]? = some (.cells #[.int .i64 k, .string (txt x), .string (txt y), .string (txt z)] 46) := by rw [hW.block _ (by omega)]; exact heap_alloc_new w _
    exact ⟨by simp [World.cell?, e], by simp [World.cell?, e], by simp [World.cell?, e], by simp [World.cell?, e]⟩
  clear h hg
  simp only [actV, actC]
  go_enter Tryd.func68, Tryd.ntmps68
  go_wp2_with fail
  refine wp_region_held_drew (S := (fun W => W.cell? ⟨w.heap.size, 0, none⟩ = some (.int .i64 k) ∧ W.cell? ⟨w.heap.size, 1, none⟩ = some (.string (txt x)) ∧ W.cell? ⟨w.heap.size, 2, none⟩ = some (.string (txt y)) ∧ W.cell? ⟨w.heap.size, 3, none⟩ = some (.string (txt z)))) (by kernel_rfl) (HS.out _ (Below.refl _ _)) (fun hHeld => ?_)
  refine wpAnyH_take (i := 0) (v := ?_) rfl (by kernel_rfl) (by kernel_rfl) (by kernel_rfl) (fun _ _ _ h => h) (Or.inl ⟨by rfl, ?_⟩) (by assumption) ?_
  rotate_left
  · (intro W hSw; (try dsimp only at hSw); go_simp; try with_reducible rfl)
  try simp only [Act.put, List.getElem_toArray, List.getElem_cons_zero, List.setIfInBounds_toArray, List.set_cons_zero, List.set_cons_succ]
  refine wpAnyH_take (i := 2) (v := ?_) rfl (by kernel_rfl) (by kernel_rfl) (by kernel_rfl) (fun _ _ _ h => h) (Or.inl ⟨by rfl, ?_⟩) (by assumption) ?_
  rotate_left
  · (intro W hSw; (try dsimp only at hSw); go_simp; try with_reducible rfl)
  try simp only [Act.put, List.getElem_toArray, List.getElem_cons_zero, List.getElem_cons_succ, List.setIfInBounds_toArray, List.set_cons_zero, List.set_cons_succ]
  refine wpAnyH_ready (rs := [1]) (by kernel_rfl) (by simp) ?_
  refine AllReadyH.cons rfl (fun K hK => ?_) AllReadyH.nil
  go_simp
  refine (HC.out _ HP0.out).mono ?_
  rintro e w2 ⟨q2, v2, rfl, hp2, hb2⟩
  rw [HZ.out] at hp2 hb2
  have HP2 := (show Hid _ from hp2)
  have HB2 := (show Hid _ from hb2)
  have hS2 := HS.out _ hb2
  clear hp2 hb2
  try go_wp2_with fail
  refine hK.out _ _ (hS2) (fun hHeld => ?_)
  clear hK K
  try simp only [Act.put, List.getElem_toArray, List.getElem_cons_zero, List.getElem_cons_succ, List.setIfInBounds_toArray, List.set_cons_zero, List.set_cons_succ]
  refine wpAnyH_ready (rs := [3]) (by kernel_rfl) (by simp) ?_
  refine AllReadyH.cons rfl (fun K hK => ?_) AllReadyH.nil
  go_simp
  refine (HD.out _ _ _ HP2.out).mono ?_
  rintro e w3 ⟨rfl, v3, hp3, ht3, _⟩
  have HB3 := (show Hid _ from HB2.out.trans (HP2.out.touched ht3))
  have hS3 := HS.out _ HB3.out
  clear hp3 ht3
  try go_wp2_with fail
  refine hK.out _ _ (hS3) (fun hHeld => ?_)
  clear hK K
  try simp only [Act.put, List.getElem_toArray, List.getElem_cons_zero, List.getElem_cons_succ, List.setIfInBounds_toArray, List.set_cons_zero, List.set_cons_succ]
  refine wpAnyH_take (i := 4) (v := ?_) rfl (by kernel_rfl) (by kernel_rfl) (by kernel_rfl) (fun _ _ _ h => h) (Or.inl ⟨by rfl, ?_⟩) (by assumption) ?_
  rotate_left
  · (intro W hSw; (try dsimp only at hSw); go_simp; try with_reducible rfl)
  try simp only [Act.put, List.getElem_toArray, List.getElem_cons_zero, List.getElem_cons_succ, List.setIfInBounds_toArray, List.set_cons_zero, List.set_cons_succ]
  refine wpAnyH_done (by kernel_rfl) ?_ _
  go_wp2_with fail
  go_ret
  exact ⟨rfl, HB0.out.trans (HB3.out.mono (by omega))⟩

end Go.Proofs.YtebchgoaelamcaaDoor
