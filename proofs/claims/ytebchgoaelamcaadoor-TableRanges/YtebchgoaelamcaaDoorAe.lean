/-
  Do.
-/
import Derived.Test.YtebchgoaelamcaaDoorAd
namespace Go.Proofs.YtebchgoaelamcaaDoor
open Go.RowKit
set_option maxRecDepth 100000

theorem Touch.kept {w w' : World} {p g : Nat} {o : Option Nat} {x : Obj} (h : Touch p o w w') (hx : w.heap[g]? = some x) (h1 : g ≠ p) (h2 : o ≠ some g) : w'.heap[g]? = some x := by
  rw [h.block g (lt_of_blk hx) h1 (fun e => h2 (by first | exact e | exact e.symm))]
  exact hx

theorem below_undrew {n : Nat} {w w' : World} (h : Below n w.drew w') : Below n w w' := ⟨h.os, h.tape, h.output, h.size, h.block⟩

theorem do_nil (a : Ac) (w : World) : Calls Tryd.prog 25 #[.pointer none, actV a] w fun e w' => e = .returned (.int .i64 1) ∧ Below w.heap.size w w' := by
  obtain ⟨k, x, y, z⟩ := a
  have HB : Hid (Below w.heap.size w (w.alloc (.cells (actC ⟨k, x, y, z⟩) 46))) := (Below.refl _ _).alloc (Nat.le_refl _) _
  simp only [actV, actC] at *
  go_enter Tryd.func25, Tryd.ntmps25
  go_wp2
  go_ret
  exact ⟨rfl, HB.out⟩

set_option maxRecDepth 20000 in
set_option maxHeartbeats 2000000 in
theorem do_by63 (B p : Nat) (id : Int) (lsn : Nat) (v : Value) (l : List Cl) (k : Int) (x y z : List UInt8) (w : World) (HP : Hid (PgOk w B p id lsn v l)) (hm : actB k x y z = true) (D : List Cl × Int)
    (HL : Hid (∀ W b, W.heap[b]? = some deedsO → (Instr.lookup 104 (.map (some b)) (.int .i64 k) false).run Tryd.prog W = .ok (.func (.func 72) #[] #[]) W))
    (HC : Hid (∀ W, PgOk W B p id lsn v l → Calls Tryd.prog 72 #[.pointer (some ⟨p, 0, none⟩), actV ⟨k, x, y, z⟩] W fun e w' => e = .returned (.int .i64 D.2) ∧ ∃ v', PgOk w' B p id lsn v' D.1 ∧ Touch p v.ownBlock W w' ∧ Fresh W v v')) :
    Calls Tryd.prog 25 #[.pointer (some ⟨p, 0, none⟩), actV ⟨k, x, y, z⟩] w fun e w' => e = .returned (.int .i64 D.2) ∧ ∃ v', PgOk w' B p id lsn v' D.1 ∧ Touch p v.ownBlock w w' ∧ Fresh w v v' := by
  have HB : Hid (Below w.heap.size w (w.alloc (.cells (actC ⟨k, x, y, z⟩) 46))) := (Below.refl _ _).alloc (Nat.le_refl _) _
  have HM := (show Hid _ from amay_any k x y z)
  have HNE : Hid (w.heap.size ≠ p ∧ v.ownBlock ≠ some w.heap.size) := ⟨by have := lt_of_blk HP.out.blk; omega, fun e => by have := ownsRow_lt HP.out.own _ e; omega⟩
  simp only [actV, actC] at *
  go_enter Tryd.func25, Tryd.ntmps25
  go_wp2_with fail
  refine Calls.mono (HM.out _) ?_
  rw [hm]
  rintro e w1 ⟨rfl, hb1⟩
  have HB1 := (show Hid _ from below_on HB.out hb1)
  have hk1 := box_in hb1
  obtain ⟨c0, c1, c2, c3, f0, f1, f2, f3, hz⟩ := cell4 hk1
  have HK1 := (show Hid _ from hk1)
  clear hb1 hk1 hm
  go_wp2_with fail
  refine wp_region_held_drew (S := (fun W => W.cell? ⟨w.heap.size, 0, none⟩ = some (.int .i64 k) ∧ W.cell? ⟨w.heap.size, 1, none⟩ = some (.string (txt x)) ∧ W.cell? ⟨w.heap.size, 2, none⟩ = some (.string (txt y)) ∧ W.cell? ⟨w.heap.size, 3, none⟩ = some (.string (txt z)))) (by kernel_rfl) ⟨c0, c1, c2, c3⟩ (fun hHeld => ?_)
  clear c0 c1 c2 c3 f0 f1 f2 f3
  refine wpAnyH_take (i := 1) (v := ?_) rfl (by kernel_rfl) (by kernel_rfl) (by kernel_rfl) (fun _ _ _ h => h) (Or.inl ⟨by rfl, ?_⟩) (by assumption) ?_
  rotate_left
  · (intro W hSw; (try dsimp only at hSw); go_simp; try with_reducible rfl)
  try simp only [Act.put, List.getElem_toArray, List.getElem_cons_zero, List.getElem_cons_succ, List.setIfInBounds_toArray, List.set_cons_zero, List.set_cons_succ]
  refine wpAnyH_take (i := 2) (v := ?_) rfl (by kernel_rfl) (by kernel_rfl) (by kernel_rfl) (fun _ _ _ h => h) (Or.inl ⟨by rfl, ?_⟩) (by assumption) ?_
  rotate_left
  · (intro W hSw; (try dsimp only at hSw); go_simp; try with_reducible rfl)
  try simp only [Act.put, List.getElem_toArray, List.getElem_cons_zero, List.getElem_cons_succ, List.setIfInBounds_toArray, List.set_cons_zero, List.set_cons_succ]
  refine wpAnyH_take (i := 4) (v := ?_) rfl (by kernel_rfl) (by kernel_rfl) (by kernel_rfl) (fun _ _ _ h => h) (Or.inl ⟨by rfl, ?_⟩) (by assumption) ?_
  rotate_left
  · (intro W hSw; (try dsimp only at hSw); go_simp; try with_reducible rfl)
  try simp only [Act.put, List.getElem_toArray, List.getElem_cons_zero, List.getElem_cons_succ, List.setIfInBounds_toArray, List.set_cons_zero, List.set_cons_succ]
  refine wpAnyH_take (i := 5) (v := ?_) rfl (by kernel_rfl) (by kernel_rfl) (by kernel_rfl) (fun _ _ _ h => h) (Or.inl ⟨by rfl, ?_⟩) (by assumption) ?_
  rotate_left
  · (intro W hSw; (try dsimp only at hSw); go_simp; try with_reducible rfl)
  try simp only [Act.put, List.getElem_toArray, List.getElem_cons_zero, List.getElem_cons_succ, List.setIfInBounds_toArray, List.set_cons_zero, List.set_cons_succ]
  refine wpAnyH_ready (rs := [0]) (by kernel_rfl) (by simp) ?_
  refine AllReadyH.cons rfl (fun K hK => ?_) AllReadyH.nil
  go_simp
  refine Calls.mono (deeds_any _) ?_
  rintro e w2 ⟨rfl, hb2, hd2⟩
  have HB2 := (show Hid _ from below_on HB1.out (below_undrew hb2))
  have hk2 := box_in' HK1.out (below_undrew hb2)
  obtain ⟨c0, c1, c2, c3, _⟩ := cell4 hk2
  have HK2 := (show Hid _ from hk2)
  have hL : (Instr.lookup 104 (.map (some w1.heap.size)) (.int .i64 k) false).run Tryd.prog w2 = .ok (.func (.func 72) #[] #[]) w2 := HL.out _ _ hd2
  clear hb2 hk2
  try go_wp2_with fail
  refine hK.out _ _ ⟨c0, c1, c2, c3⟩ (fun hHeld => ?_)
  clear hK K
  try simp only [Act.put, List.getElem_toArray, List.getElem_cons_zero, List.getElem_cons_succ, List.setIfInBounds_toArray, List.set_cons_zero, List.set_cons_succ]
  refine wpAnyH_ready (rs := [3]) (by kernel_rfl) (by simp) ?_
  refine AllReadyH.cons rfl (fun K hK => ?_) AllReadyH.nil
  go_simp
  try go_wp2_with fail
  refine hK.out _ _ ⟨c0, c1, c2, c3⟩ (fun hHeld => ?_)
  clear hK K hL
  try simp only [Act.put, List.getElem_toArray, List.getElem_cons_zero, List.getElem_cons_succ, List.setIfInBounds_toArray, List.set_cons_zero, List.set_cons_succ]
  refine wpAnyH_ready (rs := [6]) (by kernel_rfl) (by simp) ?_
  refine AllReadyH.cons rfl (fun K hK => ?_) AllReadyH.nil
  go_simp
  refine Calls.mono (HC.out _ (HP.out.below HB2.out (Nat.le_refl _))) ?_
  rintro e w3 ⟨rfl, v3, hp3, ht3, hf3⟩
  have hk3 := ht3.kept HK2.out HNE.out.1 HNE.out.2
  obtain ⟨c0, c1, c2, c3, _⟩ := cell4 hk3
  have HR := (show Hid _ from And.intro hp3 (And.intro (Touch.pre HB2.out ht3) (Fresh.pre HB2.out.size hf3)))
  clear hp3 ht3 hf3 hk3
  try go_wp2_with fail
  refine hK.out _ _ ⟨c0, c1, c2, c3⟩ (fun hHeld => ?_)
  clear hK K
  try simp only [Act.put, List.getElem_toArray, List.getElem_cons_zero, List.getElem_cons_succ, List.setIfInBounds_toArray, List.set_cons_zero, List.set_cons_succ]
  refine wpAnyH_take (i := 7) (v := ?_) rfl (by kernel_rfl) (by kernel_rfl) (by kernel_rfl) (fun _ _ _ h => h) (Or.inl ⟨by rfl, ?_⟩) (by assumption) ?_
  rotate_left
  · (intro W hSw; (try dsimp only at hSw); go_simp; try with_reducible rfl)
  try simp only [Act.put, List.getElem_toArray, List.getElem_cons_zero, List.getElem_cons_succ, List.setIfInBounds_toArray, List.set_cons_zero, List.set_cons_succ]
  refine wpAnyH_done (by kernel_rfl) ?_ _
  clear hHeld
  go_wp2
  go_ret
  exact ⟨rfl, v3, HR.out.1, HR.out.2.1, HR.out.2.2⟩

set_option maxRecDepth 20000 in
set_option maxHeartbeats 2000000 in
theorem do_by64 (B p : Nat) (id : Int) (lsn : Nat) (v : Value) (l : List Cl) (k : Int) (x y z : List UInt8) (w : World) (HP : Hid (PgOk w B p id lsn v l)) (hm : actB k x y z = true) (D : List Cl × Int)
    (HL : Hid (∀ W b, W.heap[b]? = some deedsO → (Instr.lookup 104 (.map (some b)) (.int .i64 k) false).run Tryd.prog W = .ok (.func (.func 73) #[] #[]) W))
    (HC : Hid (∀ W, PgOk W B p id lsn v l → Calls Tryd.prog 73 #[.pointer (some ⟨p, 0, none⟩), actV ⟨k, x, y, z⟩] W fun e w' => e = .returned (.int .i64 D.2) ∧ ∃ v', PgOk w' B p id lsn v' D.1 ∧ Touch p v.ownBlock W w' ∧ Fresh W v v')) :
    Calls Tryd.prog 25 #[.pointer (some ⟨p, 0, none⟩), actV ⟨k, x, y, z⟩] w fun e w' => e = .returned (.int .i64 D.2) ∧ ∃ v', PgOk w' B p id lsn v' D.1 ∧ Touch p v.ownBlock w w' ∧ Fresh w v v' := by
  have HB : Hid (Below w.heap.size w (w.alloc (.cells (actC ⟨k, x, y, z⟩) 46))) := (Below.refl _ _).alloc (Nat.le_refl _) _
  have HM := (show Hid _ from amay_any k x y z)
  have HNE : Hid (w.heap.size ≠ p ∧ v.ownBlock ≠ some w.heap.size) := ⟨by have := lt_of_blk HP.out.blk; omega, fun e => by have := ownsRow_lt HP.out.own _ e; omega⟩
  simp only [actV, actC] at *
  go_enter Tryd.func25, Tryd.ntmps25
  go_wp2_with fail
  refine Calls.mono (HM.out _) ?_
  rw [hm]
  rintro e w1 ⟨rfl, hb1⟩
  have HB1 := (show Hid _ from below_on HB.out hb1)
  have hk1 := box_in hb1
  obtain ⟨c0, c1, c2, c3, f0, f1, f2, f3, hz⟩ := cell4 hk1
  have HK1 := (show Hid _ from hk1)
  clear hb1 hk1 hm
  go_wp2_with fail
  refine wp_region_held_drew (S := (fun W => W.cell? ⟨w.heap.size, 0, none⟩ = some (.int .i64 k) ∧ W.cell? ⟨w.heap.size, 1, none⟩ = some (.string (txt x)) ∧ W.cell? ⟨w.heap.size, 2, none⟩ = some (.string (txt y)) ∧ W.cell? ⟨w.heap.size, 3, none⟩ = some (.string (txt z)))) (by kernel_rfl) ⟨c0, c1, c2, c3⟩ (fun hHeld => ?_)
  clear c0 c1 c2 c3 f0 f1 f2 f3
  refine wpAnyH_take (i := 1) (v := ?_) rfl (by kernel_rfl) (by kernel_rfl) (by kernel_rfl) (fun _ _ _ h => h) (Or.inl ⟨by rfl, ?_⟩) (by assumption) ?_
  rotate_left
  · (intro W hSw; (try dsimp only at hSw); go_simp; try with_reducible rfl)
  try simp only [Act.put, List.getElem_toArray, List.getElem_cons_zero, List.getElem_cons_succ, List.setIfInBounds_toArray, List.set_cons_zero, List.set_cons_succ]
  refine wpAnyH_take (i := 2) (v := ?_) rfl (by kernel_rfl) (by kernel_rfl) (by kernel_rfl) (fun _ _ _ h => h) (Or.inl ⟨by rfl, ?_⟩) (by assumption) ?_
  rotate_left
  · (intro W hSw; (try dsimp only at hSw); go_simp; try with_reducible rfl)
  try simp only [Act.put, List.getElem_toArray, List.getElem_cons_zero, List.getElem_cons_succ, List.setIfInBounds_toArray, List.set_cons_zero, List.set_cons_succ]
  refine wpAnyH_take (i := 4) (v := ?_) rfl (by kernel_rfl) (by kernel_rfl) (by kernel_rfl) (fun _ _ _ h => h) (Or.inl ⟨by rfl, ?_⟩) (by assumption) ?_
  rotate_left
  · (intro W hSw; (try dsimp only at hSw); go_simp; try with_reducible rfl)
  try simp only [Act.put, List.getElem_toArray, List.getElem_cons_zero, List.getElem_cons_succ, List.setIfInBounds_toArray, List.set_cons_zero, List.set_cons_succ]
  refine wpAnyH_take (i := 5) (v := ?_) rfl (by kernel_rfl) (by kernel_rfl) (by kernel_rfl) (fun _ _ _ h => h) (Or.inl ⟨by rfl, ?_⟩) (by assumption) ?_
  rotate_left
  · (intro W hSw; (try dsimp only at hSw); go_simp; try with_reducible rfl)
  try simp only [Act.put, List.getElem_toArray, List.getElem_cons_zero, List.getElem_cons_succ, List.setIfInBounds_toArray, List.set_cons_zero, List.set_cons_succ]
  refine wpAnyH_ready (rs := [0]) (by kernel_rfl) (by simp) ?_
  refine AllReadyH.cons rfl (fun K hK => ?_) AllReadyH.nil
  go_simp
  refine Calls.mono (deeds_any _) ?_
  rintro e w2 ⟨rfl, hb2, hd2⟩
  have HB2 := (show Hid _ from below_on HB1.out (below_undrew hb2))
  have hk2 := box_in' HK1.out (below_undrew hb2)
  obtain ⟨c0, c1, c2, c3, _⟩ := cell4 hk2
  have HK2 := (show Hid _ from hk2)
  have hL : (Instr.lookup 104 (.map (some w1.heap.size)) (.int .i64 k) false).run Tryd.prog w2 = .ok (.func (.func 73) #[] #[]) w2 := HL.out _ _ hd2
  clear hb2 hk2
  try go_wp2_with fail
  refine hK.out _ _ ⟨c0, c1, c2, c3⟩ (fun hHeld => ?_)
  clear hK K
  try simp only [Act.put, List.getElem_toArray, List.getElem_cons_zero, List.getElem_cons_succ, List.setIfInBounds_toArray, List.set_cons_zero, List.set_cons_succ]
  refine wpAnyH_ready (rs := [3]) (by kernel_rfl) (by simp) ?_
  refine AllReadyH.cons rfl (fun K hK => ?_) AllReadyH.nil
  go_simp
  try go_wp2_with fail
  refine hK.out _ _ ⟨c0, c1, c2, c3⟩ (fun hHeld => ?_)
  clear hK K hL
  try simp only [Act.put, List.getElem_toArray, List.getElem_cons_zero, List.getElem_cons_succ, List.setIfInBounds_toArray, List.set_cons_zero, List.set_cons_succ]
  refine wpAnyH_ready (rs := [6]) (by kernel_rfl) (by simp) ?_
  refine AllReadyH.cons rfl (fun K hK => ?_) AllReadyH.nil
  go_simp
  refine Calls.mono (HC.out _ (HP.out.below HB2.out (Nat.le_refl _))) ?_
  rintro e w3 ⟨rfl, v3, hp3, ht3, hf3⟩
  have hk3 := ht3.kept HK2.out HNE.out.1 HNE.out.2
  obtain ⟨c0, c1, c2, c3, _⟩ := cell4 hk3
  have HR := (show Hid _ from And.intro hp3 (And.intro (Touch.pre HB2.out ht3) (Fresh.pre HB2.out.size hf3)))
  clear hp3 ht3 hf3 hk3
  try go_wp2_with fail
  refine hK.out _ _ ⟨c0, c1, c2, c3⟩ (fun hHeld => ?_)
  clear hK K
  try simp only [Act.put, List.getElem_toArray, List.getElem_cons_zero, List.getElem_cons_succ, List.setIfInBounds_toArray, List.set_cons_zero, List.set_cons_succ]
  refine wpAnyH_take (i := 7) (v := ?_) rfl (by kernel_rfl) (by kernel_rfl) (by kernel_rfl) (fun _ _ _ h => h) (Or.inl ⟨by rfl, ?_⟩) (by assumption) ?_
  rotate_left
  · (intro W hSw; (try dsimp only at hSw); go_simp; try with_reducible rfl)
  try simp only [Act.put, List.getElem_toArray, List.getElem_cons_zero, List.getElem_cons_succ, List.setIfInBounds_toArray, List.set_cons_zero, List.set_cons_succ]
  refine wpAnyH_done (by kernel_rfl) ?_ _
  clear hHeld
  go_wp2
  go_ret
  exact ⟨rfl, v3, HR.out.1, HR.out.2.1, HR.out.2.2⟩

set_option maxRecDepth 20000 in
set_option maxHeartbeats 2000000 in
theorem do_by65 (B p : Nat) (id : Int) (lsn : Nat) (v : Value) (l : List Cl) (k : Int) (x y z : List UInt8) (w : World) (HP : Hid (PgOk w B p id lsn v l)) (hm : actB k x y z = true) (D : List Cl × Int)
    (HL : Hid (∀ W b, W.heap[b]? = some deedsO → (Instr.lookup 104 (.map (some b)) (.int .i64 k) false).run Tryd.prog W = .ok (.func (.func 74) #[] #[]) W))
    (HC : Hid (∀ W, PgOk W B p id lsn v l → Calls Tryd.prog 74 #[.pointer (some ⟨p, 0, none⟩), actV ⟨k, x, y, z⟩] W fun e w' => e = .returned (.int .i64 D.2) ∧ ∃ v', PgOk w' B p id lsn v' D.1 ∧ Touch p v.ownBlock W w' ∧ Fresh W v v')) :
    Calls Tryd.prog 25 #[.pointer (some ⟨p, 0, none⟩), actV ⟨k, x, y, z⟩] w fun e w' => e = .returned (.int .i64 D.2) ∧ ∃ v', PgOk w' B p id lsn v' D.1 ∧ Touch p v.ownBlock w w' ∧ Fresh w v v' := by
  have HB : Hid (Below w.heap.size w (w.alloc (.cells (actC ⟨k, x, y, z⟩) 46))) := (Below.refl _ _).alloc (Nat.le_refl _) _
  have HM := (show Hid _ from amay_any k x y z)
  have HNE : Hid (w.heap.size ≠ p ∧ v.ownBlock ≠ some w.heap.size) := ⟨by have := lt_of_blk HP.out.blk; omega, fun e => by have := ownsRow_lt HP.out.own _ e; omega⟩
  simp only [actV, actC] at *
  go_enter Tryd.func25, Tryd.ntmps25
  go_wp2_with fail
  refine Calls.mono (HM.out _) ?_
  rw [hm]
  rintro e w1 ⟨rfl, hb1⟩
  have HB1 := (show Hid _ from below_on HB.out hb1)
  have hk1 := box_in hb1
  obtain ⟨c0, c1, c2, c3, f0, f1, f2, f3, hz⟩ := cell4 hk1
  have HK1 := (show Hid _ from hk1)
  clear hb1 hk1 hm
  go_wp2_with fail
  refine wp_region_held_drew (S := (fun W => W.cell? ⟨w.heap.size, 0, none⟩ = some (.int .i64 k) ∧ W.cell? ⟨w.heap.size, 1, none⟩ = some (.string (txt x)) ∧ W.cell? ⟨w.heap.size, 2, none⟩ = some (.string (txt y)) ∧ W.cell? ⟨w.heap.size, 3, none⟩ = some (.string (txt z)))) (by kernel_rfl) ⟨c0, c1, c2, c3⟩ (fun hHeld => ?_)
  clear c0 c1 c2 c3 f0 f1 f2 f3
  refine wpAnyH_take (i := 1) (v := ?_) rfl (by kernel_rfl) (by kernel_rfl) (by kernel_rfl) (fun _ _ _ h => h) (Or.inl ⟨by rfl, ?_⟩) (by assumption) ?_
  rotate_left
  · (intro W hSw; (try dsimp only at hSw); go_simp; try with_reducible rfl)
  try simp only [Act.put, List.getElem_toArray, List.getElem_cons_zero, List.getElem_cons_succ, List.setIfInBounds_toArray, List.set_cons_zero, List.set_cons_succ]
  refine wpAnyH_take (i := 2) (v := ?_) rfl (by kernel_rfl) (by kernel_rfl) (by kernel_rfl) (fun _ _ _ h => h) (Or.inl ⟨by rfl, ?_⟩) (by assumption) ?_
  rotate_left
  · (intro W hSw; (try dsimp only at hSw); go_simp; try with_reducible rfl)
  try simp only [Act.put, List.getElem_toArray, List.getElem_cons_zero, List.getElem_cons_succ, List.setIfInBounds_toArray, List.set_cons_zero, List.set_cons_succ]
  refine wpAnyH_take (i := 4) (v := ?_) rfl (by kernel_rfl) (by kernel_rfl) (by kernel_rfl) (fun _ _ _ h => h) (Or.inl ⟨by rfl, ?_⟩) (by assumption) ?_
  rotate_left
  · (intro W hSw; (try dsimp only at hSw); go_simp; try with_reducible rfl)
  try simp only [Act.put, List.getElem_toArray, List.getElem_cons_zero, List.getElem_cons_succ, List.setIfInBounds_toArray, List.set_cons_zero, List.set_cons_succ]
  refine wpAnyH_take (i := 5) (v := ?_) rfl (by kernel_rfl) (by kernel_rfl) (by kernel_rfl) (fun _ _ _ h => h) (Or.inl ⟨by rfl, ?_⟩) (by assumption) ?_
  rotate_left
  · (intro W hSw; (try dsimp only at hSw); go_simp; try with_reducible rfl)
  try simp only [Act.put, List.getElem_toArray, List.getElem_cons_zero, List.getElem_cons_succ, List.setIfInBounds_toArray, List.set_cons_zero, List.set_cons_succ]
  refine wpAnyH_ready (rs := [0]) (by kernel_rfl) (by simp) ?_
  refine AllReadyH.cons rfl (fun K hK => ?_) AllReadyH.nil
  go_simp
  refine Calls.mono (deeds_any _) ?_
  rintro e w2 ⟨rfl, hb2, hd2⟩
  have HB2 := (show Hid _ from below_on HB1.out (below_undrew hb2))
  have hk2 := box_in' HK1.out (below_undrew hb2)
  obtain ⟨c0, c1, c2, c3, _⟩ := cell4 hk2
  have HK2 := (show Hid _ from hk2)
  have hL : (Instr.lookup 104 (.map (some w1.heap.size)) (.int .i64 k) false).run Tryd.prog w2 = .ok (.func (.func 74) #[] #[]) w2 := HL.out _ _ hd2
  clear hb2 hk2
  try go_wp2_with fail
  refine hK.out _ _ ⟨c0, c1, c2, c3⟩ (fun hHeld => ?_)
  clear hK K
  try simp only [Act.put, List.getElem_toArray, List.getElem_cons_zero, List.getElem_cons_succ, List.setIfInBounds_toArray, List.set_cons_zero, List.set_cons_succ]
  refine wpAnyH_ready (rs := [3]) (by kernel_rfl) (by simp) ?_
  refine AllReadyH.cons rfl (fun K hK => ?_) AllReadyH.nil
  go_simp
  try go_wp2_with fail
  refine hK.out _ _ ⟨c0, c1, c2, c3⟩ (fun hHeld => ?_)
  clear hK K hL
  try simp only [Act.put, List.getElem_toArray, List.getElem_cons_zero, List.getElem_cons_succ, List.setIfInBounds_toArray, List.set_cons_zero, List.set_cons_succ]
  refine wpAnyH_ready (rs := [6]) (by kernel_rfl) (by simp) ?_
  refine AllReadyH.cons rfl (fun K hK => ?_) AllReadyH.nil
  go_simp
  refine Calls.mono (HC.out _ (HP.out.below HB2.out (Nat.le_refl _))) ?_
  rintro e w3 ⟨rfl, v3, hp3, ht3, hf3⟩
  have hk3 := ht3.kept HK2.out HNE.out.1 HNE.out.2
  obtain ⟨c0, c1, c2, c3, _⟩ := cell4 hk3
  have HR := (show Hid _ from And.intro hp3 (And.intro (Touch.pre HB2.out ht3) (Fresh.pre HB2.out.size hf3)))
  clear hp3 ht3 hf3 hk3
  try go_wp2_with fail
  refine hK.out _ _ ⟨c0, c1, c2, c3⟩ (fun hHeld => ?_)
  clear hK K
  try simp only [Act.put, List.getElem_toArray, List.getElem_cons_zero, List.getElem_cons_succ, List.setIfInBounds_toArray, List.set_cons_zero, List.set_cons_succ]
  refine wpAnyH_take (i := 7) (v := ?_) rfl (by kernel_rfl) (by kernel_rfl) (by kernel_rfl) (fun _ _ _ h => h) (Or.inl ⟨by rfl, ?_⟩) (by assumption) ?_
  rotate_left
  · (intro W hSw; (try dsimp only at hSw); go_simp; try with_reducible rfl)
  try simp only [Act.put, List.getElem_toArray, List.getElem_cons_zero, List.getElem_cons_succ, List.setIfInBounds_toArray, List.set_cons_zero, List.set_cons_succ]
  refine wpAnyH_done (by kernel_rfl) ?_ _
  clear hHeld
  go_wp2
  go_ret
  exact ⟨rfl, v3, HR.out.1, HR.out.2.1, HR.out.2.2⟩

set_option maxRecDepth 20000 in
set_option maxHeartbeats 2000000 in
theorem do_any (B p : Nat) (id : Int) (lsn : Nat) (v : Value) (l : List Cl) (a : Ac) (w : World) (h : PgOk w B p id lsn v l) (hg : GoodL l) :
    Calls Tryd.prog 25 #[.pointer (some ⟨p, 0, none⟩), actV a] w fun e w' => e = .returned (.int .i64 (doL l a).2) ∧ ∃ v', PgOk w' B p id lsn v' (doL l a).1 ∧ Touch p v.ownBlock w w' ∧ Fresh w v v' := by
  obtain ⟨k, x, y, z⟩ := a
  have hB : Below w.heap.size w (w.alloc (.cells (actC ⟨k, x, y, z⟩) 46)) := (Below.refl _ _).alloc (Nat.le_refl _) _
  have HM := (show Hid _ from amay_any k x y z)
  have HP := (show Hid _ from h)
  have HG := (show Hid _ from hg)
  have HB := (show Hid _ from hB)
  have HNE : Hid (w.heap.size ≠ p ∧ v.ownBlock ≠ some w.heap.size) := ⟨by have := lt_of_blk h.blk; omega, fun e => by have := ownsRow_lt h.own _ e; omega⟩
  have HKs : Hid (actB k x y z = true → (k = 1 ∨ k = 2 ∨ k = 3) ∧ x.length ≤ maxLen ∧ z.length ≤ maxLen) := fun hm => by
    simp only [actB, Bool.and_eq_true, decide_eq_true_eq] at hm
    unfold maxLen
    omega
  clear h hg hB
  cases hm : actB k x y z
  · have HE : Hid (doL l ⟨k, x, y, z⟩ = (l, 1)) := by show _ = _; unfold doL; rw [if_pos hm]
    have HM1 := HM.out
    simp only [actV, actC] at *
    go_enter Tryd.func25, Tryd.ntmps25
    go_wp2_with fail
    refine Calls.mono (HM.out _) ?_
    rw [hm]
    rintro e w1 ⟨rfl, hb1⟩
    have HB1 := (show Hid _ from below_on HB.out hb1)
    go_wp2
    go_ret
    rw [HE.out]
    exact ⟨rfl, v, HP.out.below HB1.out (Nat.le_refl _), Touch.of HB1.out, Fresh.refl _ _⟩
  · obtain ⟨hks, hx, hz⟩ := HKs.out hm
    rcases hks with rfl | rfl | rfl
    · refine do_by63 B p id lsn v l 1 x y z w HP hm _ (fun W b hb => run_look W b 3 _ 1 0 _ hb rfl) (fun W hW => ?_)
      have HE : doL l ⟨1, x, y, z⟩ = insL l x z := by unfold doL; rw [if_neg (by simp [mayA, hm]), if_pos rfl]
      rw [HE]
      exact ainsert_any B p id lsn v l ⟨1, x, y, z⟩ W hW HG.out hx hz
    · refine do_by64 B p id lsn v l 2 x y z w HP hm _ (fun W b hb => run_look W b 3 _ 2 1 _ hb rfl) (fun W hW => ?_)
      refine aupdate_any B p id lsn v l ⟨2, x, y, z⟩ W hW HG.out hx hz _ ?_
      unfold doL
      rw [if_neg (by simp [mayA, hm]), if_neg (by simp)]
      simp
    · refine do_by65 B p id lsn v l 3 x y z w HP hm _ (fun W b hb => run_look W b 3 _ 3 2 _ hb rfl) (fun W hW => ?_)
      refine aremove_any B p id lsn v l ⟨3, x, y, z⟩ W hW HG.out _ ?_
      unfold doL
      rw [if_neg (by simp [mayA, hm]), if_neg (by simp)]
      simp

end Go.Proofs.YtebchgoaelamcaaDoor
