/-
  The walks of soil and note.
-/
import Derived.Test.YticnkppnpfgceaaFCb
namespace Go.Proofs.Yticnkppnpfgceaa.Mg
open Go.RowKit Go.Maps

section
variable {w : World} {A D : Nat} {K : List Lit} {x : Lf}
theorem Turn.alloc_then {S : Nat → Prop} {w w' : World} {o : Obj} (h : Turn S (w.alloc o) w') : Turn S w w' := (Turn.alloc S w o).trans h fun _ hi => .inl hi
set_option maxHeartbeats 1000000 in
theorem soil45 (h : Wk w A D K x) {p : Int} (hp : Wi p) (hin : Lit.int .i64 p ∈ K) (n : Nat) :
    Calls Try.prog 45 #[wkV A D, .int .i64 p, .int .u64 (n : Int)] w fun e w' => e = .returned (.tuple #[]) ∧ Wk w' A D K ⟨x.t, soilL x.d p n⟩ ∧ Turn (fun i => i = D) w w' := by
  have hB : Below w.heap.size w (w.alloc (.cells (wkC A D) 65)) := (Below.refl _ _).alloc (Nat.le_refl _) _
  have h1 := h.below hB
  have hl := h1.lookD2 hp
  have HT := toHid (Turn.alloc (fun i => i = D) w (.cells (wkC A D) 65))
  have HH := toHid h1
  cases he : (look x.d p).isSome
  · rw [he] at hl
    have HS := toHid (show soilL x.d p n = putL x.d p n by simp [soilL, he])
    obtain ⟨w9, hs1, hs2, hs3⟩ := h1.putD hp hin n
    have HS2 := toHid hs2
    have HS3 := toHid hs3
    clear h hB h1 he hs2 hs3
    generalize (look x.d p).getD 0 = q at *
    go_enter Try.func45, Try.ntmps45
    go_wp2
    go_end0
    exact ⟨rfl, by rw [HS.out]; exact HS2.out, HT.out.trans HS3.out fun _ hi => .inl hi⟩
  · rw [he] at hl
    have HS := toHid (show soilL x.d p n = x.d by simp [soilL, he])
    clear h hB h1 he
    generalize (look x.d p).getD 0 = q at *
    go_enter Try.func45, Try.ntmps45
    go_wp2
    go_end0
    exact ⟨rfl, by rw [HS.out]; exact HH.out, HT.out⟩

set_option maxRecDepth 100000 in
set_option maxHeartbeats 4000000 in
theorem note43 (h : Wk w A D K x) (r : Rc) (p : Pl) (hp : Wi r.txn) (hin : Lit.int .i64 r.txn ∈ K) :
    Calls Try.prog 43 #[wkV A D, recV r p] w fun e w' => e = .returned (.tuple #[]) ∧ Wk w' A D K ⟨noteL x.t r, x.d⟩ ∧ Turn (fun i => i = A) w w' := by
  have hB : Below w.heap.size w ((w.alloc (.cells (wkC A D) 65)).alloc (.cells (recC r p) 50)) := ((Below.refl _ _).alloc (Nat.le_refl _) _).alloc (by simp) _
  have h1 := h.below hB
  have HT := toHid (Turn.of_below hB (fun i => i = A))
  have HH := toHid h1
  have HA := toHid h.t.lt
  by_cases k7 : r.kind = 7
  · have q7 : (r.kind == 7) = true := by simp [k7]
    have HN := toHid (show noteL x.t r = x.t by simp [noteL, k7])
    clear k7 h hB h1
    go_enter Try.func43, Try.ntmps43
    go_wp2
    go_end0
    exact ⟨rfl, by rw [HN.out]; exact HH.out, HT.out⟩
  have q7 : (r.kind == 7) = false := by simp [k7]
  by_cases k8 : r.kind = 8
  · have q8 : (r.kind == 8) = true := by simp [k8]
    have HN := toHid (show noteL x.t r = x.t by simp [noteL, k8])
    clear k7 k8 h hB h1
    go_enter Try.func43, Try.ntmps43
    go_wp2
    go_end0
    exact ⟨rfl, by rw [HN.out]; exact HH.out, HT.out⟩
  have q8 : (r.kind == 8) = false := by simp [k8]
  by_cases k3 : r.kind = 3
  · have q3 : (r.kind == 3) = true := by simp [k3]
    have HN := toHid (show noteL x.t r = goneL x.t r.txn by simp [noteL, k3])
    have HD := toHid (fun ty => h1.delT hp ty)
    clear k7 k8 k3 h hB h1
    go_enter Try.func43, Try.ntmps43
    go_wp2_with (refine wpList_delete_any _ rfl _ _ _ _ rfl (fun w' => Wk w' A D K ⟨goneL x.t r.txn, x.d⟩ ∧ Turn (fun i => i = A) ((w.alloc (.cells (wkC A D) 65)).alloc (.cells (recC r p) 50)) w') _ _ rfl rfl HD.out ?_; intro w9 h9; have H9 := toHid h9; clear h9)
    go_end0
    exact ⟨rfl, by rw [HN.out]; exact H9.out.1, HT.out.trans H9.out.2 fun _ hi => .inl hi⟩
  have q3 : (r.kind == 3) = false := by simp [k3]
  by_cases k5 : r.kind = 5
  · have q5 : (r.kind == 5) = true := by simp [k5]
    have HN := toHid (show noteL x.t r = goneL x.t r.txn by simp [noteL, k5])
    have HD := toHid (fun ty => h1.delT hp ty)
    clear k7 k8 k3 k5 h hB h1
    go_enter Try.func43, Try.ntmps43
    go_wp2_with (refine wpList_delete_any _ rfl _ _ _ _ rfl (fun w' => Wk w' A D K ⟨goneL x.t r.txn, x.d⟩ ∧ Turn (fun i => i = A) ((w.alloc (.cells (wkC A D) 65)).alloc (.cells (recC r p) 50)) w') _ _ rfl rfl HD.out ?_; intro w9 h9; have H9 := toHid h9; clear h9)
    go_end0
    exact ⟨rfl, by rw [HN.out]; exact H9.out.1, HT.out.trans H9.out.2 fun _ hi => .inl hi⟩
  have q5 : (r.kind == 5) = false := by simp [k5]
  have HN := toHid (show noteL x.t r = putL x.t r.txn (behG ((look x.t r.txn).getD gt0) r) by simp [noteL, k7, k8, k3, k5])
  have hl := h1.lookT hp
  obtain ⟨g, hg⟩ : ∃ g, (look x.t r.txn).getD gt0 = g := ⟨_, rfl⟩
  rw [hg] at hl HN
  have HB := toHid (behind55 g r p)
  have HP := toHid hp
  have HI := toHid hin
  clear k7 k8 k3 k5 h hB h1 hp hin
  obtain ⟨W0, hW0⟩ : ∃ W0, W0 = (w.alloc (.cells (wkC A D) 65)).alloc (.cells (recC r p) 50) := ⟨_, rfl⟩
  have hk0 : W0.heap[w.heap.size]? = some (.cells (wkC A D) 65) := by rw [hW0]; exact heap_alloc2_old _ _ _
  have hk1 : W0.heap[w.heap.size + 1]? = some (.cells (recC r p) 50) := by rw [hW0]; exact heap_alloc2_new _ _ _
  have HS := toHid (show ∀ W, Below W0.heap.size W0 W → ((W.cell? ⟨w.heap.size, 0, none⟩ = some (.map (some A)) ∧ W.cell? ⟨w.heap.size + 1, 0, none⟩ = some (.int .i64 r.kind) ∧ W.cell? ⟨w.heap.size + 1, 1, none⟩ = some (.int .u64 (r.lsn : Int)) ∧ W.cell? ⟨w.heap.size + 1, 2, none⟩ = some (.int .i64 r.txn) ∧ W.cell? ⟨w.heap.size + 1, 3, none⟩ = some (.int .u64 (r.prev : Int)) ∧ W.cell? ⟨w.heap.size + 1, 4, none⟩ = some (.int .u64 (r.undo : Int)) ∧ W.cell? ⟨w.heap.size + 1, 5, none⟩ = some (.int .i64 r.page) ∧ W.cell? ⟨w.heap.size + 1, 6, none⟩ = some (.int .i64 r.ak) ∧ W.cell? ⟨w.heap.size + 1, 7, none⟩ = some (.string (txt r.key)) ∧ W.cell? ⟨w.heap.size + 1, 8, none⟩ = some (.string (txt r.old)) ∧ W.cell? ⟨w.heap.size + 1, 9, none⟩ = some (.string (txt r.new)) ∧ W.cell? ⟨w.heap.size + 1, 10, none⟩ = some (.slice p.ta r.txns.length p.tc) ∧ W.cell? ⟨w.heap.size + 1, 11, none⟩ = some (.slice p.da r.dirty.length p.dc)) ∧ (Instr.lookup 62 (.map (some A)) (.int .i64 r.txn) false).run Try.prog W = .ok (gtV g) W) from fun W hb => by
    have k0 := (hb.block _ (some_lt hk0)).trans hk0
    have k1 := (hb.block _ (some_lt hk1)).trans hk1
    obtain ⟨b0, b1, b2, b3, b4, b5, b6, b7, b8, b9, b10, b11, _⟩ := cell12 k1
    refine ⟨⟨by simp [World.cell?, k0], b0, b1, b2, b3, b4, b5, b6, b7, b8, b9, b10, b11⟩, ?_⟩
    have := (((hW0.symm ▸ HH.out : Wk W0 A D K x)).below hb).lookT HP.out
    rw [hg] at this
    exact this)
  have HU := toHid (show ∀ W, Below W0.heap.size W0 W → ∃ w9, (Instr.mapUpdate 62 (.map (some A)) (.int .i64 r.txn) (gtV (behG g r))).run Try.prog W = .ok () w9 ∧ Wk w9 A D K ⟨putL x.t r.txn (behG g r), x.d⟩ ∧ Turn (fun i => i = A) w w9 ∧ (W.cell? ⟨w.heap.size, 0, none⟩ = some (.map (some A)) ∧ W.cell? ⟨w.heap.size + 1, 0, none⟩ = some (.int .i64 r.kind) ∧ W.cell? ⟨w.heap.size + 1, 1, none⟩ = some (.int .u64 (r.lsn : Int)) ∧ W.cell? ⟨w.heap.size + 1, 2, none⟩ = some (.int .i64 r.txn) ∧ W.cell? ⟨w.heap.size + 1, 3, none⟩ = some (.int .u64 (r.prev : Int)) ∧ W.cell? ⟨w.heap.size + 1, 4, none⟩ = some (.int .u64 (r.undo : Int)) ∧ W.cell? ⟨w.heap.size + 1, 5, none⟩ = some (.int .i64 r.page) ∧ W.cell? ⟨w.heap.size + 1, 6, none⟩ = some (.int .i64 r.ak) ∧ W.cell? ⟨w.heap.size + 1, 7, none⟩ = some (.string (txt r.key)) ∧ W.cell? ⟨w.heap.size + 1, 8, none⟩ = some (.string (txt r.old)) ∧ W.cell? ⟨w.heap.size + 1, 9, none⟩ = some (.string (txt r.new)) ∧ W.cell? ⟨w.heap.size + 1, 10, none⟩ = some (.slice p.ta r.txns.length p.tc) ∧ W.cell? ⟨w.heap.size + 1, 11, none⟩ = some (.slice p.da r.dirty.length p.dc) → w9.cell? ⟨w.heap.size, 0, none⟩ = some (.map (some A)) ∧ w9.cell? ⟨w.heap.size + 1, 0, none⟩ = some (.int .i64 r.kind) ∧ w9.cell? ⟨w.heap.size + 1, 1, none⟩ = some (.int .u64 (r.lsn : Int)) ∧ w9.cell? ⟨w.heap.size + 1, 2, none⟩ = some (.int .i64 r.txn) ∧ w9.cell? ⟨w.heap.size + 1, 3, none⟩ = some (.int .u64 (r.prev : Int)) ∧ w9.cell? ⟨w.heap.size + 1, 4, none⟩ = some (.int .u64 (r.undo : Int)) ∧ w9.cell? ⟨w.heap.size + 1, 5, none⟩ = some (.int .i64 r.page) ∧ w9.cell? ⟨w.heap.size + 1, 6, none⟩ = some (.int .i64 r.ak) ∧ w9.cell? ⟨w.heap.size + 1, 7, none⟩ = some (.string (txt r.key)) ∧ w9.cell? ⟨w.heap.size + 1, 8, none⟩ = some (.string (txt r.old)) ∧ w9.cell? ⟨w.heap.size + 1, 9, none⟩ = some (.string (txt r.new)) ∧ w9.cell? ⟨w.heap.size + 1, 10, none⟩ = some (.slice p.ta r.txns.length p.tc) ∧ w9.cell? ⟨w.heap.size + 1, 11, none⟩ = some (.slice p.da r.dirty.length p.dc)) from fun W hb => by
    obtain ⟨w9, a1, a2, a3⟩ := (((hW0.symm ▸ HH.out : Wk W0 A D K x)).below hb).putT HP.out HI.out (behG g r)
    have hA : A < w.heap.size := HA.out
    have hz : W0.heap.size = w.heap.size + 2 := by rw [hW0]; simp
    have hs := hb.size
    have e0 : ∀ j, w9.cell? ⟨w.heap.size, j, none⟩ = W.cell? ⟨w.heap.size, j, none⟩ := fun j => World.cell?_of_block (w := W) (a3.block _ (show w.heap.size < W.heap.size by omega) (show ¬ w.heap.size = A by omega))
    have e1 : ∀ j, w9.cell? ⟨w.heap.size + 1, j, none⟩ = W.cell? ⟨w.heap.size + 1, j, none⟩ := fun j => World.cell?_of_block (w := W) (a3.block _ (show w.heap.size + 1 < W.heap.size by omega) (show ¬ w.heap.size + 1 = A by omega))
    exact ⟨w9, a1, a2, ((hW0 ▸ HT.out : Turn _ w W0).trans (Turn.of_below hb _) fun _ hi => .inl hi).trans a3 fun _ hi => .inl hi, by simp only [e0, e1]; exact fun h => h⟩)
  have HW0 := toHid hW0
  clear hk0 hk1 hW0 hl hg
  go_enter Try.func43, Try.ntmps43
  go_wp2_with fail
  rw [← HW0.out]
  obtain ⟨hS0, hl0⟩ := HS.out W0.drew ⟨rfl, rfl, rfl, Nat.le_refl _, fun _ _ => rfl⟩
  go_region_held3 (fun W => W.cell? ⟨w.heap.size, 0, none⟩ = some (.map (some A)) ∧ W.cell? ⟨w.heap.size + 1, 0, none⟩ = some (.int .i64 r.kind) ∧ W.cell? ⟨w.heap.size + 1, 1, none⟩ = some (.int .u64 (r.lsn : Int)) ∧ W.cell? ⟨w.heap.size + 1, 2, none⟩ = some (.int .i64 r.txn) ∧ W.cell? ⟨w.heap.size + 1, 3, none⟩ = some (.int .u64 (r.prev : Int)) ∧ W.cell? ⟨w.heap.size + 1, 4, none⟩ = some (.int .u64 (r.undo : Int)) ∧ W.cell? ⟨w.heap.size + 1, 5, none⟩ = some (.int .i64 r.page) ∧ W.cell? ⟨w.heap.size + 1, 6, none⟩ = some (.int .i64 r.ak) ∧ W.cell? ⟨w.heap.size + 1, 7, none⟩ = some (.string (txt r.key)) ∧ W.cell? ⟨w.heap.size + 1, 8, none⟩ = some (.string (txt r.old)) ∧ W.cell? ⟨w.heap.size + 1, 9, none⟩ = some (.string (txt r.new)) ∧ W.cell? ⟨w.heap.size + 1, 10, none⟩ = some (.slice p.ta r.txns.length p.tc) ∧ W.cell? ⟨w.heap.size + 1, 11, none⟩ = some (.slice p.da r.dirty.length p.dc)) (assumption) (first | (go_at_call 55; refine Calls.mono (HB.out _) ?_; rintro e w1 ⟨rfl, hb1⟩; have hb2 : Below W0.heap.size W0 w1 := Below.trans (⟨rfl, rfl, rfl, Nat.le_refl _, fun _ _ => rfl⟩ : Below W0.heap.size W0 W0.drew) hb1; have hS1 := (HS.out w1 hb2).1; obtain ⟨w9, hu1, hu2, hu3, hu4⟩ := HU.out w1 hb2; have HU2 := toHid (And.intro hu2 hu3); have hS9 := hu4 hS1; clear hb1 hb2 hu2 hu3 hu4))
  all_goals
    go_wp2
    go_end0
    exact ⟨rfl, by rw [HN.out]; exact HU2.out.1, HU2.out.2⟩
end
end Go.Proofs.Yticnkppnpfgceaa.Mg
