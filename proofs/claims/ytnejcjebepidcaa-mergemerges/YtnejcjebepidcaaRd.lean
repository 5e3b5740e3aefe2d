/-
  The walk of copied.
-/
import Derived.Test.YtnejcjebepidcaaRc
namespace Go.Proofs.Ytnejcjebepidcaa
open Go.RowKit

theorem cells_set {w : World} {g i t : Nat} {cs : Array Value} {v : Value} (hg : w.heap[g]? = some (.cells cs t)) : (w.setCell ⟨g, i, none⟩ v).heap[g]? = some (.cells (cs.setIfInBounds i v) t) := heap_setCell_same w g i cs t v hg
def put12 (W : World) (n : Nat) (v0 v1 v2 v3 v4 v5 v6 v7 v8 v9 v10 v11 : Value) : World := (((((((((((W.setCell ⟨n, 0, none⟩ v0).setCell ⟨n, 1, none⟩ v1).setCell ⟨n, 2, none⟩ v2).setCell ⟨n, 3, none⟩ v3).setCell ⟨n, 4, none⟩ v4).setCell ⟨n, 5, none⟩ v5).setCell ⟨n, 6, none⟩ v6).setCell ⟨n, 7, none⟩ v7).setCell ⟨n, 8, none⟩ v8).setCell ⟨n, 9, none⟩ v9).setCell ⟨n, 10, none⟩ v10).setCell ⟨n, 11, none⟩ v11
theorem put12_same {W : World} {n t : Nat} {z0 z1 z2 z3 z4 z5 z6 z7 z8 z9 z10 z11 : Value} (v0 v1 v2 v3 v4 v5 v6 v7 v8 v9 v10 v11 : Value) (h : W.heap[n]? = some (.cells #[z0, z1, z2, z3, z4, z5, z6, z7, z8, z9, z10, z11] t)) :
    (put12 W n v0 v1 v2 v3 v4 v5 v6 v7 v8 v9 v10 v11).heap[n]? = some (.cells #[v0, v1, v2, v3, v4, v5, v6, v7, v8, v9, v10, v11] t) := by
  have h0 : (W.setCell ⟨n, 0, none⟩ v0).heap[n]? = some (.cells #[v0, z1, z2, z3, z4, z5, z6, z7, z8, z9, z10, z11] t) := cells_set h
  have h1 : ((W.setCell ⟨n, 0, none⟩ v0).setCell ⟨n, 1, none⟩ v1).heap[n]? = some (.cells #[v0, v1, z2, z3, z4, z5, z6, z7, z8, z9, z10, z11] t) := cells_set h0
  have h2 : (((W.setCell ⟨n, 0, none⟩ v0).setCell ⟨n, 1, none⟩ v1).setCell ⟨n, 2, none⟩ v2).heap[n]? = some (.cells #[v0, v1, v2, z3, z4, z5, z6, z7, z8, z9, z10, z11] t) := cells_set h1
  have h3 : ((((W.setCell ⟨n, 0, none⟩ v0).setCell ⟨n, 1, none⟩ v1).setCell ⟨n, 2, none⟩ v2).setCell ⟨n, 3, none⟩ v3).heap[n]? = some (.cells #[v0, v1, v2, v3, z4, z5, z6, z7, z8, z9, z10, z11] t) := cells_set h2
  have h4 : (((((W.setCell ⟨n, 0, none⟩ v0).setCell ⟨n, 1, none⟩ v1).setCell ⟨n, 2, none⟩ v2).setCell ⟨n, 3, none⟩ v3).setCell ⟨n, 4, none⟩ v4).heap[n]? = some (.cells #[v0, v1, v2, v3, v4, z5, z6, z7, z8, z9, z10, z11] t) := cells_set h3
  have h5 : ((((((W.setCell ⟨n, 0, none⟩ v0).setCell ⟨n, 1, none⟩ v1).setCell ⟨n, 2, none⟩ v2).setCell ⟨n, 3, none⟩ v3).setCell ⟨n, 4, none⟩ v4).setCell ⟨n, 5, none⟩ v5).heap[n]? = some (.cells #[v0, v1, v2, v3, v4, v5, z6, z7, z8, z9, z10, z11] t) := cells_set h4
  have h6 : (((((((W.setCell ⟨n, 0, none⟩ v0).setCell ⟨n, 1, none⟩ v1).setCell ⟨n, 2, none⟩ v2).setCell ⟨n, 3, none⟩ v3).setCell ⟨n, 4, none⟩ v4).setCell ⟨n, 5, none⟩ v5).setCell ⟨n, 6, none⟩ v6).heap[n]? = some (.cells #[v0, v1, v2, v3, v4, v5, v6, z7, z8, z9, z10, z11] t) := cells_set h5
  have h7 : ((((((((W.setCell ⟨n, 0, none⟩ v0).setCell ⟨n, 1, none⟩ v1).setCell ⟨n, 2, none⟩ v2).setCell ⟨n, 3, none⟩ v3).setCell ⟨n, 4, none⟩ v4).setCell ⟨n, 5, none⟩ v5).setCell ⟨n, 6, none⟩ v6).setCell ⟨n, 7, none⟩ v7).heap[n]? = some (.cells #[v0, v1, v2, v3, v4, v5, v6, v7, z8, z9, z10, z11] t) := cells_set h6
  have h8 : (((((((((W.setCell ⟨n, 0, none⟩ v0).setCell ⟨n, 1, none⟩ v1).setCell ⟨n, 2, none⟩ v2).setCell ⟨n, 3, none⟩ v3).setCell ⟨n, 4, none⟩ v4).setCell ⟨n, 5, none⟩ v5).setCell ⟨n, 6, none⟩ v6).setCell ⟨n, 7, none⟩ v7).setCell ⟨n, 8, none⟩ v8).heap[n]? = some (.cells #[v0, v1, v2, v3, v4, v5, v6, v7, v8, z9, z10, z11] t) := cells_set h7
  have h9 : ((((((((((W.setCell ⟨n, 0, none⟩ v0).setCell ⟨n, 1, none⟩ v1).setCell ⟨n, 2, none⟩ v2).setCell ⟨n, 3, none⟩ v3).setCell ⟨n, 4, none⟩ v4).setCell ⟨n, 5, none⟩ v5).setCell ⟨n, 6, none⟩ v6).setCell ⟨n, 7, none⟩ v7).setCell ⟨n, 8, none⟩ v8).setCell ⟨n, 9, none⟩ v9).heap[n]? = some (.cells #[v0, v1, v2, v3, v4, v5, v6, v7, v8, v9, z10, z11] t) := cells_set h8
  have h10 : (((((((((((W.setCell ⟨n, 0, none⟩ v0).setCell ⟨n, 1, none⟩ v1).setCell ⟨n, 2, none⟩ v2).setCell ⟨n, 3, none⟩ v3).setCell ⟨n, 4, none⟩ v4).setCell ⟨n, 5, none⟩ v5).setCell ⟨n, 6, none⟩ v6).setCell ⟨n, 7, none⟩ v7).setCell ⟨n, 8, none⟩ v8).setCell ⟨n, 9, none⟩ v9).setCell ⟨n, 10, none⟩ v10).heap[n]? = some (.cells #[v0, v1, v2, v3, v4, v5, v6, v7, v8, v9, v10, z11] t) := cells_set h9
  have h11 : ((((((((((((W.setCell ⟨n, 0, none⟩ v0).setCell ⟨n, 1, none⟩ v1).setCell ⟨n, 2, none⟩ v2).setCell ⟨n, 3, none⟩ v3).setCell ⟨n, 4, none⟩ v4).setCell ⟨n, 5, none⟩ v5).setCell ⟨n, 6, none⟩ v6).setCell ⟨n, 7, none⟩ v7).setCell ⟨n, 8, none⟩ v8).setCell ⟨n, 9, none⟩ v9).setCell ⟨n, 10, none⟩ v10).setCell ⟨n, 11, none⟩ v11).heap[n]? = some (.cells #[v0, v1, v2, v3, v4, v5, v6, v7, v8, v9, v10, v11] t) := cells_set h10
  exact h11
theorem put12_other {W : World} {n : Nat} (v0 v1 v2 v3 v4 v5 v6 v7 v8 v9 v10 v11 : Value) (k : Nat) (hk : k ≠ n) : (put12 W n v0 v1 v2 v3 v4 v5 v6 v7 v8 v9 v10 v11).heap[k]? = W.heap[k]? := by
  unfold put12
  repeat rw [Below.heap_setCell _ _ _ _ (by simpa using hk)]
theorem put12_below {W0 W : World} {n B : Nat} (v0 v1 v2 v3 v4 v5 v6 v7 v8 v9 v10 v11 : Value) (h : Below B W0 W) (hn : B ≤ n) : Below B W0 (put12 W n v0 v1 v2 v3 v4 v5 v6 v7 v8 v9 v10 v11) := by
  unfold put12
  repeat refine Below.setCell ?_ hn _
  exact h
theorem cell12 {w : World} {q t : Nat} {v0 v1 v2 v3 v4 v5 v6 v7 v8 v9 v10 v11 : Value} (h : w.heap[q]? = some (.cells #[v0, v1, v2, v3, v4, v5, v6, v7, v8, v9, v10, v11] t)) :
    w.cell? ⟨q, 0, none⟩ = some v0 ∧ w.cell? ⟨q, 1, none⟩ = some v1 ∧ w.cell? ⟨q, 2, none⟩ = some v2 ∧ w.cell? ⟨q, 3, none⟩ = some v3 ∧ w.cell? ⟨q, 4, none⟩ = some v4 ∧ w.cell? ⟨q, 5, none⟩ = some v5 ∧
    w.cell? ⟨q, 6, none⟩ = some v6 ∧ w.cell? ⟨q, 7, none⟩ = some v7 ∧ w.cell? ⟨q, 8, none⟩ = some v8 ∧ w.cell? ⟨q, 9, none⟩ = some v9 ∧ w.cell? ⟨q, 10, none⟩ = some v10 ∧ w.cell? ⟨q, 11, none⟩ = some v11 ∧ (∀ i, w.frozen? ⟨q, i, none⟩ = false) := by
  simp [World.cell?, World.frozen?, h]

theorem SlT.flats {w : World} {a : Option Addr} {l : List Tx} (h : SlT w a l) : ∀ y, a = some y → ∀ j u, (txsC l)[j]? = some u → w.cell? (y.add j) = some u := fun y hy => by subst hy; exact h.flat
theorem SlD.flats {w : World} {a : Option Addr} {l : List Di} (h : SlD w a l) : ∀ y, a = some y → ∀ j u, (disC l)[j]? = some u → w.cell? (y.add j) = some u := fun y hy => by subst hy; exact h.flat

theorem own_stay {w w' : World} {B e size n : Nat} {v : Value} {xs : List Value} (h : w.ownsRow B e size v n xs) (hk : ∀ (k : Nat) (c : Array Value), v.ownBlock = some k → w.heap[k]? = some (Obj.cells c e) → w'.heap[k]? = w.heap[k]?) : w'.ownsRow B e size v n xs := by
  refine ⟨h.1, ?_⟩
  rcases h.2 with h2 | ⟨g, cap, cur, rfl, q, hg, r⟩
  · exact .inl h2
  · exact .inr ⟨g, cap, cur, rfl, q, by rw [hk g cur rfl hg]; exact hg, r⟩
theorem kind_ne {w : World} {k q e t : Nat} {c d : Array Value} (h1 : w.heap[k]? = some (Obj.cells c e)) (h2 : w.heap[q]? = some (Obj.cells d t)) (hne : e ≠ t) : k ≠ q := by
  intro e'
  subst e'
  rw [h1] at h2
  injection h2 with h2
  injection h2 with _ h2
  exact hne h2

abbrev zeroR : Array Value := #[.int .i64 0, .int .u64 0, .int .i64 0, .int .u64 0, .int .u64 0, .int .i64 0, .int .i64 0, .string ⟨#[]⟩, .string ⟨#[]⟩, .string ⟨#[]⟩, .slice none 0 0, .slice none 0 0]

set_option maxRecDepth 100000 in
set_option maxHeartbeats 4000000 in
theorem copied34 (r : Rc) (p : Pl) (w : World) (hr : RI w r p) (hl : Lim r) :
    Calls Try.prog 34 #[recV r p] w fun e w' => ∃ p', e = .returned (recV r p') ∧ Own w' w.heap.size r p' ∧ Below w.heap.size w w' := by
  obtain ⟨i0, hi0, hz0, hz1, hz2⟩ := info_parts Try.info65
  obtain ⟨j0, hj0, hy0, hy1, hy2⟩ := info_parts Try.info67
  obtain ⟨ta, tc, da, dc⟩ := p
  obtain ⟨hl1, hl2⟩ := hl
  have hb0 : Below w.heap.size w ((w.alloc (.cells (recC r ⟨ta, tc, da, dc⟩) 46)).alloc (.cells zeroR 46)) := ((Below.refl _ _).alloc (Nat.le_refl _) _).alloc (by simp) _
  have hS : ((w.alloc (.cells (recC r ⟨ta, tc, da, dc⟩) 46)).alloc (.cells zeroR 46)).heap[w.heap.size]? = some (.cells (recC r ⟨ta, tc, da, dc⟩) 46) := heap_alloc2_old _ _ _
  have hZ : ((w.alloc (.cells (recC r ⟨ta, tc, da, dc⟩) 46)).alloc (.cells zeroR 46)).heap[w.heap.size + 1]? = some (.cells zeroR 46) := heap_alloc2_new _ _ _
  have HR := toHid hr
  have HB0 := toHid hb0
  have HT := toHid ((hr.t.below hb0).flats)
  have HD := toHid (fun (W : World) (hW : Below w.heap.size w W) => (hr.d.below hW).flats)
  have hnt : ta = none → r.txns.length = 0 ∧ tc = 0 := fun e => ⟨by rw [hr.t.nonil e]; rfl, hr.ct e⟩
  have hnd : da = none → r.dirty.length = 0 ∧ dc = 0 := fun e => ⟨by rw [hr.d.nonil e]; rfl, hr.cd e⟩
  have HNT := toHid hnt
  have HND := toHid hnd
  have HS := toHid hS
  have HZ := toHid hZ
  clear hr hb0 hnt hnd hS hZ
  go_enter Try.func34, Try.ntmps34
  go_wp2_with (at_builtin; first
    | (refine wpList_append_src _ rfl (.const (.slice none 0 0)) (.tmp 4) 43 rfl w.heap.size 65 i0 _ 3 24 Try.underlying43 hi0 hz0 hz1 hz2 rfl (by decide) (.slice none 0 0) 0 [] rfl (World.ownsRow_nil _ _ _ _) ta r.txns.length tc (txsC r.txns) rfl HNT.out (txsC_length _) HT.out (txsC_one _) (by unfold maxLen; omega) (by omega) (by simp; omega) ?_; intro v1 y1 hown hgrow _; rw [Nat.zero_add, List.nil_append] at hown; obtain ⟨a1, c1, rfl⟩ := ownsRow_shape hown; have HO1 := toHid hown; have HG1 := toHid hgrow; have hs1 := (hgrow.block w.heap.size (by simp; omega) (by simp [Value.ownBlock])).trans HS.out; have hz1' := (hgrow.block (w.heap.size + 1) (by simp) (by simp [Value.ownBlock])).trans HZ.out; have HS1 := toHid hs1; have HZ1 := toHid hz1'; have HB1 := toHid (Below.setCell (p := ⟨w.heap.size, 10, none⟩) ((HB0.out.grown hgrow (by simp; omega) (by simp [Value.ownBlock]))) (Nat.le_refl _) (.slice a1 r.txns.length c1)); have hbz := HB1.out.size; have HSW := toHid (cells_set (i := 10) (v := .slice a1 r.txns.length c1) hs1); have HZW := toHid ((heap_setCell_other y1 ⟨w.heap.size, 10, none⟩ (w.heap.size + 1) (.slice a1 r.txns.length c1) (by simp)).trans hz1'); clear hown hgrow hz1'; obtain ⟨q0, q1, q2, q3, q4, q5, q6, q7, q8, q9, q10, q11, qf⟩ := cell12 hs1; clear hs1)
    | (go_must (refine wpList_append_src _ rfl (.const (.slice none 0 0)) (.tmp 8) 44 rfl w.heap.size 67 j0 _ 2 16 Try.underlying44 hj0 hy0 hy1 hy2 rfl (by decide) (.slice none 0 0) 0 [] rfl (World.ownsRow_nil _ _ _ _) da r.dirty.length dc (disC r.dirty) rfl HND.out (disC_length _) (HD.out _ HB1.out) (disC_one _) (by unfold maxLen; omega) (by omega) hbz ?_; intro v2 y2 hown hgrow _; rw [Nat.zero_add, List.nil_append] at hown; obtain ⟨a2, c2, rfl⟩ := ownsRow_shape hown; have HO2 := toHid hown; have HG2 := toHid hgrow; have hs2 := (hgrow.block w.heap.size (by simpa using (Array.getElem?_eq_some_iff.1 HS1.out).1) (by simp [Value.ownBlock])).trans HSW.out; have hz2' := (hgrow.block (w.heap.size + 1) (by simpa using (Array.getElem?_eq_some_iff.1 HZ1.out).1) (by simp [Value.ownBlock])).trans HZW.out; have HS2 := toHid hs2; have HZ2 := toHid hz2'; clear hown hgrow q0 q1 q2 q3 q4 q5 q6 q7 q8 q9 q10 q11 qf; obtain ⟨q0, q1, q2, q3, q4, q5, q6, q7, q8, q9, q10, q11, qf⟩ := cell12 hs2; obtain ⟨x0, x1, x2, x3, x4, x5, x6, x7, x8, x9, x10, x11, zf⟩ := cell12 hz2'; clear hs2 hz2')))
  have hfin := put12_same (.int .i64 r.kind) (.int .u64 (r.lsn : Int)) (.int .i64 r.txn) (.int .u64 (r.prev : Int)) (.int .u64 (r.undo : Int)) (.int .i64 r.page) (.int .i64 r.ak) (.string (txt r.key)) (.string (txt r.old)) (.string (txt r.new)) (.slice a1 r.txns.length c1) (.slice a2 r.dirty.length c2) ((heap_setCell_other y2 ⟨w.heap.size, 11, none⟩ (w.heap.size + 1) (.slice a2 r.dirty.length c2) (by simp)).trans HZ2.out)
  refine bodyPost_ret (v := recV r ⟨a1, c1, a2, c2⟩) (results_cell_row (P := Try.prog) Try.results34 _ _ (w.heap.size + 1) 46 _ (0, 0) _ rfl hfin Try.underlying46 rfl (by kernel_rfl)) rfl ⟨⟨a1, c1, a2, c2⟩, rfl, ⟨?_, ?_⟩, ?_⟩
  · refine own_stay HO1.out (fun k c hk hc => ?_)
    have n1 : k ≠ w.heap.size := kind_ne hc HS1.out (by decide)
    have n2 : k ≠ w.heap.size + 1 := kind_ne hc HZ1.out (by decide)
    have hlt : k < y1.heap.size := (Array.getElem?_eq_some_iff.1 hc).1
    refine (put12_other _ _ _ _ _ _ _ _ _ _ _ _ k n2).trans ?_
    rw [heap_setCell_other _ _ _ _ n1, HG2.out.block k (by simpa using hlt) (by simp [Value.ownBlock]), heap_setCell_other _ _ _ _ n1]
  · refine own_stay HO2.out (fun k c hk hc => ?_)
    have n1 : k ≠ w.heap.size := kind_ne hc HS2.out (by decide)
    have n2 : k ≠ w.heap.size + 1 := kind_ne hc HZ2.out (by decide)
    refine (put12_other _ _ _ _ _ _ _ _ _ _ _ _ k n2).trans ?_
    rw [heap_setCell_other _ _ _ _ n1]
  · exact put12_below _ _ _ _ _ _ _ _ _ _ _ _ ((HB1.out.grown HG2.out hbz (by simp [Value.ownBlock])).setCell (Nat.le_refl _) _) (by omega)

end Go.Proofs.Ytnejcjebepidcaa
