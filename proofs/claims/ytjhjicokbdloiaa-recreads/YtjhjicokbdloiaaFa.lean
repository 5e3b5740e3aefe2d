/-
  The document's reader in a block; the walk of the document's change.
-/
import Derived.Test.YtjhjicokbdloiaaRr
import Derived.Test.YtjhjicokbdloiaaDe
namespace Go.Proofs.Ytjhjicokbdloiaa
open Go.RowKit

theorem tk_any (S : ByteArray) (k m : Nat) (s : St) (w : World) (hS : S.size ≤ maxLen) (hk : k ≤ S.size) (hs : s.1 = S.data.toList.drop k) (hm8 : m ≤ 8) (hm0 : 0 < m) :
    Calls Try.prog 47 #[.agg #[.string S, .int .i64 k, .int .i64 s.2], .int .i64 m] w fun e w' => ∃ k' : Nat, k' ≤ S.size ∧ (sN m s).1 = S.data.toList.drop k' ∧
      e = .returned (.tuple #[.agg #[.string S, .int .i64 k', .int .i64 (sN m s).2], .int .u64 (rN m s : Nat)]) ∧ Below w.heap.size w w' := by
  have h := take_ref_any S k m s.2 w hS hk hm8 hm0
  rw [← hs] at h
  exact h
theorem tt_any (S : ByteArray) (k : Nat) (m : Int) (s : St) (w : World) (hS : S.size ≤ maxLen) (hk : k ≤ S.size) (hs : s.1 = S.data.toList.drop k) :
    Calls Try.prog 74 #[.agg #[.string S, .int .i64 k, .int .i64 s.2], .int .i64 m] w fun e w' => ∃ k' : Nat, k' ≤ S.size ∧ (sT m s).1 = S.data.toList.drop k' ∧
      e = .returned (.tuple #[.agg #[.string S, .int .i64 k', .int .i64 (sT m s).2], .string (txt (rT m s))]) ∧ Below w.heap.size w w' := by
  have h := takeText_ref S k m s.2 w hS hk
  rw [← hs] at h
  exact h

/-- The document's reader in block p, a record in block q, and some blocks Z that stand. -/
structure QW (w0 w : World) (Z : List (Nat × Obj)) (p q : Nat) (S : ByteArray) (k : Nat) (s : St) (cs : Array Value) : Prop where
  le : k ≤ S.size
  at_ : s.1 = S.data.toList.drop k
  rd : w.heap[p]? = some (.cells #[.string S, .int .i64 k, .int .i64 s.2] 78)
  blk : w.heap[q]? = some (.cells cs 31)
  ne : p ≠ q
  hp : w0.heap.size ≤ p
  hq : w0.heap.size ≤ q
  zs : ∀ x ∈ Z, w.heap[x.1]? = some x.2 ∧ x.1 ≠ p ∧ x.1 ≠ q
  bel : Below w0.heap.size w0 w

theorem QW.call {w0 w w' : World} {Z : List (Nat × Obj)} {p q k : Nat} {S : ByteArray} {s : St} {cs : Array Value} (h : QW w0 w Z p q S k s cs) (hb : Below w.heap.size w w') : QW w0 w' Z p q S k s cs :=
  ⟨h.le, h.at_, by rw [hb.block p (lt_of_block h.rd)]; exact h.rd, by rw [hb.block q (lt_of_block h.blk)]; exact h.blk, h.ne, h.hp, h.hq,
    fun x hx => ⟨by rw [hb.block _ (lt_of_block (h.zs x hx).1)]; exact (h.zs x hx).1, (h.zs x hx).2⟩, h.bel.trans (hb.mono h.bel.size)⟩
theorem setCell_same {w : World} {p i : Nat} {cs : Array Value} {t : TypeId} {x : Value} (h : w.heap[p]? = some (.cells cs t)) : (w.setCell ⟨p, i, none⟩ x).heap[p]? = some (.cells (cs.setIfInBounds i x) t) := cells_set h
theorem setCell_else {w : World} {p b i : Nat} {o : Option Obj} {x : Value} (h : w.heap[b]? = o) (hne : b ≠ p) : (w.setCell ⟨p, i, none⟩ x).heap[b]? = o := by
  rw [heap_setCell_other _ _ _ _ hne]; exact h
theorem below_set {w0 w : World} {p i : Nat} {x : Value} (h : Below w0.heap.size w0 w) (hp : w0.heap.size ≤ p) : Below w0.heap.size w0 (w.setCell ⟨p, i, none⟩ x) := h.setCell hp _
theorem QW.rset {w0 w : World} {Z : List (Nat × Obj)} {p q k : Nat} {S : ByteArray} {s : St} {cs : Array Value} (h : QW w0 w Z p q S k s cs) {k' : Nat} {s' : St} (hk : k' ≤ S.size) (hs : s'.1 = S.data.toList.drop k') :
    QW w0 (((w.setCell ⟨p, 0, none⟩ (.string S)).setCell ⟨p, 1, none⟩ (.int .i64 k')).setCell ⟨p, 2, none⟩ (.int .i64 s'.2)) Z p q S k' s' cs :=
  ⟨hk, hs, cells_set (cells_set (cells_set h.rd)), setCell_else (setCell_else (setCell_else h.blk h.ne.symm) h.ne.symm) h.ne.symm, h.ne, h.hp, h.hq,
    fun x hx => ⟨setCell_else (setCell_else (setCell_else (h.zs x hx).1 (h.zs x hx).2.1) (h.zs x hx).2.1) (h.zs x hx).2.1, (h.zs x hx).2⟩, below_set (below_set (below_set h.bel h.hp) h.hp) h.hp⟩
theorem QW.put {w0 w : World} {Z : List (Nat × Obj)} {p q k : Nat} {S : ByteArray} {s : St} {cs cs' : Array Value} (h : QW w0 w Z p q S k s cs) {i : Nat} {x : Value} (e : cs.setIfInBounds i x = cs') :
    QW w0 (w.setCell ⟨q, i, none⟩ x) Z p q S k s cs' :=
  ⟨h.le, h.at_, setCell_else h.rd h.ne, by rw [← e]; exact cells_set h.blk, h.ne, h.hp, h.hq, fun x hx => ⟨setCell_else (h.zs x hx).1 (h.zs x hx).2.2, (h.zs x hx).2⟩, below_set h.bel h.hq⟩
theorem QW.cells {w0 w : World} {Z : List (Nat × Obj)} {p q k : Nat} {S : ByteArray} {s : St} {cs : Array Value} (h : QW w0 w Z p q S k s cs) : (w.cell? ⟨p, 0, none⟩ = some (.string S) ∧ w.cell? ⟨p, 1, none⟩ = some (.int .i64 k) ∧ w.cell? ⟨p, 2, none⟩ = some (.int .i64 s.2)) ∧ w.frozen? ⟨p, 0, none⟩ = false ∧ w.frozen? ⟨p, 1, none⟩ = false ∧ w.frozen? ⟨p, 2, none⟩ = false := cells3 h.rd

theorem four_new (w : World) (A B C D : Obj) : ((((w.alloc A).alloc B).alloc C).alloc D).heap[w.heap.size]? = some A ∧ ((((w.alloc A).alloc B).alloc C).alloc D).heap[w.heap.size + 1]? = some B ∧ ((((w.alloc A).alloc B).alloc C).alloc D).heap[w.heap.size + 1 + 1]? = some C ∧ ((((w.alloc A).alloc B).alloc C).alloc D).heap[w.heap.size + 1 + 1 + 1]? = some D := by
  have hA := heap_alloc_new w A
  have hB := heap_alloc_new (w.alloc A) B
  have hC := heap_alloc_new ((w.alloc A).alloc B) C
  have hD := heap_alloc_new (((w.alloc A).alloc B).alloc C) D
  simp only [World.size_alloc] at hB hC hD
  refine ⟨?_, ?_, ?_, hD⟩
  · rw [Below.heap_alloc _ _ _ (by simp; omega), Below.heap_alloc _ _ _ (by simp; omega), Below.heap_alloc _ _ _ (by simp)]; exact hA
  · rw [Below.heap_alloc _ _ _ (by simp), Below.heap_alloc _ _ _ (by simp)]; exact hB
  · rw [Below.heap_alloc _ _ _ (by simp)]; exact hC
theorem four_below (w : World) (A B C D : Obj) : Below w.heap.size w ((((w.alloc A).alloc B).alloc C).alloc D) :=
  ((((Below.refl _ w).alloc (Nat.le_refl _) _).alloc (by simp) _).alloc (by simp; omega) _).alloc (by simp; omega) _
theorem QW.start (w : World) (S : ByteArray) (k : Nat) (s : St) (cs : Array Value) (hk : k ≤ S.size) (hs : s.1 = S.data.toList.drop k) :
    QW w ((((w.alloc (.cells #[.string S, .int .i64 k, .int .i64 s.2] 78)).alloc (.cells cs 31)).alloc (.cells #[.string ⟨#[]⟩, .int .i64 0, .int .i64 0] 78)).alloc (.cells (recC Rc.zero none 0 none 0) 31)) [(w.heap.size + 1 + 1, Obj.cells #[.string ⟨#[]⟩, .int .i64 0, .int .i64 0] 78), (w.heap.size + 1 + 1 + 1, Obj.cells (recC Rc.zero none 0 none 0) 31)] (w.heap.size) (w.heap.size + 1) S k s cs := by
  obtain ⟨a, b, c, d⟩ := four_new w (.cells #[.string S, .int .i64 k, .int .i64 s.2] 78) (.cells cs 31) (.cells #[.string ⟨#[]⟩, .int .i64 0, .int .i64 0] 78) (.cells (recC Rc.zero none 0 none 0) 31)
  refine ⟨hk, hs, a, b, by omega, Nat.le_refl _, by omega, ?_, four_below _ _ _ _ _⟩
  intro x hx
  simp only [List.mem_cons, List.not_mem_nil, or_false] at hx
  rcases hx with rfl | rfl
  · exact ⟨c, by show _ + 1 + 1 ≠ _; omega, by show _ + 1 + 1 ≠ _ + 1; omega⟩
  · exact ⟨d, by show _ + 1 + 1 + 1 ≠ _; omega, by show _ + 1 + 1 + 1 ≠ _ + 1; omega⟩

theorem drew_heap (w : World) (b : Nat) : w.drew.heap[b]? = w.heap[b]? := rfl
theorem set3 {W : World} {a : Nat} {y0 y1 y2 : Value} (x0 x1 x2 : Value) (h : W.heap[a]? = some (.cells #[y0, y1, y2] 78)) : (((W.setCell ⟨a, 0, none⟩ x0).setCell ⟨a, 1, none⟩ x1).setCell ⟨a, 2, none⟩ x2).heap[a]? = some (.cells #[x0, x1, x2] 78) := by
  have h0 : (W.setCell ⟨a, 0, none⟩ x0).heap[a]? = some (.cells #[x0, y1, y2] 78) := cells_set h
  have h1 : ((W.setCell ⟨a, 0, none⟩ x0).setCell ⟨a, 1, none⟩ x1).heap[a]? = some (.cells #[x0, x1, y2] 78) := cells_set h0
  exact cells_set h1
theorem set3_other {W : World} {a : Nat} (x0 x1 x2 : Value) (b : Nat) (hb : b ≠ a) : (((W.setCell ⟨a, 0, none⟩ x0).setCell ⟨a, 1, none⟩ x1).setCell ⟨a, 2, none⟩ x2).heap[b]? = W.heap[b]? := by
  repeat rw [Below.heap_setCell _ _ _ _ (by simpa using hb)]
theorem fin_ab {W : World} {a b : Nat} {y0 y1 y2 x0 x1 x2 z0 z1 z2 z3 z4 z5 z6 z7 z8 z9 z10 z11 v0 v1 v2 v3 v4 v5 v6 v7 v8 v9 v10 v11 : Value} (ha : W.heap[a]? = some (.cells #[y0, y1, y2] 78)) (hb : W.heap[b]? = some (.cells #[z0, z1, z2, z3, z4, z5, z6, z7, z8, z9, z10, z11] 31)) (hne : a ≠ b) :
    (put12 (((W.setCell ⟨a, 0, none⟩ x0).setCell ⟨a, 1, none⟩ x1).setCell ⟨a, 2, none⟩ x2) b v0 v1 v2 v3 v4 v5 v6 v7 v8 v9 v10 v11).drew.heap[a]? = some (.cells #[x0, x1, x2] 78) ∧ (put12 (((W.setCell ⟨a, 0, none⟩ x0).setCell ⟨a, 1, none⟩ x1).setCell ⟨a, 2, none⟩ x2) b v0 v1 v2 v3 v4 v5 v6 v7 v8 v9 v10 v11).drew.heap[b]? = some (.cells #[v0, v1, v2, v3, v4, v5, v6, v7, v8, v9, v10, v11] 31) := by
  rw [drew_heap, drew_heap]
  refine ⟨?_, ?_⟩
  · rw [set12_other v0 v1 v2 v3 v4 v5 v6 v7 v8 v9 v10 v11 a hne]
    exact set3 x0 x1 x2 ha
  · have h1 : (((W.setCell ⟨a, 0, none⟩ x0).setCell ⟨a, 1, none⟩ x1).setCell ⟨a, 2, none⟩ x2).heap[b]? = some (.cells #[z0, z1, z2, z3, z4, z5, z6, z7, z8, z9, z10, z11] 31) := by
      rw [set3_other x0 x1 x2 b hne.symm]
      exact hb
    exact set12 v0 v1 v2 v3 v4 v5 v6 v7 v8 v9 v10 v11 h1
theorem results_two {fn : Func} (h : fn.results = #[.cell 4 78, .cell 5 31]) (tmps : Array Value) {w : World} {a b : Nat} {x0 x1 x2 v0 v1 v2 v3 v4 v5 v6 v7 v8 v9 v10 v11 : Value} (ha : tmps[4]?.getD undef = .pointer (some ⟨a, 0, none⟩)) (hb : tmps[5]?.getD undef = .pointer (some ⟨b, 0, none⟩))
    (h1 : w.heap[a]? = some (.cells #[x0, x1, x2] 78)) (h2 : w.heap[b]? = some (.cells #[v0, v1, v2, v3, v4, v5, v6, v7, v8, v9, v10, v11] 31)) :
    (results fn tmps).run Try.prog w = .ok (.tuple #[.agg #[x0, x1, x2], .agg #[v0, v1, v2, v3, v4, v5, v6, v7, v8, v9, v10, v11]]) w := by
  have e1 := run_loadVar_row (P := Try.prog) w a 78 78 #[x0, x1, x2] (0, 0) _ h1 Try.underlying78 rfl (by kernel_rfl)
  have e2 := run_loadVar_row (P := Try.prog) w b 31 31 #[v0, v1, v2, v3, v4, v5, v6, v7, v8, v9, v10, v11] (0, 0) _ h2 Try.underlying31 rfl (by kernel_rfl)
  have e3 : (asAddr (tmps[4]?.getD undef)).run Try.prog w = .ok ⟨a, 0, none⟩ w := by rw [ha]; rfl
  have e4 : (asAddr (tmps[5]?.getD undef)).run Try.prog w = .ok ⟨b, 0, none⟩ w := by rw [hb]; rfl
  simp only [results, h]
  simp [Sem.run_bind, Result.andThen, e1, e2, e3, e4]

set_option maxRecDepth 20000 in
set_option maxHeartbeats 2000000 in
theorem refchange_any (S : ByteArray) (k : Nat) (s : St) (r : Rc) (ta : Option Addr) (tc : Nat) (da : Option Addr) (dc : Nat) (w : World) (hS : S.size ≤ maxLen) (hk : k ≤ S.size) (hs : s.1 = S.data.toList.drop k) :
    Calls Try.prog 48 #[.agg #[.string S, .int .i64 k, .int .i64 s.2], recV r ta tc da dc] w fun e w' => ∃ k' : Nat, k' ≤ S.size ∧ (chgS s).1 = S.data.toList.drop k' ∧
      e = .returned (.tuple #[.agg #[.string S, .int .i64 k', .int .i64 (chgS s).2], recV (chgR s r) ta tc da dc]) ∧ Below w.heap.size w w' := by
  have b1 := rN_bd 2 s
  have b2 := rN_bd 1 (sN 2 s)
  simp only [Nat.reducePow] at b1 b2
  have H0 : Hid _ := QW.start w S k s (recC r ta tc da dc) hk hs
  go_enter Try.func48, Try.ntmps48
  go_wp2_with fail
  refine Calls.mono (tk_any S k 2 (s) _ hS hk hs (by decide) (by decide)) ?_
  rintro e w1 ⟨k1, hk1, hs1, rfl, hb⟩
  have h := H0.out.call hb
  obtain ⟨⟨c0, c1, c2⟩, f0, f1, f2⟩ := h.cells
  obtain ⟨⟨q0, q1, q2, q3, q4, q5, q6, q7, q8, q9, q10, q11⟩, hf⟩ := rw_cells h.blk
  have H1 : Hid _ := (h.rset (s' := sN 2 s) hk1 hs1).put (i := 5) (x := .int .i64 (rN 2 s : Nat)) (cs' := recC { r with page := (rN 2 s : Nat) } ta tc da dc) rfl
  clear h hb 
  go_wp2_with fail
  clear c0 c1 c2 f0 f1 f2 q0 q1 q2 q3 q4 q5 q6 q7 q8 q9 q10 q11 hf
  refine Calls.mono (tk_any S k1 1 (sN 2 s) _ hS hk1 hs1 (by decide) (by decide)) ?_
  rintro e w2 ⟨k2, hk2, hs2, rfl, hb⟩
  have h := H1.out.call hb
  obtain ⟨⟨c0, c1, c2⟩, f0, f1, f2⟩ := h.cells
  obtain ⟨⟨q0, q1, q2, q3, q4, q5, q6, q7, q8, q9, q10, q11⟩, hf⟩ := rw_cells h.blk
  have H2 : Hid _ := (h.rset (s' := sN 1 (sN 2 s)) hk2 hs2).put (i := 6) (x := .int .i64 (rN 1 (sN 2 s) : Nat)) (cs' := recC { r with page := (rN 2 s : Nat), ak := (rN 1 (sN 2 s) : Nat) } ta tc da dc) rfl
  clear h hb H1
  go_wp2_with fail
  clear c0 c1 c2 f0 f1 f2 q0 q1 q2 q3 q4 q5 q6 q7 q8 q9 q10 q11 hf
  refine Calls.mono (tt_any S k2 16 (sN 1 (sN 2 s)) _ hS hk2 hs2) ?_
  rintro e w3 ⟨k3, hk3, hs3, rfl, hb⟩
  have h := H2.out.call hb
  obtain ⟨⟨c0, c1, c2⟩, f0, f1, f2⟩ := h.cells
  obtain ⟨⟨q0, q1, q2, q3, q4, q5, q6, q7, q8, q9, q10, q11⟩, hf⟩ := rw_cells h.blk
  have H3 : Hid _ := (h.rset (s' := sT 16 (sN 1 (sN 2 s))) hk3 hs3).put (i := 7) (x := .string (txt (rT 16 (sN 1 (sN 2 s))))) (cs' := recC { r with page := (rN 2 s : Nat), ak := (rN 1 (sN 2 s) : Nat), key := rT 16 (sN 1 (sN 2 s)) } ta tc da dc) rfl
  clear h hb H2
  go_wp2_with fail
  clear c0 c1 c2 f0 f1 f2 q0 q1 q2 q3 q4 q5 q6 q7 q8 q9 q10 q11 hf
  refine Calls.mono (tt_any S k3 32 (sT 16 (sN 1 (sN 2 s))) _ hS hk3 hs3) ?_
  rintro e w4 ⟨k4, hk4, hs4, rfl, hb⟩
  have h := H3.out.call hb
  obtain ⟨⟨c0, c1, c2⟩, f0, f1, f2⟩ := h.cells
  obtain ⟨⟨q0, q1, q2, q3, q4, q5, q6, q7, q8, q9, q10, q11⟩, hf⟩ := rw_cells h.blk
  have H4 : Hid _ := (h.rset (s' := sT 32 (sT 16 (sN 1 (sN 2 s)))) hk4 hs4).put (i := 8) (x := .string (txt (rT 32 (sT 16 (sN 1 (sN 2 s)))))) (cs' := recC { r with page := (rN 2 s : Nat), ak := (rN 1 (sN 2 s) : Nat), key := rT 16 (sN 1 (sN 2 s)), old := rT 32 (sT 16 (sN 1 (sN 2 s))) } ta tc da dc) rfl
  clear h hb H3
  go_wp2_with fail
  clear c0 c1 c2 f0 f1 f2 q0 q1 q2 q3 q4 q5 q6 q7 q8 q9 q10 q11 hf
  refine Calls.mono (tt_any S k4 32 (sT 32 (sT 16 (sN 1 (sN 2 s)))) _ hS hk4 hs4) ?_
  rintro e w5 ⟨k5, hk5, hs5, rfl, hb⟩
  have h := H4.out.call hb
  obtain ⟨⟨c0, c1, c2⟩, f0, f1, f2⟩ := h.cells
  obtain ⟨⟨q0, q1, q2, q3, q4, q5, q6, q7, q8, q9, q10, q11⟩, hf⟩ := rw_cells h.blk
  have H5 : Hid _ := (h.rset (s' := sT 32 (sT 32 (sT 16 (sN 1 (sN 2 s))))) hk5 hs5).put (i := 9) (x := .string (txt (rT 32 (sT 32 (sT 16 (sN 1 (sN 2 s))))))) (cs' := recC { r with page := (rN 2 s : Nat), ak := (rN 1 (sN 2 s) : Nat), key := rT 16 (sN 1 (sN 2 s)), old := rT 32 (sT 16 (sN 1 (sN 2 s))), new := rT 32 (sT 32 (sT 16 (sN 1 (sN 2 s)))) } ta tc da dc) rfl
  clear h hb H4
  go_wp2_with fail
  obtain ⟨W, HW⟩ : ∃ W, W = ((((w5.setCell ⟨w.heap.size, 0, none⟩ (.string S)).setCell ⟨w.heap.size, 1, none⟩ (.int .i64 k5)).setCell ⟨w.heap.size, 2, none⟩ (.int .i64 (sT 32 (sT 32 (sT 16 (sN 1 (sN 2 s))))).2)).setCell ⟨w.heap.size + 1, 9, none⟩ (.string (txt (rT 32 (sT 32 (sT 16 (sN 1 (sN 2 s)))))))) := ⟨_, rfl⟩
  rw [← HW] at H5 ⊢
  clear HW c0 c1 c2 f0 f1 f2 q0 q1 q2 q3 q4 q5 q6 q7 q8 q9 q10 q11 hf
  obtain ⟨⟨c0, c1, c2⟩, f0, f1, f2⟩ := H5.out.cells
  obtain ⟨⟨q0, q1, q2, q3, q4, q5, q6, q7, q8, q9, q10, q11⟩, hf⟩ := rw_cells H5.out.blk
  obtain ⟨⟨z0, z1, z2⟩, g0, g1, g2⟩ := cells3 (H5.out.zs _ (List.mem_cons_self ..)).1
  obtain ⟨⟨r0, r1, r2, r3, r4, r5, r6, r7, r8, r9, r10, r11⟩, hg⟩ := rw_cells (H5.out.zs _ (List.mem_cons_of_mem _ (List.mem_cons_self ..))).1
  dsimp only at z0 z1 z2 g0 g1 g2 r0 r1 r2 r3 r4 r5 r6 r7 r8 r9 r10 r11 hg
  have HB : Hid _ := H5.out.bel
  have HA : Hid (W.heap[w.heap.size + 1 + 1]? = _) := (H5.out.zs _ (List.mem_cons_self ..)).1
  have HC : Hid (W.heap[w.heap.size + 1 + 1 + 1]? = _) := (H5.out.zs _ (List.mem_cons_of_mem _ (List.mem_cons_self ..))).1
  have HK : Hid _ := H5.out.at_
  clear H5 H0
  go_region
  all_goals go_wp2
  · have hne : w.heap.size + 1 + 1 ≠ w.heap.size + 1 + 1 + 1 := by omega
    refine bodyPost_ret (v := .tuple #[.agg #[.string S, .int .i64 k5, .int .i64 (chgS s).2], recV (chgR s r) ta tc da dc]) (results_two rfl _ rfl rfl (fin_ab HA.out HC.out hne).1 (fin_ab HA.out HC.out hne).2) rfl ⟨k5, hk5, HK.out, rfl, ?_⟩
    exact (set12_below _ _ _ _ _ _ _ _ _ _ _ _ (below_set (below_set (below_set HB.out (by omega)) (by omega)) (by omega)) (by omega)).drew

end Go.Proofs.Ytjhjicokbdloiaa
