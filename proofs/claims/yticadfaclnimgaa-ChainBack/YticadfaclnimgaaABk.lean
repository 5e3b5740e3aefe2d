/-
  The record that takes one back.
-/
import Derived.Test.YticadfaclnimgaaAAb
import Derived.Deep.RegionHeld3
namespace Go.Proofs.Yticadfaclnimgaa.Ak
open Go.RowKit
theorem box_in' {W W' : World} {g : Nat} {o : Obj} (h : W.heap[g]? = some o) (hb : Below W.heap.size W W') : W'.heap[g]? = some o := by
  rw [hb.block _ (by have := Array.getElem?_eq_some_iff.mp h; exact this.1)]
  exact h
theorem below_undrew {n : Nat} {w w' : World} (h : Below n w.drew w') : Below n w w' := ⟨h.os, h.tape, h.output, h.size, h.block⟩

/-- A log record, its rows as slices that lie somewhere. -/
structure Rc where
  kind : Int
  lsn : Nat
  txn : Int
  prev : Nat
  undo : Nat
  page : Int
  act : Ac
  ta : Option Addr
  tn : Nat
  tc : Nat
  da : Option Addr
  dn : Nat
  dc : Nat
instance : Inhabited Rc := ⟨⟨0, 0, 0, 0, 0, 0, ⟨0, [], [], []⟩, none, 0, 0, none, 0, 0⟩⟩
abbrev recC (r : Rc) : Array Value := #[.int .i64 r.kind, .int .u64 (r.lsn : Int), .int .i64 r.txn, .int .u64 (r.prev : Int), .int .u64 (r.undo : Int), .int .i64 r.page, .int .i64 r.act.kind, .string (txt r.act.key), .string (txt r.act.old), .string (txt r.act.new), .slice r.ta r.tn r.tc, .slice r.da r.dn r.dc]
abbrev recV (r : Rc) : Value := .agg (recC r)
def Rc.zero : Rc := ⟨0, 0, 0, 0, 0, 0, Ac.zero, none, 0, 0, none, 0, 0⟩
/-- Back. -/
def backR (r : Rc) (l prev undo : Nat) : Rc × Int :=
  if r.kind = 1 ∧ mayA r.act = true then (⟨2, l, r.txn, prev, undo, r.page, turnA r.act, none, 0, 0, none, 0, 0⟩, 0) else (Rc.zero, 1)

theorem cell12 {w : World} {g : Nat} {v0 v1 v2 v3 v4 v5 v6 v7 v8 v9 v10 v11 : Value} {t : TypeId} (h : w.heap[g]? = some (.cells #[v0, v1, v2, v3, v4, v5, v6, v7, v8, v9, v10, v11] t)) :
    w.cell? ⟨g, 0, none⟩ = some v0 ∧ w.cell? ⟨g, 1, none⟩ = some v1 ∧ w.cell? ⟨g, 2, none⟩ = some v2 ∧ w.cell? ⟨g, 3, none⟩ = some v3 ∧ w.cell? ⟨g, 4, none⟩ = some v4 ∧ w.cell? ⟨g, 5, none⟩ = some v5 ∧ w.cell? ⟨g, 6, none⟩ = some v6 ∧ w.cell? ⟨g, 7, none⟩ = some v7 ∧ w.cell? ⟨g, 8, none⟩ = some v8 ∧ w.cell? ⟨g, 9, none⟩ = some v9 ∧ w.cell? ⟨g, 10, none⟩ = some v10 ∧ w.cell? ⟨g, 11, none⟩ = some v11 ∧ g < w.heap.size := by
  have hg := (Array.getElem?_eq_some_iff.mp h).1
  refine ⟨?_, ?_, ?_, ?_, ?_, ?_, ?_, ?_, ?_, ?_, ?_, ?_, hg⟩ <;> simp [World.cell?, h]
theorem frozen12 {w : World} {g : Nat} {v0 v1 v2 v3 v4 v5 v6 v7 v8 v9 v10 v11 : Value} {t : TypeId} (h : w.heap[g]? = some (.cells #[v0, v1, v2, v3, v4, v5, v6, v7, v8, v9, v10, v11] t)) :
    w.frozen? ⟨g, 0, none⟩ = false ∧ w.frozen? ⟨g, 1, none⟩ = false ∧ w.frozen? ⟨g, 2, none⟩ = false ∧ w.frozen? ⟨g, 3, none⟩ = false ∧ w.frozen? ⟨g, 4, none⟩ = false ∧ w.frozen? ⟨g, 5, none⟩ = false ∧ w.frozen? ⟨g, 6, none⟩ = false ∧ w.frozen? ⟨g, 7, none⟩ = false ∧ w.frozen? ⟨g, 8, none⟩ = false ∧ w.frozen? ⟨g, 9, none⟩ = false ∧ w.frozen? ⟨g, 10, none⟩ = false ∧ w.frozen? ⟨g, 11, none⟩ = false := by
  refine ⟨?_, ?_, ?_, ?_, ?_, ?_, ?_, ?_, ?_, ?_, ?_, ?_⟩ <;> simp [World.frozen?, h]
theorem put12 {w : World} {g : Nat} {v0 v1 v2 v3 v4 v5 v6 v7 v8 v9 v10 v11 u0 u1 u2 u3 u4 u5 u6 u7 u8 u9 u10 u11 : Value} {t : TypeId} (h : w.heap[g]? = some (.cells #[v0, v1, v2, v3, v4, v5, v6, v7, v8, v9, v10, v11] t)) :
    ((((((((((((w.setCell ⟨g, 0, none⟩ u0).setCell ⟨g, 1, none⟩ u1).setCell ⟨g, 2, none⟩ u2).setCell ⟨g, 3, none⟩ u3).setCell ⟨g, 4, none⟩ u4).setCell ⟨g, 5, none⟩ u5).setCell ⟨g, 6, none⟩ u6).setCell ⟨g, 7, none⟩ u7).setCell ⟨g, 8, none⟩ u8).setCell ⟨g, 9, none⟩ u9).setCell ⟨g, 10, none⟩ u10).setCell ⟨g, 11, none⟩ u11).heap[g]? = some (.cells #[u0, u1, u2, u3, u4, u5, u6, u7, u8, u9, u10, u11] t) := by
  have h0 : (w.setCell ⟨g, 0, none⟩ u0).heap[g]? = some (.cells #[u0, v1, v2, v3, v4, v5, v6, v7, v8, v9, v10, v11] t) := heap_setCell_same _ _ 0 _ t _ h
  have h1 : ((w.setCell ⟨g, 0, none⟩ u0).setCell ⟨g, 1, none⟩ u1).heap[g]? = some (.cells #[u0, u1, v2, v3, v4, v5, v6, v7, v8, v9, v10, v11] t) := heap_setCell_same _ _ 1 _ t _ h0
  have h2 : (((w.setCell ⟨g, 0, none⟩ u0).setCell ⟨g, 1, none⟩ u1).setCell ⟨g, 2, none⟩ u2).heap[g]? = some (.cells #[u0, u1, u2, v3, v4, v5, v6, v7, v8, v9, v10, v11] t) := heap_setCell_same _ _ 2 _ t _ h1
  have h3 : ((((w.setCell ⟨g, 0, none⟩ u0).setCell ⟨g, 1, none⟩ u1).setCell ⟨g, 2, none⟩ u2).setCell ⟨g, 3, none⟩ u3).heap[g]? = some (.cells #[u0, u1, u2, u3, v4, v5, v6, v7, v8, v9, v10, v11] t) := heap_setCell_same _ _ 3 _ t _ h2
  have h4 : (((((w.setCell ⟨g, 0, none⟩ u0).setCell ⟨g, 1, none⟩ u1).setCell ⟨g, 2, none⟩ u2).setCell ⟨g, 3, none⟩ u3).setCell ⟨g, 4, none⟩ u4).heap[g]? = some (.cells #[u0, u1, u2, u3, u4, v5, v6, v7, v8, v9, v10, v11] t) := heap_setCell_same _ _ 4 _ t _ h3
  have h5 : ((((((w.setCell ⟨g, 0, none⟩ u0).setCell ⟨g, 1, none⟩ u1).setCell ⟨g, 2, none⟩ u2).setCell ⟨g, 3, none⟩ u3).setCell ⟨g, 4, none⟩ u4).setCell ⟨g, 5, none⟩ u5).heap[g]? = some (.cells #[u0, u1, u2, u3, u4, u5, v6, v7, v8, v9, v10, v11] t) := heap_setCell_same _ _ 5 _ t _ h4
  have h6 : (((((((w.setCell ⟨g, 0, none⟩ u0).setCell ⟨g, 1, none⟩ u1).setCell ⟨g, 2, none⟩ u2).setCell ⟨g, 3, none⟩ u3).setCell ⟨g, 4, none⟩ u4).setCell ⟨g, 5, none⟩ u5).setCell ⟨g, 6, none⟩ u6).heap[g]? = some (.cells #[u0, u1, u2, u3, u4, u5, u6, v7, v8, v9, v10, v11] t) := heap_setCell_same _ _ 6 _ t _ h5
  have h7 : ((((((((w.setCell ⟨g, 0, none⟩ u0).setCell ⟨g, 1, none⟩ u1).setCell ⟨g, 2, none⟩ u2).setCell ⟨g, 3, none⟩ u3).setCell ⟨g, 4, none⟩ u4).setCell ⟨g, 5, none⟩ u5).setCell ⟨g, 6, none⟩ u6).setCell ⟨g, 7, none⟩ u7).heap[g]? = some (.cells #[u0, u1, u2, u3, u4, u5, u6, u7, v8, v9, v10, v11] t) := heap_setCell_same _ _ 7 _ t _ h6
  have h8 : (((((((((w.setCell ⟨g, 0, none⟩ u0).setCell ⟨g, 1, none⟩ u1).setCell ⟨g, 2, none⟩ u2).setCell ⟨g, 3, none⟩ u3).setCell ⟨g, 4, none⟩ u4).setCell ⟨g, 5, none⟩ u5).setCell ⟨g, 6, none⟩ u6).setCell ⟨g, 7, none⟩ u7).setCell ⟨g, 8, none⟩ u8).heap[g]? = some (.cells #[u0, u1, u2, u3, u4, u5, u6, u7, u8, v9, v10, v11] t) := heap_setCell_same _ _ 8 _ t _ h7
  have h9 : ((((((((((w.setCell ⟨g, 0, none⟩ u0).setCell ⟨g, 1, none⟩ u1).setCell ⟨g, 2, none⟩ u2).setCell ⟨g, 3, none⟩ u3).setCell ⟨g, 4, none⟩ u4).setCell ⟨g, 5, none⟩ u5).setCell ⟨g, 6, none⟩ u6).setCell ⟨g, 7, none⟩ u7).setCell ⟨g, 8, none⟩ u8).setCell ⟨g, 9, none⟩ u9).heap[g]? = some (.cells #[u0, u1, u2, u3, u4, u5, u6, u7, u8, u9, v10, v11] t) := heap_setCell_same _ _ 9 _ t _ h8
  have h10 : (((((((((((w.setCell ⟨g, 0, none⟩ u0).setCell ⟨g, 1, none⟩ u1).setCell ⟨g, 2, none⟩ u2).setCell ⟨g, 3, none⟩ u3).setCell ⟨g, 4, none⟩ u4).setCell ⟨g, 5, none⟩ u5).setCell ⟨g, 6, none⟩ u6).setCell ⟨g, 7, none⟩ u7).setCell ⟨g, 8, none⟩ u8).setCell ⟨g, 9, none⟩ u9).setCell ⟨g, 10, none⟩ u10).heap[g]? = some (.cells #[u0, u1, u2, u3, u4, u5, u6, u7, u8, u9, u10, v11] t) := heap_setCell_same _ _ 10 _ t _ h9
  have h11 : ((((((((((((w.setCell ⟨g, 0, none⟩ u0).setCell ⟨g, 1, none⟩ u1).setCell ⟨g, 2, none⟩ u2).setCell ⟨g, 3, none⟩ u3).setCell ⟨g, 4, none⟩ u4).setCell ⟨g, 5, none⟩ u5).setCell ⟨g, 6, none⟩ u6).setCell ⟨g, 7, none⟩ u7).setCell ⟨g, 8, none⟩ u8).setCell ⟨g, 9, none⟩ u9).setCell ⟨g, 10, none⟩ u10).setCell ⟨g, 11, none⟩ u11).heap[g]? = some (.cells #[u0, u1, u2, u3, u4, u5, u6, u7, u8, u9, u10, u11] t) := heap_setCell_same _ _ 11 _ t _ h10
  exact h11
theorem keep12 {w : World} {g q : Nat} {o : Obj} (u0 u1 u2 u3 u4 u5 u6 u7 u8 u9 u10 u11 : Value) (h : w.heap[q]? = some o) (hq : q ≠ g) : ((((((((((((w.setCell ⟨g, 0, none⟩ u0).setCell ⟨g, 1, none⟩ u1).setCell ⟨g, 2, none⟩ u2).setCell ⟨g, 3, none⟩ u3).setCell ⟨g, 4, none⟩ u4).setCell ⟨g, 5, none⟩ u5).setCell ⟨g, 6, none⟩ u6).setCell ⟨g, 7, none⟩ u7).setCell ⟨g, 8, none⟩ u8).setCell ⟨g, 9, none⟩ u9).setCell ⟨g, 10, none⟩ u10).setCell ⟨g, 11, none⟩ u11).heap[q]? = some o := by
  rw [heap_setCell_other _ _ _ _ hq, heap_setCell_other _ _ _ _ hq, heap_setCell_other _ _ _ _ hq, heap_setCell_other _ _ _ _ hq, heap_setCell_other _ _ _ _ hq, heap_setCell_other _ _ _ _ hq, heap_setCell_other _ _ _ _ hq, heap_setCell_other _ _ _ _ hq, heap_setCell_other _ _ _ _ hq, heap_setCell_other _ _ _ _ hq, heap_setCell_other _ _ _ _ hq, heap_setCell_other _ _ _ _ hq]
  exact h
theorem below_put12 {w0 w : World} {D g : Nat} (h : Below D w0 w) (hg : D ≤ g) (u0 u1 u2 u3 u4 u5 u6 u7 u8 u9 u10 u11 : Value) : Below D w0 ((((((((((((w.setCell ⟨g, 0, none⟩ u0).setCell ⟨g, 1, none⟩ u1).setCell ⟨g, 2, none⟩ u2).setCell ⟨g, 3, none⟩ u3).setCell ⟨g, 4, none⟩ u4).setCell ⟨g, 5, none⟩ u5).setCell ⟨g, 6, none⟩ u6).setCell ⟨g, 7, none⟩ u7).setCell ⟨g, 8, none⟩ u8).setCell ⟨g, 9, none⟩ u9).setCell ⟨g, 10, none⟩ u10).setCell ⟨g, 11, none⟩ u11) :=
  (((((((((((h.setCell hg _).setCell hg _).setCell hg _).setCell hg _).setCell hg _).setCell hg _).setCell hg _).setCell hg _).setCell hg _).setCell hg _).setCell hg _).setCell hg _

set_option maxRecDepth 20000 in
set_option maxHeartbeats 800000 in
theorem back_any (r : Rc) (l prev undo : Nat) (w : World) : Calls Try.prog 17 #[recV r, .int .u64 (l : Int), .int .u64 (prev : Int), .int .u64 (undo : Int)] w fun e w' => e = .returned (.tuple #[recV (backR r l prev undo).1, .int .i64 (backR r l prev undo).2]) ∧ Below w.heap.size w w' := by
  obtain ⟨kind, lsn, txn, rprev, rundo, page, ⟨k, x, y, z⟩, ta, tn, tc, da, dn, dc⟩ := r
  have HM := (show Hid _ from amay_any k x y z)
  have HB0 : Hid (Below w.heap.size w ((w.alloc (.cells (recC ⟨kind, lsn, txn, rprev, rundo, page, ⟨k, x, y, z⟩, ta, tn, tc, da, dn, dc⟩) 34)).alloc (.cells #[.int .i64 0, .int .u64 0, .int .i64 0, .int .u64 0, .int .u64 0, .int .i64 0, .int .i64 0, .string ⟨#[]⟩, .string ⟨#[]⟩, .string ⟨#[]⟩, .slice none 0 0, .slice none 0 0] 34))) := ((Below.refl _ _).alloc (Nat.le_refl _) _).alloc (by simp) _
  have hQ0 : ((w.alloc (.cells (recC ⟨kind, lsn, txn, rprev, rundo, page, ⟨k, x, y, z⟩, ta, tn, tc, da, dn, dc⟩) 34)).alloc (.cells #[.int .i64 0, .int .u64 0, .int .i64 0, .int .u64 0, .int .u64 0, .int .i64 0, .int .i64 0, .string ⟨#[]⟩, .string ⟨#[]⟩, .string ⟨#[]⟩, .slice none 0 0, .slice none 0 0] 34)).heap[w.heap.size + 1]? = some (.cells #[.int .i64 0, .int .u64 0, .int .i64 0, .int .u64 0, .int .u64 0, .int .i64 0, .int .i64 0, .string ⟨#[]⟩, .string ⟨#[]⟩, .string ⟨#[]⟩, .slice none 0 0, .slice none 0 0] 34) := by
    have := heap_alloc_new (w.alloc (.cells (recC ⟨kind, lsn, txn, rprev, rundo, page, ⟨k, x, y, z⟩, ta, tn, tc, da, dn, dc⟩) 34)) (.cells #[.int .i64 0, .int .u64 0, .int .i64 0, .int .u64 0, .int .u64 0, .int .i64 0, .int .i64 0, .string ⟨#[]⟩, .string ⟨#[]⟩, .string ⟨#[]⟩, .slice none 0 0, .slice none 0 0] 34)
    simpa using this
  by_cases hk : kind = 1
  rotate_left
  · have HE : Hid (backR ⟨kind, lsn, txn, rprev, rundo, page, ⟨k, x, y, z⟩, ta, tn, tc, da, dn, dc⟩ l prev undo = (Rc.zero, 1)) := by show _ = _; simp [backR, hk]
    have b0 : (kind != 1) = true := by simp [hk]
    have b1 : (kind == 1) = false := by simp [hk]
    have hP := put12 (u0 := .int .i64 0) (u1 := .int .u64 0) (u2 := .int .i64 0) (u3 := .int .u64 0) (u4 := .int .u64 0) (u5 := .int .i64 0) (u6 := .int .i64 0) (u7 := .string ⟨#[]⟩) (u8 := .string ⟨#[]⟩) (u9 := .string ⟨#[]⟩) (u10 := .slice none 0 0) (u11 := .slice none 0 0) hQ0
    obtain ⟨r0, r1, r2, r3, r4, r5, r6, r7, r8, r9, r10, r11, _⟩ := cell12 hP
    have HBf := (show Hid _ from below_put12 HB0.out (show w.heap.size ≤ w.heap.size + 1 by omega) (.int .i64 0) (.int .u64 0) (.int .i64 0) (.int .u64 0) (.int .u64 0) (.int .i64 0) (.int .i64 0) (.string ⟨#[]⟩) (.string ⟨#[]⟩) (.string ⟨#[]⟩) (.slice none 0 0) (.slice none 0 0))
    clear hP hQ0 hk HM
    simp only [recV, recC] at *
    go_enter Try.func17, Try.ntmps17
    go_wp2
    (try simp only [Exit.inBlock, Exit.then])
    rw [HE.out]
    refine bodyPost_ret (v := .tuple #[recV Rc.zero, .int .i64 1]) ?_ rfl ⟨rfl, ?_⟩
    · rw [results_cell_tmp rfl]
      simp only [recV, recC, Rc.zero, Ac.zero, txt]
      go_simp
    · first | with_reducible exact HB0.out | with_reducible exact HBf.out
  subst hk
  clear hQ0
  simp only [recV, recC] at *
  go_enter Try.func17, Try.ntmps17
  go_wp2_with fail
  refine Calls.mono (HM.out _) ?_
  rintro e w1 ⟨rfl, hb1⟩
  have HB1 := (show Hid _ from below_on HB0.out hb1)
  obtain ⟨hk1, hq1⟩ := two_kept hb1
  obtain ⟨c0, c1, c2, c3, c4, c5, c6, c7, c8, c9, c10, c11, hz⟩ := cell12 hk1
  obtain ⟨d0, d1, d2, d3, d4, d5, d6, d7, d8, d9, d10, d11, hz2⟩ := cell12 hq1
  obtain ⟨f0, f1, f2, f3, f4, f5, f6, f7, f8, f9, f10, f11⟩ := frozen12 hq1
  have HK1 := (show Hid _ from hk1)
  have HQ1 := (show Hid _ from hq1)
  clear hb1 hk1 hq1 HB0 HM
  cases hm : actB k x y z
  · have HE : Hid (backR ⟨1, lsn, txn, rprev, rundo, page, ⟨k, x, y, z⟩, ta, tn, tc, da, dn, dc⟩ l prev undo = (Rc.zero, 1)) := by show _ = _; simp [backR, mayA, hm]
    have hP := put12 (u0 := .int .i64 0) (u1 := .int .u64 0) (u2 := .int .i64 0) (u3 := .int .u64 0) (u4 := .int .u64 0) (u5 := .int .i64 0) (u6 := .int .i64 0) (u7 := .string ⟨#[]⟩) (u8 := .string ⟨#[]⟩) (u9 := .string ⟨#[]⟩) (u10 := .slice none 0 0) (u11 := .slice none 0 0) HQ1.out
    obtain ⟨r0, r1, r2, r3, r4, r5, r6, r7, r8, r9, r10, r11, _⟩ := cell12 hP
    have HBf := (show Hid _ from below_put12 HB1.out (show w.heap.size ≤ w.heap.size + 1 by omega) (.int .i64 0) (.int .u64 0) (.int .i64 0) (.int .u64 0) (.int .u64 0) (.int .i64 0) (.int .i64 0) (.string ⟨#[]⟩) (.string ⟨#[]⟩) (.string ⟨#[]⟩) (.slice none 0 0) (.slice none 0 0))
    clear hP hm
    go_wp2
    (try simp only [Exit.inBlock, Exit.then])
    rw [HE.out]
    refine bodyPost_ret (v := .tuple #[recV Rc.zero, .int .i64 1]) ?_ rfl ⟨rfl, by with_reducible exact HBf.out⟩
    rw [results_cell_tmp rfl]
    simp only [recV, recC, Rc.zero, Ac.zero, txt]
    go_simp
  · have HT := (show Hid _ from turn_any ⟨k, x, y, z⟩)
    obtain ⟨tk, tx, ty, tz, he⟩ : ∃ tk tx ty tz, turnA ⟨k, x, y, z⟩ = ⟨tk, tx, ty, tz⟩ := ⟨_, _, _, _, rfl⟩
    have HE : Hid (backR ⟨1, lsn, txn, rprev, rundo, page, ⟨k, x, y, z⟩, ta, tn, tc, da, dn, dc⟩ l prev undo = (⟨2, l, txn, prev, undo, page, ⟨tk, tx, ty, tz⟩, none, 0, 0, none, 0, 0⟩, 0)) := by show _ = _; simp [backR, mayA, hm, he]
    rw [he] at HT
    simp only [actV, actC] at HT
    clear he hm
    go_wp2_with fail
    refine wp_region_held_drew (S := (fun W => W.cell? ⟨w.heap.size, 2, none⟩ = some (.int .i64 txn) ∧ W.cell? ⟨w.heap.size, 5, none⟩ = some (.int .i64 page) ∧ W.cell? ⟨w.heap.size, 6, none⟩ = some (.int .i64 k) ∧ W.cell? ⟨w.heap.size, 7, none⟩ = some (.string (txt x)) ∧ W.cell? ⟨w.heap.size, 8, none⟩ = some (.string (txt y)) ∧ W.cell? ⟨w.heap.size, 9, none⟩ = some (.string (txt z)))) (by kernel_rfl) ⟨c2, c5, c6, c7, c8, c9⟩ (fun hHeld => ?_)
    clear c0 c1 c2 c3 c4 c5 c6 c7 c8 c9 c10 c11 d0 d1 d2 d3 d4 d5 d6 d7 d8 d9 d10 d11 f0 f1 f2 f3 f4 f5 f6 f7 f8 f9 f10 f11
    refine wpAnyH_take (i := 0) (v := ?_) rfl (by kernel_rfl) (by kernel_rfl) (by kernel_rfl) (fun _ _ _ h => h) (Or.inl ⟨by rfl, ?_⟩) (by assumption) ?_
    rotate_left
    · (intro W hSw; (try dsimp only at hSw); go_simp; try with_reducible rfl)
    try simp only [Act.put, List.getElem_toArray, List.getElem_cons_zero, List.setIfInBounds_toArray, List.set_cons_zero, List.set_cons_succ]
    refine wpAnyH_take (i := 1) (v := ?_) rfl (by kernel_rfl) (by kernel_rfl) (by kernel_rfl) (fun _ _ _ h => h) (Or.inl ⟨by rfl, ?_⟩) (by assumption) ?_
    rotate_left
    · (intro W hSw; (try dsimp only at hSw); go_simp; try with_reducible rfl)
    try simp only [Act.put, List.getElem_toArray, List.getElem_cons_zero, List.getElem_cons_succ, List.setIfInBounds_toArray, List.set_cons_zero, List.set_cons_succ]
    refine wpAnyH_take (i := 2) (v := ?_) rfl (by kernel_rfl) (by kernel_rfl) (by kernel_rfl) (fun _ _ _ h => h) (Or.inl ⟨by rfl, ?_⟩) (by assumption) ?_
    rotate_left
    · (intro W hSw; (try dsimp only at hSw); go_simp; try with_reducible rfl)
    try simp only [Act.put, List.getElem_toArray, List.getElem_cons_zero, List.getElem_cons_succ, List.setIfInBounds_toArray, List.set_cons_zero, List.set_cons_succ]
    refine wpAnyH_take (i := 3) (v := ?_) rfl (by kernel_rfl) (by kernel_rfl) (by kernel_rfl) (fun _ _ _ h => h) (Or.inl ⟨by rfl, ?_⟩) (by assumption) ?_
    rotate_left
    · (intro W hSw; (try dsimp only at hSw); go_simp; try with_reducible rfl)
    try simp only [Act.put, List.getElem_toArray, List.getElem_cons_zero, List.getElem_cons_succ, List.setIfInBounds_toArray, List.set_cons_zero, List.set_cons_succ]
    refine wpAnyH_take (i := 4) (v := ?_) rfl (by kernel_rfl) (by kernel_rfl) (by kernel_rfl) (fun _ _ _ h => h) (Or.inl ⟨by rfl, ?_⟩) (by assumption) ?_
    rotate_left
    · (intro W hSw; (try dsimp only at hSw); go_simp; try with_reducible rfl)
    try simp only [Act.put, List.getElem_toArray, List.getElem_cons_zero, List.getElem_cons_succ, List.setIfInBounds_toArray, List.set_cons_zero, List.set_cons_succ]
    refine wpAnyH_take (i := 5) (v := ?_) rfl (by kernel_rfl) (by kernel_rfl) (by kernel_rfl) (fun _ _ _ h => h) (Or.inl ⟨by rfl, ?_⟩) (by assumption) ?_
    rotate_left
    · (intro W hSw; (try dsimp only at hSw); go_simp; try with_reducible rfl)
    try simp only [Act.put, List.getElem_toArray, List.getElem_cons_zero, List.getElem_cons_succ, List.setIfInBounds_toArray, List.set_cons_zero, List.set_cons_succ]
    refine wpAnyH_take (i := 6) (v := ?_) rfl (by kernel_rfl) (by kernel_rfl) (by kernel_rfl) (fun _ _ _ h => h) (Or.inl ⟨by rfl, ?_⟩) (by assumption) ?_
    rotate_left
    · (intro W hSw; (try dsimp only at hSw); go_simp; try with_reducible rfl)
    try simp only [Act.put, List.getElem_toArray, List.getElem_cons_zero, List.getElem_cons_succ, List.setIfInBounds_toArray, List.set_cons_zero, List.set_cons_succ]
    refine wpAnyH_take (i := 7) (v := ?_) rfl (by kernel_rfl) (by kernel_rfl) (by kernel_rfl) (fun _ _ _ h => h) (Or.inl ⟨by rfl, ?_⟩) (by assumption) ?_
    rotate_left
    · (intro W hSw; (try dsimp only at hSw); go_simp; try with_reducible rfl)
    try simp only [Act.put, List.getElem_toArray, List.getElem_cons_zero, List.getElem_cons_succ, List.setIfInBounds_toArray, List.set_cons_zero, List.set_cons_succ]
    refine wpAnyH_take (i := 8) (v := ?_) rfl (by kernel_rfl) (by kernel_rfl) (by kernel_rfl) (fun _ _ _ h => h) (Or.inl ⟨by rfl, ?_⟩) (by assumption) ?_
    rotate_left
    · (intro W hSw; (try dsimp only at hSw); go_simp; try with_reducible rfl)
    try simp only [Act.put, List.getElem_toArray, List.getElem_cons_zero, List.getElem_cons_succ, List.setIfInBounds_toArray, List.set_cons_zero, List.set_cons_succ]
    refine wpAnyH_ready (rs := [9]) (by kernel_rfl) (by simp) ?_
    refine AllReadyH.cons rfl (fun K hK => ?_) AllReadyH.nil
    go_simp
    refine Calls.mono (HT.out _) ?_
    clear hHeld
    rintro e w2 ⟨rfl, hb2⟩
    have HB2 := (show Hid _ from below_on HB1.out (below_undrew hb2))
    have hk2 := box_in' HK1.out (below_undrew hb2)
    have hq2 := box_in' HQ1.out (below_undrew hb2)
    obtain ⟨c0, c1, c2, c3, c4, c5, c6, c7, c8, c9, c10, c11, hz⟩ := cell12 hk2
    obtain ⟨d0, d1, d2, d3, d4, d5, d6, d7, d8, d9, d10, d11, hz2⟩ := cell12 hq2
    obtain ⟨f0, f1, f2, f3, f4, f5, f6, f7, f8, f9, f10, f11⟩ := frozen12 hq2
    have HK2 := (show Hid _ from hk2)
    have HQ2 := (show Hid _ from hq2)
    clear hb2 hk2 hq2
    try go_wp2_with fail
    refine hK.out _ _ (⟨c2, c5, c6, c7, c8, c9⟩) (fun hHeld => ?_)
    clear hK K
    try simp only [Act.put, List.getElem_toArray, List.getElem_cons_zero, List.getElem_cons_succ, List.setIfInBounds_toArray, List.set_cons_zero, List.set_cons_succ]
    refine wpAnyH_take (i := 10) (v := ?_) rfl (by kernel_rfl) (by kernel_rfl) (by kernel_rfl) (fun _ _ _ h => h) (Or.inl ⟨by rfl, ?_⟩) (by assumption) ?_
    rotate_left
    · (intro W hSw; (try dsimp only at hSw); go_simp; try with_reducible rfl)
    try simp only [Act.put, List.getElem_toArray, List.getElem_cons_zero, List.getElem_cons_succ, List.setIfInBounds_toArray, List.set_cons_zero, List.set_cons_succ]
    have hP := put12 (u0 := .int .i64 2) (u1 := .int .u64 (l : Int)) (u2 := .int .i64 txn) (u3 := .int .u64 (prev : Int)) (u4 := .int .u64 (undo : Int)) (u5 := .int .i64 page) (u6 := .int .i64 tk) (u7 := .string (txt tx)) (u8 := .string (txt ty)) (u9 := .string (txt tz)) (u10 := .slice none 0 0) (u11 := .slice none 0 0) HQ2.out
    obtain ⟨r0, r1, r2, r3, r4, r5, r6, r7, r8, r9, r10, r11, _⟩ := cell12 hP
    have HBf := (show Hid _ from below_put12 HB2.out (show w.heap.size ≤ w.heap.size + 1 by omega) (.int .i64 2) (.int .u64 (l : Int)) (.int .i64 txn) (.int .u64 (prev : Int)) (.int .u64 (undo : Int)) (.int .i64 page) (.int .i64 tk) (.string (txt tx)) (.string (txt ty)) (.string (txt tz)) (.slice none 0 0) (.slice none 0 0))
    have hkf := keep12 (.int .i64 2) (.int .u64 (l : Int)) (.int .i64 txn) (.int .u64 (prev : Int)) (.int .u64 (undo : Int)) (.int .i64 page) (.int .i64 tk) (.string (txt tx)) (.string (txt ty)) (.string (txt tz)) (.slice none 0 0) (.slice none 0 0) HK2.out (show w.heap.size ≠ w.heap.size + 1 by omega)
    obtain ⟨s0, s1, s2, s3, s4, s5, s6, s7, s8, s9, s10, s11, _⟩ := cell12 hkf
    clear hP hkf s0 s1 s3 s4 s10 s11
    refine wpAnyH_ready (rs := [11]) (by kernel_rfl) (by simp) ?_
    refine AllReadyH.cons rfl (fun K hK => ?_) AllReadyH.nil
    go_simp
    try go_wp2_with fail
    refine hK.out _ _ ⟨s2, s5, s6, s7, s8, s9⟩ (fun hHeld => ?_)
    clear hK K
    try simp only [Act.put, List.getElem_toArray, List.getElem_cons_zero, List.getElem_cons_succ, List.setIfInBounds_toArray, List.set_cons_zero, List.set_cons_succ]
    refine wpAnyH_take (i := 12) (v := ?_) rfl (by kernel_rfl) (by kernel_rfl) (by kernel_rfl) (fun _ _ _ h => h) (Or.inl ⟨by rfl, ?_⟩) (by assumption) ?_
    rotate_left
    · (intro W hSw; (try dsimp only at hSw); go_simp; try with_reducible rfl)
    try simp only [Act.put, List.getElem_toArray, List.getElem_cons_zero, List.getElem_cons_succ, List.setIfInBounds_toArray, List.set_cons_zero, List.set_cons_succ]
    refine wpAnyH_done (by kernel_rfl) ?_ _
    clear hHeld
    go_wp2
    (try simp only [Exit.inBlock, Exit.then])
    rw [HE.out]
    refine bodyPost_ret (v := .tuple #[recV ⟨2, l, txn, prev, undo, page, ⟨tk, tx, ty, tz⟩, none, 0, 0, none, 0, 0⟩, .int .i64 0]) ?_ rfl ⟨rfl, by with_reducible exact HBf.out⟩
    rw [results_cell_tmp rfl]
    simp only [recV, recC]
    go_simp
end Go.Proofs.Yticadfaclnimgaa.Ak
