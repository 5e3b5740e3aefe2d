/-
  The pool asks its store: fetch and lay, which recover.
-/
import Derived.Test.YtcloinonhpaojaaProg
import Derived.Test.YtcloinonhpaojaaQb
import Derived.Test.YtcloinonhpaojaaQf
import Derived.Defers
import Derived.Recover
import Derived.Deep.QuietTactic
namespace Go.Proofs.Ytcloinonhpaojaa
open Go.RowKit

/-- The store in a pool. -/
abbrev stV (d : Nat) : Value := .iface 33 (.pointer (some ⟨d, 0, none⟩))

theorem idle62 (g h : Nat) (w : World) : CallsD Try.prog 62 #[.pointer (some ⟨g, 0, none⟩), .pointer (some ⟨h, 0, none⟩)] .returning w fun e u' w' => e = .returned (.tuple #[]) ∧ u' = .returning ∧ w' = w := by
  refine callsD_of_wpS Try.func62 rfl fun c₀ cs hu => ?_
  apply wpS_seq
  apply wpS_region
  simp [wpOpsS, go_sem, recoverD, hu, Try.ntmps62, Exit.thenS]
  refine wpS_cond (t := false) (by simp [Act.eval, Array.replicate]) ?_
  simp only [Bool.false_eq_true, if_false]
  refine wpS_of_wp (wp_skip ?_)
  cases c₀
  simp_all [bodyPostS, results, Try.results62]
theorem idle69 (g : Nat) (w : World) : CallsD Try.prog 69 #[.pointer (some ⟨g, 0, none⟩)] .returning w fun e u' w' => e = .returned (.tuple #[]) ∧ u' = .returning ∧ w' = w := by
  refine callsD_of_wpS Try.func69 rfl fun c₀ cs hu => ?_
  apply wpS_seq
  apply wpS_region
  simp [wpOpsS, go_sem, recoverD, hu, Try.ntmps69, Exit.thenS]
  refine wpS_cond (t := false) (by simp [Act.eval, Array.replicate]) ?_
  simp only [Bool.false_eq_true, if_false]
  refine wpS_of_wp (wp_skip ?_)
  cases c₀
  simp_all [bodyPostS, results, Try.results69]

theorem m_fetch (a : Addr) (w : World) : (method 279 33 (.pointer (some a)) "Fetch").run Try.prog w = .ok (18, .pointer (some a)) w := by kernel_rfl
theorem m_lay (a : Addr) (w : World) : (method 279 33 (.pointer (some a)) "Lay").run Try.prog w = .ok (118, .pointer (some a)) w := by kernel_rfl
theorem m_stable (a : Addr) (w : World) : (method 279 33 (.pointer (some a)) "Stable").run Try.prog w = .ok (119, .pointer (some a)) w := by kernel_rfl
theorem blk2 (w : World) (x y : Obj) : ((w.alloc x).alloc y).heap[w.heap.size]? = some x ∧ ((w.alloc x).alloc y).heap[w.heap.size + 1]? = some y := by
  refine ⟨heap_second w x y, ?_⟩
  have := heap_alloc_new (w.alloc x) y
  simpa using this

set_option maxRecDepth 20000 in
set_option maxHeartbeats 1000000 in
theorem fetch28 (p d i : Nat) (s : Po) (k : Dk) (w : World) (hp : PoIn w p (stV d) s) (hd : DkIn w d k) (hi : i < 16) :
    Calls Try.prog 28 #[.pointer (some ⟨p, 0, none⟩), .int .i64 (i : Int)] w fun e w' => RetP w w' i (k.lsn i) (k.l i) e := by
  obtain ⟨c0, -, -, -, -, hlt⟩ := hp.cells
  have hn1 : p ≠ w.heap.size := by omega
  have hn2 : p ≠ w.heap.size + 1 := by omega
  have hm := m_fetch
  have HB : Hid (Below w.heap.size w ((w.alloc (.cells #[.pointer none] 50)).alloc (.cells #[.int .i64 0] 31))) := ((Below.refl _ _).alloc (Nat.le_refl _) _).alloc (by simp) _
  have HF := toHid (fetch_any d i k _ (hd.below HB.out) hi)
  clear hp hd
  go_enter_defers Try.func28, Try.ntmps28
  go_wp2_with fail
  refine Calls.mono HF.out ?_
  rintro e w1 ⟨b, v, rfl, hpg, hb1⟩
  clear HF hm c0
  obtain ⟨z0, z1⟩ := blk2 w (.cells #[.pointer none] 50) (.cells #[.int .i64 0] 31)
  have y0 : w1.heap[w.heap.size]? = some (.cells #[.pointer none] 50) := by rw [hb1.block _ (by simp; omega)]; exact z0
  have y1 : w1.heap[w.heap.size + 1]? = some (.cells #[.int .i64 0] 31) := by rw [hb1.block _ (by simp)]; exact z1
  have hB1 := HB.out.trans (hb1.mono HB.out.size)
  have HG : Hid (PgOk w1 w.heap.size b (i : Int) (k.lsn i) v (k.l i)) := ⟨hpg.blk, hpg.own.mono HB.out.size, hpg.ne, Nat.le_trans HB.out.size hpg.base⟩
  have HB1 := toHid hB1
  have s1 : w1.cell? ⟨w.heap.size, 0, none⟩ = some (.pointer none) := by simp [World.cell?, y0]
  have s2 : w1.cell? ⟨w.heap.size + 1, 0, none⟩ = some (.int .i64 0) := by simp [World.cell?, y1]
  have s3 : w1.frozen? ⟨w.heap.size, 0, none⟩ = false := by simp [World.frozen?, y0]
  have s4 : w1.frozen? ⟨w.heap.size + 1, 0, none⟩ = false := by simp [World.frozen?, y1]
  have s5 := blk_lt y1
  have HY0 := toHid y0
  have HY1 := toHid y1
  clear hB1 hb1 hpg z0 z1 y0 y1
  go_wp2
  refine leaves_cons (f := 62) (args := #[.pointer (some ⟨w.heap.size, 0, none⟩), .pointer (some ⟨w.heap.size + 1, 0, none⟩)]) (by simp) (by simp [go_sem]) ?_
  refine (idle62 _ _ _).mono ?_
  rintro e u' w'' ⟨rfl, rfl, rfl⟩
  have r0 : ((w1.setCell ⟨w.heap.size, 0, none⟩ (.pointer (some ⟨b, 0, none⟩))).setCell ⟨w.heap.size + 1, 0, none⟩ (.int .i64 0)).cell? ⟨w.heap.size, 0, none⟩ = some (.pointer (some ⟨b, 0, none⟩)) := by
    have h1 := heap_setCell_same w1 w.heap.size 0 _ 50 (.pointer (some ⟨b, 0, none⟩)) HY0.out
    simp [World.cell?, heap_setCell_other, h1]
  have r1 : ((w1.setCell ⟨w.heap.size, 0, none⟩ (.pointer (some ⟨b, 0, none⟩))).setCell ⟨w.heap.size + 1, 0, none⟩ (.int .i64 0)).cell? ⟨w.heap.size + 1, 0, none⟩ = some (.int .i64 0) := by
    have h1 := heap_setCell_same (w1.setCell ⟨w.heap.size, 0, none⟩ (.pointer (some ⟨b, 0, none⟩))) (w.heap.size + 1) 0 _ 31 (.int .i64 0) (by rw [heap_setCell_other _ _ _ _ (by simp)]; exact HY1.out)
    simp [World.cell?, h1]
  have hpg : PgOk ((w1.setCell ⟨w.heap.size, 0, none⟩ (.pointer (some ⟨b, 0, none⟩))).setCell ⟨w.heap.size + 1, 0, none⟩ (.int .i64 0)) w.heap.size b (i : Int) (k.lsn i) v (k.l i) := by
    have h1 := HG.out.one ((One.of (Below.refl _ _)).set (p := w.heap.size) 0 (.pointer (some ⟨b, 0, none⟩))) HY0.out (by decide) (by decide)
    exact h1.one ((One.of (Below.refl _ _)).set (p := w.heap.size + 1) 0 (.int .i64 0)) (M := #[.int .i64 0]) (t := 31) (by rw [heap_setCell_other _ _ _ _ (by simp)]; exact HY1.out) (by decide) (by decide)
  have hbl := (HB1.out.setCell (p := ⟨w.heap.size, 0, none⟩) (by simp) (.pointer (some ⟨b, 0, none⟩))).setCell (p := ⟨w.heap.size + 1, 0, none⟩) (by simp) (.int .i64 0)
  simp only [Leaves, settle]
  refine ⟨.tuple #[.pointer (some ⟨b, 0, none⟩), .int .i64 0], by simp [results, Try.results28, go_sem, r0, r1], b, v, rfl, hpg, hbl⟩
end Go.Proofs.Ytcloinonhpaojaa
