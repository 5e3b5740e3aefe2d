/-
  A ring in which one frame is another.
-/
import Derived.Test.YtcloinonhpaojaaFe
namespace Go.Proofs.Ytcloinonhpaojaa.Ck
open Go.RowKit

theorem al1 (w : World) (a : Obj) : (w.alloc a).heap[w.heap.size]? = some a ∧ (w.alloc a).heap.size = w.heap.size + 1 ∧ Below w.heap.size w (w.alloc a) :=
  ⟨heap_alloc_new w a, by simp, (Below.refl _ w).alloc (Nat.le_refl _) _⟩
theorem al2 (w : World) (a b : Obj) : ((w.alloc a).alloc b).heap[w.heap.size]? = some a ∧ ((w.alloc a).alloc b).heap[w.heap.size + 1]? = some b ∧ ((w.alloc a).alloc b).heap.size = w.heap.size + 2 ∧ Below w.heap.size w ((w.alloc a).alloc b) := by
  refine ⟨?_, ?_, by simp, ((Below.refl _ w).alloc (Nat.le_refl _) _).alloc (by simp) _⟩
  · show ((w.heap.push _).push _)[w.heap.size]? = _
    simp only [Array.getElem?_push, Array.size_push]
    rw [if_neg (by omega), if_pos trivial]
  · show ((w.heap.push _).push _)[w.heap.size + 1]? = _
    simp only [Array.getElem?_push, Array.size_push]
    rw [if_pos trivial]
theorem al3 (w : World) (a b c : Obj) : (((w.alloc a).alloc b).alloc c).heap[w.heap.size]? = some a ∧ (((w.alloc a).alloc b).alloc c).heap[w.heap.size + 1]? = some b ∧ (((w.alloc a).alloc b).alloc c).heap[w.heap.size + 1 + 1]? = some c ∧ (((w.alloc a).alloc b).alloc c).heap.size = w.heap.size + 3 ∧ Below w.heap.size w (((w.alloc a).alloc b).alloc c) := by
  refine ⟨?_, ?_, ?_, by simp, (((Below.refl _ w).alloc (Nat.le_refl _) _).alloc (by simp) _).alloc (by simp; omega) _⟩
  · show (((w.heap.push _).push _).push _)[w.heap.size]? = _
    simp only [Array.getElem?_push, Array.size_push]
    rw [if_neg (by omega), if_neg (by omega), if_pos trivial]
  · show (((w.heap.push _).push _).push _)[w.heap.size + 1]? = _
    simp only [Array.getElem?_push, Array.size_push]
    rw [if_neg (by omega), if_pos trivial]
  · show (((w.heap.push _).push _).push _)[w.heap.size + 1 + 1]? = _
    simp only [Array.getElem?_push, Array.size_push]
    rw [if_pos trivial]

/-- A frame stored into a row, then a ring into a block elsewhere. -/
theorem frame_ring {w : World} {g q : Nat} {l : List Fr} {k : Nat} {f : Fr} {u v x y : Value} (h : RowF w g l) (hk : k < l.length) (hq : w.heap[q]? = some (.cells #[x, y] 36)) (hn : q ≠ g) :
    RowF (((((w.setCell ⟨g, k * 3, none⟩ (.int .i64 f.page)).setCell ⟨g, k * 3 + 1, none⟩ (.bool f.used)).setCell ⟨g, k * 3 + 2, none⟩ (.int .i64 f.pins)).setCell ⟨q, 0, none⟩ u).setCell ⟨q, 1, none⟩ v) g (l.set k f) ∧
    (((((w.setCell ⟨g, k * 3, none⟩ (.int .i64 f.page)).setCell ⟨g, k * 3 + 1, none⟩ (.bool f.used)).setCell ⟨g, k * 3 + 2, none⟩ (.int .i64 f.pins)).setCell ⟨q, 0, none⟩ u).setCell ⟨q, 1, none⟩ v).heap[q]? = some (.cells #[u, v] 36) := by
  refine ⟨((h.setAll k hk f).other ⟨q, 0, none⟩ _ hn).other ⟨q, 1, none⟩ _ hn, ring_set (x := x) (y := y) ?_⟩
  rw [heap_setCell_other _ _ _ _ (by simpa using fun e => hn e), heap_setCell_other _ _ _ _ (by simpa using fun e => hn e), heap_setCell_other _ _ _ _ (by simpa using fun e => hn e)]
  exact hq

set_option maxHeartbeats 2000000 in
theorem with_any (a : Option Addr) (c : Nat) (r : Rg) (k : Nat) (f : Fr) (w : World) (h : SlF w a r.fr) (hM : MayR r) (hk : k < r.fr.length) :
    Calls Try.prog 61 #[rgV a c r, .int .i64 (k : Int), .agg (frV f)] w fun e w' => ∃ g c', e = .returned (rgV (some ⟨g, 0, none⟩) c' (withR r k f)) ∧ w.heap.size ≤ g ∧ RowF w' g (withR r k f).fr ∧ Below w.heap.size w w' := by
  have h16 := hM.most
  obtain ⟨pg, u, pn⟩ := f
  simp only [frV]
  go_enter Try.func61, Try.ntmps61
  go_wp2_with fail
  obtain ⟨-, i1, i2, i3, i4⟩ := al3 w (.cells (rgC a c r) 36) (.cells #[.int .i64 pg, .bool u, .int .i64 pn] 123) (.cells #[.slice none 0 0, .int .i64 0] 36)
  generalize World.alloc (World.alloc (World.alloc _ _) _) _ = W at i1 i2 i3 i4 ⊢
  refine Calls.mono (copied_any a c r W (h.below i4) hM) ?_
  rintro e w1 ⟨g, rfl, hg, hrow, hb1⟩
  have hB1 := below_on i4 hb1
  have k0 := box_in' i1 hb1
  have k1 := box_in' i2 hb1
  have hgs : w.heap.size + 3 ≤ g := by omega
  clear i1 i2 i3 i4 hb1 h hg
  have hgl := hrow.lt
  obtain ⟨p0, p1, p2, p3, p4, p5, p6⟩ := cell3 k0
  obtain ⟨x0, x1, x2, x3, x4⟩ := cell2 k1
  obtain ⟨a0, a1, a2, a3, a4, a5⟩ := hrow.at_ k hk
  have HR := toHid hrow
  have HB := toHid hB1
  have HK := toHid k1
  clear hrow hB1 k0 k1
  have hne : ¬ g = w1.heap.size := by omega
  have hne2 : ¬ w.heap.size + 1 = g := by omega
  have hne3 : ¬ w1.heap.size = g := by omega
  have hne4 : ¬ g = w.heap.size + 1 + 1 := by omega
  go_wp2
  obtain ⟨hrow3, k4⟩ := frame_ring (f := ⟨pg, u, pn⟩) (u := .slice (some ⟨g, 0, none⟩) r.fr.length r.fr.length) (v := .int .i64 r.hand) HR.out hk HK.out (by omega)
  have hB3 := ((((HB.out.setCell (p := ⟨g, k * 3, none⟩) (by simp; omega) (.int .i64 pg)).setCell (p := ⟨g, k * 3 + 1, none⟩) (by simp; omega) (.bool u)).setCell (p := ⟨g, k * 3 + 2, none⟩) (by simp; omega) (.int .i64 pn)).setCell (p := ⟨w.heap.size + 1 + 1, 0, none⟩) (by simp; omega) (.slice (some ⟨g, 0, none⟩) r.fr.length r.fr.length)).setCell (p := ⟨w.heap.size + 1 + 1, 1, none⟩) (by simp; omega) (.int .i64 r.hand)
  generalize World.setCell (World.setCell (World.setCell (World.setCell (World.setCell _ _ _) _ _) _ _) _ _) _ _ = W9 at hrow3 k4 hB3 ⊢
  obtain ⟨r0, r1, -⟩ := cell2 (box_in' k4 (al1 W9 (.cells #[.slice (some ⟨g, 0, none⟩) r.fr.length r.fr.length, .int .i64 r.hand] 36)).2.2)
  refine bodyPost_ret (v := rgV (some ⟨g, 0, none⟩) r.fr.length (withR r k ⟨pg, u, pn⟩)) (by simp [results, Try.results61, go_sem, r0, r1, withR]) rfl ?_
  exact ⟨g, r.fr.length, rfl, by omega, hrow3.below (al1 _ _).2.2, below_on hB3 (al1 _ _).2.2⟩
end Go.Proofs.Ytcloinonhpaojaa.Ck
