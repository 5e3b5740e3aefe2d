/-
  The law OwnOne: where a run stands in memory.
-/
import Derived.Test.YtdlanenbbmnbhaaAr
import Derived.Test.YtdlanenbbmnbhaaMo
import Derived.Test.YtdlanenbbmnbhaaCj
import Derived.Test.YtdlanenbbmnbhaaQt
import Derived.Deep.DeepCutAuto
import Derived.Deep.CutBlock
namespace Go.Proofs.Ytdlanenbbmnbhaa
open Go.RowKit

/-- Where a run stands in memory. -/
structure Sw (w0 w : World) (p q g1 g2 : Nat) (l : List Lf) (f : Nat → Int) (g : Nat → Bool) : Prop where
  bk : Bk w p q l
  bel : Below w0.heap.size w0 w
  a1 : w.heap[g1]? = some (.cells (AI f) 37)
  a2 : w.heap[g2]? = some (.cells (AB g) 38)
theorem Sw.one {w0 w w' : World} {p q g1 g2 : Nat} {l l2 : List Lf} {f : Nat → Int} {g : Nat → Bool} (h : Sw w0 w p q g1 g2 l f g) (hb : Bk w' p q l2) (ho : One q w w') (hq : w0.heap.size ≤ q) (h1 : g1 ≠ q) (h2 : g2 ≠ q) : Sw w0 w' p q g1 g2 l2 f g :=
  ⟨hb, h.bel.trans (ho.below hq h.bel.size), ho.at h.a1 h1, ho.at h.a2 h2⟩
theorem Sw.below {w0 w w' : World} {p q g1 g2 : Nat} {l : List Lf} {f : Nat → Int} {g : Nat → Bool} (h : Sw w0 w p q g1 g2 l f g) (hb : Below w.heap.size w w') : Sw w0 w' p q g1 g2 l f g :=
  ⟨h.bk.below hb, h.bel.trans (hb.mono h.bel.size), by rw [hb.block _ (blk_lt h.a1)]; exact h.a1, by rw [hb.block _ (blk_lt h.a2)]; exact h.a2⟩
theorem Sw.drew {w0 w : World} {p q g1 g2 : Nat} {l : List Lf} {f : Nat → Int} {g : Nat → Bool} (h : Sw w0 w p q g1 g2 l f g) : Sw w0 w.drew p q g1 g2 l f g := ⟨h.bk.drew, h.bel.drew, h.a1, h.a2⟩
theorem Sw.drewN {w0 w : World} {p q g1 g2 : Nat} {l : List Lf} {f : Nat → Int} {g : Nat → Bool} (h : Sw w0 w p q g1 g2 l f g) (n : Nat) : Sw w0 (w.drewN n) p q g1 g2 l f g := ⟨h.bk.drewN n, below_drewN h.bel n, h.a1, h.a2⟩
/-- Blocks that are apart. -/
structure Apart (B p q g1 g2 : Nat) : Prop where
  b1 : B ≤ g1
  b2 : B ≤ g2
  bq : B ≤ q
  p1 : g1 ≠ p
  q1 : g1 ≠ q
  p2 : g2 ≠ p
  q2 : g2 ≠ q
  ne : g1 ≠ g2
theorem Sw.set1 {w0 w : World} {p q g1 g2 : Nat} {l : List Lf} {f : Nat → Int} {g : Nat → Bool} (h : Sw w0 w p q g1 g2 l f g) (A : Apart w0.heap.size p q g1 g2) (j : Nat) (hj : j < 16) (v : Int) : Sw w0 (w.setCell ⟨g1, j, none⟩ (.int .i64 v)) p q g1 g2 l (upd f j v) g :=
  ⟨h.bk.cell h.a1 (by decide) A.p1 A.q1, h.bel.setCell (p := ⟨g1, j, none⟩) A.b1 _, by rw [← AI_set f j hj v]; exact heap_setCell_same w g1 j _ 37 _ h.a1, by rw [heap_setCell_other _ _ _ _ (fun e => A.ne e.symm)]; exact h.a2⟩
theorem Sw.set2 {w0 w : World} {p q g1 g2 : Nat} {l : List Lf} {f : Nat → Int} {g : Nat → Bool} (h : Sw w0 w p q g1 g2 l f g) (A : Apart w0.heap.size p q g1 g2) (j : Nat) (hj : j < 16) (v : Bool) : Sw w0 (w.setCell ⟨g2, j, none⟩ (.bool v)) p q g1 g2 l f (upd g j v) :=
  ⟨h.bk.cell h.a2 (by decide) A.p2 A.q2, h.bel.setCell (p := ⟨g2, j, none⟩) A.b2 _, by rw [heap_setCell_other _ _ _ _ A.ne]; exact h.a1, by rw [← AB_set g j hj v]; exact heap_setCell_same w g2 j _ 38 _ h.a2⟩
theorem one_setRow (g : Nat) (w : World) (cs : Array Value) : One g w (w.setRow g cs) :=
  ⟨rfl, rfl, rfl, by rw [setRow_size]; exact Nat.le_refl _, fun k _ hn => setRow_other _ _ _ _ hn⟩
theorem Sw.row1 {w0 w : World} {p q g1 g2 : Nat} {l : List Lf} {f : Nat → Int} {g : Nat → Bool} (h : Sw w0 w p q g1 g2 l f g) (A : Apart w0.heap.size p q g1 g2) (f2 : Nat → Int) : Sw w0 (w.setRow g1 (AI f2)) p q g1 g2 l f2 g :=
  ⟨h.bk.other g1 (fun M e => by rw [h.a1] at e; simp at e) A.p1 A.q1 (one_setRow _ _ _), below_setRow h.bel g1 _ A.b1, setRow_heap w g1 _ (AI f2) 37 (0, 0) h.a1, by rw [setRow_other _ _ _ _ (fun e => A.ne e.symm)]; exact h.a2⟩
/-- Another row turns. -/
theorem Sw.row {w0 w : World} {p q g1 g2 r T : Nat} {l : List Lf} {f : Nat → Int} {g : Nat → Bool} {M : Array Value} (h : Sw w0 w p q g1 g2 l f g) (hr : w.heap[r]? = some (.cells M T)) (hT : T ≠ 3) (hB : w0.heap.size ≤ r) (hp : r ≠ p) (hq : r ≠ q) (h1 : r ≠ g1) (h2 : r ≠ g2) (cs : Array Value) : Sw w0 (w.setRow r cs) p q g1 g2 l f g :=
  ⟨h.bk.other r (fun M2 e => by rw [hr] at e; simp at e; exact hT e.2) hp hq (one_setRow _ _ _), below_setRow h.bel r _ hB, by rw [setRow_other _ _ _ _ (fun e => h1 e.symm)]; exact h.a1, by rw [setRow_other _ _ _ _ (fun e => h2 e.symm)]; exact h.a2⟩
theorem Sw.lt {w0 w : World} {p q g1 g2 : Nat} {l : List Lf} {f : Nat → Int} {g : Nat → Bool} (h : Sw w0 w p q g1 g2 l f g) : p < w.heap.size ∧ q < w.heap.size ∧ g1 < w.heap.size ∧ g2 < w.heap.size ∧ w0.heap.size ≤ w.heap.size :=
  ⟨h.bk.lt.1, h.bk.lt.2.1, blk_lt h.a1, blk_lt h.a2, h.bel.size⟩
theorem op_cells {w : World} {b : Nat} {k x y : Int} (h : w.heap[b]? = some (.cells #[.int .i64 k, .int .i64 x, .int .i64 y] 34)) : w.cell? ⟨b, 0, none⟩ = some (.int .i64 k) ∧ w.cell? ⟨b, 1, none⟩ = some (.int .i64 x) ∧ w.cell? ⟨b, 2, none⟩ = some (.int .i64 y) := by
  simp [World.cell?, h]


theorem clearF_nil (f : Nat → Int) : clearF f [] = f := by funext j; simp [clearF]
theorem markG_nil (g : Nat → Bool) : markG g [] = g := by funext j; simp [markG]
theorem SlD.drewN {w : World} {a : Option Addr} {l : List Od} (h : SlD w a l) (n : Nat) : SlD (w.drewN n) a l := ⟨h.nonil, h.cells⟩
/-- A row of numbers lies apart from what is no row of numbers. -/
theorem sl_apart {w : World} {b o : Nat} {l : List Int} {g T : Nat} {M : Array Value} (h : SlI w (some ⟨b, o, none⟩) l) (hl : l ≠ []) (hg : w.heap[g]? = some (.cells M T)) (hT : T ≠ 3) : b ≠ g := fun e => by
  obtain ⟨M2, hM2⟩ := h.typ _ rfl hl
  simp only at hM2
  rw [e, hg] at hM2
  simp at hM2
  exact hT hM2.2
end Go.Proofs.Ytdlanenbbmnbhaa
