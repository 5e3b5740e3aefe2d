/-
  PagePlays: a page and the document's side by side.
-/
import Derived.Test.YtoahcihhpimmgaaXb
import Derived.Test.YtoahcihhpimmgaaRu
import Derived.Test.YtoahcihhpimmgaaSt
import Derived.Test.YtoahcihhpimmgaaRg
import Derived.Test.YtoahcihhpimmgaaNe
namespace Go.Proofs.Ytoahcihhpimmgaa
open Go.RowKit

theorem SlC.touch' {w w' : World} {p : Nat} {o : Option Nat} {a : Option Addr} {l : List Cl} (h : SlC w a l) (ht : Touch p o w w') (hs : ∀ y, a = some y → l ≠ [] → y.block ≠ p ∧ o ≠ some y.block) : SlC w' a l :=
  ⟨h.nonil, fun x hx i t hti => by
    obtain ⟨h0, h1, h2, h3⟩ := h.cells x hx i t hti
    have hne := hs x hx (by rintro rfl; simp at hti)
    have hlt := World.block_lt_of_cell? _ _ h1
    have e : ∀ j, w'.cell? ⟨x.block, j, none⟩ = w.cell? ⟨x.block, j, none⟩ := fun j => World.cell?_of_block (w := w) (a := ⟨x.block, j, none⟩) (ht.block _ hlt hne.1 (fun e => hne.2 e.symm))
    exact ⟨h0, by rw [e]; exact h1, by rw [e]; exact h2, by rw [e]; exact h3⟩⟩
theorem slC_lt' {w : World} {a : Option Addr} {l : List Cl} (h : SlC w a l) (y : Addr) (hy : a = some y) (hl : l ≠ []) : y.block < w.heap.size := slC_lt h y hy hl
theorem SlC.put' {w : World} {a : Option Addr} {l : List Cl} (h : SlC w a l) {q i : Nat} (hq : ∀ y, a = some y → l ≠ [] → y.block ≠ q) (u : Value) : SlC (w.setCell ⟨q, i, none⟩ u) a l :=
  ⟨h.nonil, fun x hx j t hti => by
    obtain ⟨h0, h1, h2, h3⟩ := h.cells x hx j t hti
    have hne := hq x hx (by rintro rfl; simp at hti)
    have e : ∀ k, (w.setCell ⟨q, i, none⟩ u).cell? ⟨x.block, k, none⟩ = w.cell? ⟨x.block, k, none⟩ := fun k => World.cell?_of_block (w := w) (a := ⟨x.block, k, none⟩) (heap_setCell_other _ _ _ _ hne)
    exact ⟨h0, by rw [e]; exact h1, by rw [e]; exact h2, by rw [e]; exact h3⟩⟩

/-- A page that has l, and the document's rows that have m; the box Dd lies apart. -/
structure Tw (w W : World) (Dd : Nat) (dA : Array Value) (p id lsn : Nat) (v : Value) (a : Option Addr) (l m : List Cl) : Prop where
  pg : PgOk W w.heap.size p (id : Int) lsn v l
  good : GoodL l
  good' : GoodL m
  hid : id < 16
  hls : lsn < 18446744073709551616
  sl : SlC W a m
  sep : ∀ y, a = some y → m ≠ [] → y.block ≠ p ∧ v.ownBlock ≠ some y.block ∧ y.block ≠ Dd
  box : W.heap[Dd]? = some (.cells dA 33)
  bel : Below w.heap.size w W

section
variable {w W W' : World} {Dd : Nat} {dA : Array Value} {p id lsn : Nat} {v : Value} {a : Option Addr} {l m : List Cl}
theorem Tw.rowk (h : Tw w W Dd dA p id lsn v a l m) {k : Nat} (hk : v.ownBlock = some k) : ∃ cs, W.heap[k]? = some (.cells cs 65) := by
  obtain ⟨av, cv, rfl⟩ := ownsRow_shape h.pg.own
  rcases own_addr h.pg.own with ⟨e, _⟩ | ⟨g, cur, e, _, hg, _⟩
  · rw [e] at hk; simp [Value.ownBlock] at hk
  · rw [e] at hk; simp [Value.ownBlock] at hk; subst hk; exact ⟨_, hg⟩
theorem Tw.kept (h : Tw w W Dd dA p id lsn v a l m) (ht : Touch p v.ownBlock W W') {k t : Nat} {c : Array Value} (hc : W.heap[k]? = some (.cells c t)) (h1 : t ≠ 68) (h2 : t ≠ 65) : W'.heap[k]? = some (.cells c t) := by
  refine (ht.block k (lt_of_blk hc) (kind_ne hc h.pg.blk h1) (fun e => ?_)).trans hc
  obtain ⟨cs, hg⟩ := h.rowk e.symm
  exact kind_ne hc hg h2 rfl
theorem Tw.on (h : Tw w W Dd dA p id lsn v a l m) (hb : Below W.heap.size W W') : Tw w W' Dd dA p id lsn v a l m :=
  ⟨h.pg.below hb (Nat.le_refl _), h.good, h.good', h.hid, h.hls, h.sl.below hb, h.sep, (hb.block _ (lt_of_blk h.box)).trans h.box, h.bel.trans (hb.mono h.bel.size)⟩
theorem Tw.page (h : Tw w W Dd dA p id lsn v a l m) {lsn' : Nat} {v' : Value} {l' : List Cl} (hp : PgOk W' w.heap.size p (id : Int) lsn' v' l') (hg : GoodL l') (hl : lsn' < 18446744073709551616) (ht : Touch p v.ownBlock W W') (hf : Fresh W v v') : Tw w W' Dd dA p id lsn' v' a l' m := by
  refine ⟨hp, hg, h.good', h.hid, hl, h.sl.touch' ht (fun y hy hm => ⟨(h.sep y hy hm).1, (h.sep y hy hm).2.1⟩), fun y hy hm => ⟨(h.sep y hy hm).1, fun e => ?_, (h.sep y hy hm).2.2⟩, h.kept ht h.box (by decide) (by decide), h.bel.trans (h.pg.touched ht)⟩
  rcases hf _ e with e' | e'
  · exact (h.sep y hy hm).2.1 e'
  · have := slC_lt' h.sl y hy hm; omega
theorem Tw.doc (h : Tw w W Dd dA p id lsn v a l m) {a' : Option Addr} {m' : List Cl} (hS : SlC W' a' m') (hg : GoodL m') (hn : (a' = a ∧ m' = m) ∨ ∀ y, a' = some y → W.heap.size ≤ y.block) (hb : Below W.heap.size W W') : Tw w W' Dd dA p id lsn v a' l m' := by
  refine ⟨h.pg.below hb (Nat.le_refl _), h.good, hg, h.hid, h.hls, hS, fun y hy hm => ?_, (hb.block _ (lt_of_blk h.box)).trans h.box, h.bel.trans (hb.mono h.bel.size)⟩
  rcases hn with ⟨e1, e2⟩ | e
  · exact h.sep y (by rw [← e1]; exact hy) (by rw [← e2]; exact hm)
  · have h1 := e y hy
    have h2 := lt_of_blk h.pg.blk
    have h3 := lt_of_blk h.box
    refine ⟨by omega, fun e' => ?_, by omega⟩
    have := ownsRow_lt h.pg.own _ e'
    omega
theorem Tw.put (h : Tw w W Dd dA p id lsn v a l m) {q i : Nat} {c : Array Value} (hc : W.heap[q]? = some (.cells c 33)) (hq : q ≠ Dd) (hw : w.heap.size ≤ q) (ha : ∀ y, a = some y → m ≠ [] → y.block ≠ q) (u : Value) : Tw w (W.setCell ⟨q, i, none⟩ u) Dd dA p id lsn v a l m := by
  have hp : p ≠ q := kind_ne h.pg.blk hc (by decide)
  have hv : v.ownBlock ≠ some q := fun e => by
    obtain ⟨cs, hg⟩ := h.rowk e
    exact kind_ne hc hg (by decide) rfl
  exact ⟨⟨by rw [heap_setCell_other _ _ _ _ hp]; exact h.pg.blk, ownsRow_setCell_other h.pg.own (a := ⟨q, i, none⟩) hv _, h.pg.ne, h.pg.base⟩, h.good, h.good', h.hid, h.hls, h.sl.put' ha u, h.sep, by rw [heap_setCell_other _ _ _ _ (Ne.symm hq)]; exact h.box, h.bel.setCell (p := ⟨q, i, none⟩) hw _⟩
end

theorem put3 {W : World} {q t : Nat} {x y z : Value} (h : W.heap[q]? = some (.cells #[x, y, z] t)) (x' y' z' : Value) : (((W.setCell ⟨q, 0, none⟩ x').setCell ⟨q, 1, none⟩ y').setCell ⟨q, 2, none⟩ z').heap[q]? = some (.cells #[x', y', z'] t) :=
  heap_setCell_same _ _ _ _ _ _ (heap_setCell_same _ _ _ _ _ _ (heap_setCell_same _ _ _ _ _ _ h))
theorem results_tct {fn : Func} {t p u : Tmp} {ty : TypeId} (h : fn.results = #[.tmp t, .cell p ty, .tmp u]) (tmps : Array Value) (P : Program) (w : World) :
    (results fn tmps).run P w =
      ((asAddr (tmps.getD p undef)).run P w).andThen fun a w₁ => ((loadVar ty a).run P w₁).andThen fun v w₂ => .ok (.tuple #[tmps.getD t undef, v, tmps.getD u undef]) w₂ := by
  simp only [results, h]
  simp [Sem.run_bind, Result.andThen]
theorem results_t_c_t {P : Program} {fn : Func} {t p u : Tmp} {ty : TypeId} (h : fn.results = #[.tmp t, .cell p ty, .tmp u]) (tmps : Array Value) (w : World) (g : Nat) (T : TypeId) (cs : Array Value) (fr : Nat × Nat) (d : TypeDesc)
    (hp : tmps.getD p undef = .pointer (some ⟨g, 0, none⟩)) (hg : w.heap[g]? = some (.cells cs T fr))
    (hu : P.underlying ty = some d) (hd : (match d with | .struct _ | .array _ _ => true | _ => false) = true) (hi : (P.info? ty).map (·.size) = some cs.size) :
    (results fn tmps).run P w = .ok (.tuple #[tmps.getD t undef, .agg cs, tmps.getD u undef]) w := by
  rw [results_tct h, hp]
  simp [asAddr, run_loadVar_row w g T ty cs fr d hg hu hd hi]

/-- The boxes of a step. -/
structure Bx (B : Nat) (W : World) (d o z : Array Value) : Prop where
  h0 : W.heap[B]? = some (.cells d 33)
  h1 : W.heap[B + 1]? = some (.cells o 37)
  h2 : W.heap[B + 2]? = some (.cells z 33)
theorem Bx.below {B : Nat} {W W' : World} {d o z : Array Value} (h : Bx B W d o z) (hb : Below W.heap.size W W') : Bx B W' d o z :=
  ⟨(hb.block _ (lt_of_blk h.h0)).trans h.h0, (hb.block _ (lt_of_blk h.h1)).trans h.h1, (hb.block _ (lt_of_blk h.h2)).trans h.h2⟩
theorem Bx.touch {w W W' : World} {Dd : Nat} {dA : Array Value} {p id lsn : Nat} {v : Value} {a : Option Addr} {l m : List Cl} {B : Nat} {d o z : Array Value} (h : Bx B W d o z) (ht : Tw w W Dd dA p id lsn v a l m) (hT : Touch p v.ownBlock W W') : Bx B W' d o z :=
  ⟨ht.kept hT h.h0 (by decide) (by decide), ht.kept hT h.h1 (by decide) (by decide), ht.kept hT h.h2 (by decide) (by decide)⟩
theorem Bx.new (W : World) (d o z : Array Value) : Bx W.heap.size (((W.alloc (.cells d 33)).alloc (.cells o 37)).alloc (.cells z 33)) d o z ∧ Below W.heap.size W (((W.alloc (.cells d 33)).alloc (.cells o 37)).alloc (.cells z 33)) := by
  have h1 : Below W.heap.size W (W.alloc (.cells d 33)) := (Below.refl _ _).alloc (Nat.le_refl _) _
  have h2 : Below W.heap.size W ((W.alloc (.cells d 33)).alloc (.cells o 37)) := h1.alloc h1.size _
  have hb : Below ((W.alloc (.cells d 33)).alloc (.cells o 37)).heap.size ((W.alloc (.cells d 33)).alloc (.cells o 37)) (((W.alloc (.cells d 33)).alloc (.cells o 37)).alloc (.cells z 33)) := (Below.refl _ _).alloc (Nat.le_refl _) _
  have a1 := heap_alloc2_old W (.cells d 33) (.cells o 37)
  have a2 := heap_alloc2_new W (.cells d 33) (.cells o 37)
  have a3 := heap_alloc_new ((W.alloc (.cells d 33)).alloc (.cells o 37)) (.cells z 33)
  have e : ((W.alloc (.cells d 33)).alloc (.cells o 37)).heap.size = W.heap.size + 2 := by simp
  rw [e] at a3
  exact ⟨⟨(hb.block _ (lt_of_blk a1)).trans a1, (hb.block _ (lt_of_blk a2)).trans a2, a3⟩, h2.alloc h2.size _⟩
theorem cell4 {w : World} {g t : Nat} {a b c d : Value} (h : w.heap[g]? = some (.cells #[a, b, c, d] t)) : w.cell? ⟨g, 0, none⟩ = some a ∧ w.cell? ⟨g, 1, none⟩ = some b ∧ w.cell? ⟨g, 2, none⟩ = some c ∧ w.cell? ⟨g, 3, none⟩ = some d :=
  ⟨by simp [World.cell?, h], by simp [World.cell?, h], by simp [World.cell?, h], by simp [World.cell?, h]⟩

/-- What a step leaves. -/
def P14 (w : World) (Dd : Nat) (dA : Array Value) (id : Nat) (e : Ending) (w' : World) : Prop :=
  ∃ (p lsn : Nat) (v : Value) (a : Option Addr) (c : Nat) (l : List Cl), e = .returned (.tuple #[.pointer (some ⟨p, 0, none⟩), .agg #[.int .i64 (id : Int), .int .u64 (lsn : Int), .slice a l.length c], .bool true]) ∧ Tw w w' Dd dA p id lsn v a l l
/-- The answer's box is written. -/
theorem fin14 {w W : World} {Dd : Nat} {dA : Array Value} {p id lsn B : Nat} {v : Value} {a : Option Addr} {l m : List Cl} {d o z : Array Value} (h : Tw w W Dd dA p id lsn v a l m) (hX : Bx B W d o z) (hz : z = #[.int .i64 0, .int .u64 0, .slice none 0 0]) (hB : Dd < B) (hw : w.heap.size ≤ B) (ha : ∀ y, a = some y → m ≠ [] → y.block ≠ B + 2) (x y u : Value) :
    (((W.setCell ⟨B + 2, 0, none⟩ x).setCell ⟨B + 2, 1, none⟩ y).setCell ⟨B + 2, 2, none⟩ u).heap[B + 2]? = some (.cells #[x, y, u] 33) ∧ Tw w (((W.setCell ⟨B + 2, 0, none⟩ x).setCell ⟨B + 2, 1, none⟩ y).setCell ⟨B + 2, 2, none⟩ u) Dd dA p id lsn v a l m := by
  subst hz
  have h2 := hX.h2
  have s1 := heap_setCell_same W (B + 2) 0 _ 33 x h2
  have s2 := heap_setCell_same _ (B + 2) 1 _ 33 y s1
  exact ⟨put3 h2 x y u, ((h.put h2 (by omega) (by omega) ha x).put s1 (by omega) (by omega) ha y).put s2 (by omega) (by omega) ha u⟩

end Go.Proofs.Ytoahcihhpimmgaa
