/-
  The walk of pair: a page that has what some pairs tell, and the document's.
-/
import Derived.Test.YtebchgoaelamcaaDoorRz
import Derived.Test.YtebchgoaelamcaaDoorX8
namespace Go.Proofs.YtebchgoaelamcaaDoor
open Go.RowKit
set_option maxRecDepth 100000

/-- A page in block p, and the document's in block q, that have the same. -/
structure PairOk (w : World) (n p q : Nat) (id : Int) (L : List Cl) (v : Value) (a : Option Addr) (c : Nat) : Prop where
  pg : PgOk w (n + 1) p id 0 v L
  good : GoodL L
  ref : w.heap[q]? = some (.cells #[.int .i64 id, .int .u64 0, .slice a L.length c] 39)
  sl : SlC w a L
  own : ∀ k, v.ownBlock = some k → q < k
  sep : ∀ y, a = some y → L ≠ [] → y.block ≠ p ∧ v.ownBlock ≠ some y.block ∧ q < y.block

theorem SlC.touch {w w' : World} {p : Nat} {o : Option Nat} {a : Option Addr} {l : List Cl} (h : SlC w a l) (ht : Touch p o w w') (hs : ∀ y, a = some y → l ≠ [] → y.block ≠ p ∧ o ≠ some y.block) : SlC w' a l :=
  ⟨h.nonil, fun x hx i t hti => by
    obtain ⟨h0, h1, h2, h3⟩ := h.cells x hx i t hti
    have hne := hs x hx (by rintro rfl; simp at hti)
    have hlt := World.block_lt_of_cell? _ _ h1
    have e : ∀ j, w'.cell? ⟨x.block, j, none⟩ = w.cell? ⟨x.block, j, none⟩ := fun j => World.cell?_of_block (w := w) (a := ⟨x.block, j, none⟩) (ht.block _ hlt hne.1 (fun e => hne.2 e.symm))
    exact ⟨h0, by rw [e]; exact h1, by rw [e]; exact h2, by rw [e]; exact h3⟩⟩

/-- Behind an Insert of the page. -/
theorem PairOk.ins1 {w w' : World} {n p q : Nat} {id : Int} {L L' : List Cl} {v v' : Value} {a : Option Addr} {c : Nat} (h : PairOk w n p q id L v a c) (_hp : PgOk w' (n + 1) p id 0 v' L') (ht : Touch p v.ownBlock w w') (hf : Fresh w v v') (hq : q ≠ p) :
    w'.heap[q]? = some (.cells #[.int .i64 id, .int .u64 0, .slice a L.length c] 39) ∧ SlC w' a L ∧ (∀ k, v'.ownBlock = some k → q < k) ∧ (∀ y, a = some y → L ≠ [] → y.block ≠ p ∧ v'.ownBlock ≠ some y.block ∧ q < y.block) := by
  have hqz := lt_of_blk h.ref
  refine ⟨ht.kept h.ref hq (fun e => by have := h.own _ e; omega), h.sl.touch ht (fun y hy hl => ⟨(h.sep y hy hl).1, (h.sep y hy hl).2.1⟩), fun k hk => ?_, fun y hy hl => ⟨(h.sep y hy hl).1, fun e => ?_, (h.sep y hy hl).2.2⟩⟩
  · rcases hf k hk with e | e
    · exact h.own k e
    · omega
  · rcases hf _ e with e' | e'
    · exact (h.sep y hy hl).2.1 e'
    · have := slC_lt h.sl y hy hl; omega

/-- Behind an Insert of the document's page, stored back. -/
theorem PairOk.ins2 {w w' : World} {n p q : Nat} {id : Int} {L L' : List Cl} {v : Value} {a a' : Option Addr} {c c' : Nat} (hp : PgOk w (n + 1) p id 0 v L') (hg : GoodL L') (hr : w.heap[q]? = some (.cells #[.int .i64 id, .int .u64 0, .slice a L.length c] 39))
    (ho : ∀ k, v.ownBlock = some k → q < k) (hs : ∀ y, a = some y → L ≠ [] → y.block ≠ p ∧ v.ownBlock ≠ some y.block ∧ q < y.block) (hS : SlC w' a' L') (hn : (a' = a ∧ L' = L) ∨ ∀ y, a' = some y → w.heap.size ≤ y.block) (hb : Below w.heap.size w w') (hq : q ≠ p) :
    PairOk (((w'.setCell ⟨q, 0, none⟩ (.int .i64 id)).setCell ⟨q, 1, none⟩ (.int .u64 0)).setCell ⟨q, 2, none⟩ (.slice a' L'.length c')) n p q id L' v a' c' := by
  have hqz := lt_of_blk hr
  have hpz := lt_of_blk hp.blk
  have hr' := box_in' hr hb
  have hsep : ∀ y, a' = some y → L' ≠ [] → y.block ≠ p ∧ v.ownBlock ≠ some y.block ∧ q < y.block := fun y hy hl => by
    rcases hn with ⟨e1, e2⟩ | e
    · exact hs y (by rw [← e1]; exact hy) (by rw [← e2]; exact hl)
    · replace e := e y hy
      refine ⟨by omega, fun e' => ?_, by omega⟩
      have := ownsRow_lt hp.own _ e'
      omega
  have hp' := hp.below hb (Nat.le_refl _)
  have hne : v.ownBlock ≠ some q := fun e => by have := ho _ e; omega
  have h1 := heap_setCell_same w' q 0 _ 39 (.int .i64 id) hr'
  have h2 := heap_setCell_same _ q 1 _ 39 (.int .u64 0) h1
  have h3 := heap_setCell_same _ q 2 _ 39 (.slice a' L'.length c') h2
  have hx : ∀ y, a' = some y → L' ≠ [] → y.block ≠ q := fun y hy hl => by have := (hsep y hy hl).2.2; omega
  refine ⟨⟨?_, ?_, hp'.ne, by have := hp'.base; simpa using this⟩, hg, h3, ((hS.setOther (p := ⟨q, 0, none⟩) hx _).setOther (p := ⟨q, 1, none⟩) hx _).setOther (p := ⟨q, 2, none⟩) hx _, ho, hsep⟩
  · rw [heap_setCell_other _ _ _ _ (Ne.symm hq), heap_setCell_other _ _ _ _ (Ne.symm hq), heap_setCell_other _ _ _ _ (Ne.symm hq)]
    exact hp'.blk
  · exact ownsRow_setCell_other (ownsRow_setCell_other (ownsRow_setCell_other hp'.own (a := ⟨q, 0, none⟩) hne _) (a := ⟨q, 1, none⟩) hne _) (a := ⟨q, 2, none⟩) hne _

end Go.Proofs.YtebchgoaelamcaaDoor
