/-
  The Writer's walks.
-/
import Derived.Test.YticnkppnpfgceaaRows
import Derived.Test.YticnkppnpfgceaaBase
namespace Go.Proofs.Yticnkppnpfgceaa
open Go.RowKit

theorem Try.info5 : (Try.prog.info? 5).map (fun i => (i.zero, i.size, i.bytes)) = some (some (.int .u8 0), 1, 1) := by kernel_rfl

/-- A Writer that lies in block p and has laid l; all that it owns lies from block B on. -/
structure WOk (w : World) (B p : Nat) (v : Value) (l : List UInt8) : Prop where
  base : B ≤ p
  blk : w.heap[p]? = some (.cells #[v] 93 (0, 0))
  own : w.ownsRow B 5 1 v l.length (bcells l)

theorem WOk.ne {w : World} {B p : Nat} {v : Value} {l : List UInt8} (h : WOk w B p v l) : v.ownBlock ≠ some p := by
  intro hp
  rcases h.own.2 with ⟨rfl, _⟩ | ⟨g, cap, cur, rfl, _, hh, _⟩
  · simp [Value.ownBlock] at hp
  · simp [Value.ownBlock] at hp
    subst hp
    rw [h.blk] at hh
    simp at hh

theorem WOk.below {w w' : World} {B D p : Nat} {v : Value} {l : List UInt8} (h : WOk w B p v l) (hb : Below D w w') (hD : w.heap.size ≤ D) : WOk w' B p v l :=
  ⟨h.base, by rw [hb.block p (by have := lt_of_block h.blk; omega)]; exact h.blk, ownsRow_below h.own hb (fun k hk => by have := ownsRow_lt h.own k hk; omega)⟩

/-- Behind an append that was stored back. -/
theorem WOk.put {w W2 w1 : World} {B p : Nat} {v v' : Value} {L M : List UInt8} {n : Nat} {xs : List Value} (h : WOk w B p v L) (hb : Below w.heap.size w W2) (hg : W2.grownBy w1 v.ownBlock) (ho : w1.ownsRow B 5 1 v' n xs) (hx : xs = bcells L ++ bcells M) (hn : n = L.length + M.length) : WOk (w1.setCell ⟨p, 0, none⟩ v') B p v' (L ++ M) := by
  have hlt := lt_of_block h.blk
  have hbp : w1.heap[p]? = some (.cells #[v] 93 (0, 0)) := by
    rw [hg.block p (by have := hb.size; omega) (fun e => h.ne e.symm), hb.block p hlt]
    exact h.blk
  subst hx hn
  have hne : v'.ownBlock ≠ some p := by
    intro hp
    rcases ho.2 with ⟨rfl, _⟩ | ⟨g, cap, cur, rfl, _, hh, _⟩
    · simp [Value.ownBlock] at hp
    · simp [Value.ownBlock] at hp
      subst hp
      rw [hbp] at hh
      simp at hh
  refine ⟨h.base, one_setCell hbp, ?_⟩
  have := ownsRow_setCell_other ho (a := ⟨p, 0, none⟩) hne v'
  rw [List.length_append, bcells_append]
  exact this

theorem WOk.grown_blk {w W2 w1 : World} {B p : Nat} {v : Value} {L : List UInt8} (h : WOk w B p v L) (hb : Below w.heap.size w W2) (hg : W2.grownBy w1 v.ownBlock) : w1.heap[p]? = some (.cells #[v] 93 (0, 0)) := by
  have hlt := lt_of_block h.blk
  rw [hg.block p (by have := hb.size; omega) (fun e => h.ne e.symm), hb.block p hlt]
  exact h.blk

theorem WOk.put_below {w0 w W2 w1 : World} {B p : Nat} {v u : Value} {L : List UInt8} (h : WOk w B p v L) (h0 : Below B w0 w) (hb : Below w.heap.size w W2) (hg : W2.grownBy w1 v.ownBlock) : Below B w0 (w1.setCell ⟨p, 0, none⟩ u) := by
  have hlt := lt_of_block h.blk
  have hp := h.base
  refine Below.setCell (Below.grown (h0.trans (hb.mono (by omega))) hg (by have := hb.size; omega) (fun k hk => (h.own.lt k hk).1)) hp _

end Go.Proofs.Yticnkppnpfgceaa
