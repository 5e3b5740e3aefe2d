/-
  A slice of steps that came in; the step of a loop.
-/
import Derived.Test.YtbigclhfgcaccaaBg
namespace Go.Proofs.Ytbigclhfgcaccaa
open Go.RowKit

instance : Inhabited Op := ⟨⟨0, 0, 0, 0, 0⟩⟩

/-- A step's cells at a place. -/
structure OpAt (w : World) (b i : Nat) (t : Op) : Prop where
  c0 : w.cell? ⟨b, i, none⟩ = some (.int .i64 t.kind)
  c1 : w.cell? ⟨b, i + 1, none⟩ = some (.int .i64 t.hand)
  c2 : w.cell? ⟨b, i + 2, none⟩ = some (.int .i64 t.place)
  c3 : w.cell? ⟨b, i + 3, none⟩ = some (.int .i64 t.n)
  c4 : w.cell? ⟨b, i + 4, none⟩ = some (.int .u8 (t.fill.toNat : Int))

/-- A slice of steps. -/
structure SlO (w : World) (a : Option Addr) (l : List Op) : Prop where
  nonil : a = none → l = []
  cells : ∀ x, a = some x → ∀ i t, l[i]? = some t → x.spot = none ∧ OpAt w x.block (x.off + i * 5) t
  good : ∀ t ∈ l, GoodO t

theorem OpAt.keep {w w' : World} {b i : Nat} {t : Op} (h : OpAt w b i t) (hk : w'.heap[b]? = w.heap[b]?) : OpAt w' b i t := by
  have e : ∀ j, w'.cell? ⟨b, j, none⟩ = w.cell? ⟨b, j, none⟩ := fun j => World.cell?_of_block hk
  exact ⟨by rw [e]; exact h.c0, by rw [e]; exact h.c1, by rw [e]; exact h.c2, by rw [e]; exact h.c3, by rw [e]; exact h.c4⟩
theorem OpAt.lt {w : World} {b i : Nat} {t : Op} (h : OpAt w b i t) : b < w.heap.size := World.block_lt_of_cell? _ _ h.c0

theorem SlO.on {w w' : World} {a : Option Addr} {l : List Op} (h : SlO w a l) (hk : ∀ k, k < w.heap.size → w'.heap[k]? = w.heap[k]?) : SlO w' a l :=
  ⟨h.nonil, fun x hx i t ht => by
    obtain ⟨h0, h1⟩ := h.cells x hx i t ht
    exact ⟨h0, h1.keep (hk _ h1.lt)⟩, h.good⟩

theorem SlO.at {w : World} {a : Option Addr} {l : List Op} (h : SlO w a l) (i : Nat) (hi : i < l.length) : ∃ b o, a = some ⟨b, o, none⟩ ∧ b < w.heap.size ∧ OpAt w b (o + i * 5) l[i] := by
  cases a with
  | none => have := h.nonil rfl; subst this; simp at hi
  | some x =>
    obtain ⟨b, o, sp⟩ := x
    obtain ⟨h0, h1⟩ := h.cells _ rfl i _ (List.getElem?_eq_getElem hi)
    simp only at h0 h1
    subst h0
    exact ⟨b, o, rfl, h1.lt, h1⟩

end Go.Proofs.Ytbigclhfgcaccaa
