/-
  Steps that came in.
-/
import Derived.Test.YtcloinonhpaojaaPc
namespace Go.Proofs.Ytcloinonhpaojaa
open Go.RowKit

/-- A step. -/
structure Ov where
  kind : Int
  page : Int
  tm : Nat
  rec_ : Nat
  key : List UInt8
  val : List UInt8
instance : Inhabited Ov := ⟨⟨0, 0, 0, 0, [], []⟩⟩

/-- A step's cells. -/
abbrev Ov.cells (o : Ov) : Array Value := #[.int .i64 o.kind, .int .i64 o.page, .int .u64 (o.tm : Int), .int .u64 (o.rec_ : Int), .string (txt o.key), .string (txt o.val)]
structure Ov.Wf (o : Ov) : Prop where
  key : o.key.length ≤ maxLen
  val : o.val.length ≤ maxLen
  tm : o.tm < 18446744073709551616
  rec_ : o.rec_ < 18446744073709551616

/-- A slice of steps. -/
structure SlO (w : World) (a : Option Addr) (l : List Ov) : Prop where
  nonil : a = none → l = []
  cells : ∀ x, a = some x → ∀ i t, l[i]? = some t → x.spot = none ∧ w.cell? ⟨x.block, x.off + i * 6, none⟩ = some (.int .i64 t.kind) ∧ w.cell? ⟨x.block, x.off + i * 6 + 1, none⟩ = some (.int .i64 t.page) ∧ w.cell? ⟨x.block, x.off + i * 6 + 2, none⟩ = some (.int .u64 (t.tm : Int)) ∧ w.cell? ⟨x.block, x.off + i * 6 + 3, none⟩ = some (.int .u64 (t.rec_ : Int)) ∧ w.cell? ⟨x.block, x.off + i * 6 + 4, none⟩ = some (.string (txt t.key)) ∧ w.cell? ⟨x.block, x.off + i * 6 + 5, none⟩ = some (.string (txt t.val))
  small : ∀ t ∈ l, t.Wf

theorem SlO.below {w w' : World} {B : Nat} {a : Option Addr} {l : List Ov} (h : SlO w a l) (hb : Below B w w') (hB : B = w.heap.size) : SlO w' a l :=
  ⟨h.nonil, fun x hx i t ht => by
    subst hB
    obtain ⟨h0, h1, h2, h3, h4, h5, h6⟩ := h.cells x hx i t ht
    have hlt := World.block_lt_of_cell? _ _ h1
    exact ⟨h0, by rw [hb.cell (by exact hlt)]; exact h1, by rw [hb.cell (by exact hlt)]; exact h2, by rw [hb.cell (by exact hlt)]; exact h3, by rw [hb.cell (by exact hlt)]; exact h4, by rw [hb.cell (by exact hlt)]; exact h5, by rw [hb.cell (by exact hlt)]; exact h6⟩, h.small⟩
theorem SlO.at {w : World} {a : Option Addr} {l : List Ov} (h : SlO w a l) (i : Nat) (hi : i < l.length) : ∃ b o, a = some ⟨b, o, none⟩ ∧ b < w.heap.size ∧
    w.cell? ⟨b, o + i * 6, none⟩ = some (.int .i64 l[i].kind) ∧ w.cell? ⟨b, o + i * 6 + 1, none⟩ = some (.int .i64 l[i].page) ∧ w.cell? ⟨b, o + i * 6 + 2, none⟩ = some (.int .u64 (l[i].tm : Int)) ∧ w.cell? ⟨b, o + i * 6 + 3, none⟩ = some (.int .u64 (l[i].rec_ : Int)) ∧ w.cell? ⟨b, o + i * 6 + 4, none⟩ = some (.string (txt l[i].key)) ∧ w.cell? ⟨b, o + i * 6 + 5, none⟩ = some (.string (txt l[i].val)) := by
  cases a with
  | none => have := h.nonil rfl; subst this; simp at hi
  | some x =>
    obtain ⟨b, o, sp⟩ := x
    obtain ⟨h0, h1, h2, h3, h4, h5, h6⟩ := h.cells _ rfl i _ (List.getElem?_eq_getElem hi)
    simp only at h0 h1 h2 h3 h4 h5 h6
    subst h0
    exact ⟨b, o, rfl, World.block_lt_of_cell? _ _ h1, h1, h2, h3, h4, h5, h6⟩
end Go.Proofs.Ytcloinonhpaojaa
