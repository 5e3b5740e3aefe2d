/-
  Slices of changes and of pairs that came in.
-/
import Derived.Test.YtebchgoaelamcaaDoorAa
namespace Go.Proofs.YtebchgoaelamcaaDoor
open Go.RowKit
set_option maxRecDepth 100000

instance : Inhabited Ac := ⟨⟨0, [], [], []⟩⟩

/-- A slice of changes. -/
structure SlA (w : World) (a : Option Addr) (l : List Ac) : Prop where
  nonil : a = none → l = []
  cells : ∀ x, a = some x → ∀ i t, l[i]? = some t → x.spot = none ∧ w.cell? ⟨x.block, x.off + i * 4, none⟩ = some (.int .i64 t.kind) ∧ w.cell? ⟨x.block, x.off + i * 4 + 1, none⟩ = some (.string (txt t.key)) ∧ w.cell? ⟨x.block, x.off + i * 4 + 2, none⟩ = some (.string (txt t.old)) ∧ w.cell? ⟨x.block, x.off + i * 4 + 3, none⟩ = some (.string (txt t.new))
  small : ∀ t ∈ l, t.key.length ≤ maxLen ∧ t.old.length ≤ maxLen ∧ t.new.length ≤ maxLen

theorem SlA.below {w w' : World} {a : Option Addr} {l : List Ac} {D : Nat} (h : SlA w a l) (hb : Below D w w') (hD : ∀ x, a = some x → x.block < D) : SlA w' a l :=
  ⟨h.nonil, fun x hx i t ht => by
    obtain ⟨h0, h1, h2, h3, h4⟩ := h.cells x hx i t ht
    have hlt := hD x hx
    exact ⟨h0, by rw [hb.cell (by exact hlt)]; exact h1, by rw [hb.cell (by exact hlt)]; exact h2, by rw [hb.cell (by exact hlt)]; exact h3, by rw [hb.cell (by exact hlt)]; exact h4⟩, h.small⟩

theorem SlA.on {w w' : World} {a : Option Addr} {l : List Ac} (h : SlA w a l) (hb : Below w.heap.size w w') : SlA w' a l :=
  ⟨h.nonil, fun x hx i t ht => by
    obtain ⟨h0, h1, h2, h3, h4⟩ := h.cells x hx i t ht
    have hlt := World.block_lt_of_cell? _ _ h1
    exact ⟨h0, by rw [hb.cell (by exact hlt)]; exact h1, by rw [hb.cell (by exact hlt)]; exact h2, by rw [hb.cell (by exact hlt)]; exact h3, by rw [hb.cell (by exact hlt)]; exact h4⟩, h.small⟩

theorem SlA.at {w : World} {a : Option Addr} {l : List Ac} (h : SlA w a l) (i : Nat) (hi : i < l.length) : ∃ b o, a = some ⟨b, o, none⟩ ∧ b < w.heap.size ∧
    w.cell? ⟨b, o + i * 4, none⟩ = some (.int .i64 l[i].kind) ∧ w.cell? ⟨b, o + i * 4 + 1, none⟩ = some (.string (txt l[i].key)) ∧ w.cell? ⟨b, o + i * 4 + 2, none⟩ = some (.string (txt l[i].old)) ∧ w.cell? ⟨b, o + i * 4 + 3, none⟩ = some (.string (txt l[i].new)) := by
  cases a with
  | none => have := h.nonil rfl; subst this; simp at hi
  | some x =>
    obtain ⟨b, o, sp⟩ := x
    obtain ⟨h0, h1, h2, h3, h4⟩ := h.cells _ rfl i _ (List.getElem?_eq_getElem hi)
    simp only at h0 h1 h2 h3 h4
    subst h0
    exact ⟨b, o, rfl, World.block_lt_of_cell? _ _ h1, h1, h2, h3, h4⟩

/-- A key and its value. -/
structure Pr where
  key : List UInt8
  val : List UInt8
deriving DecidableEq
instance : Inhabited Pr := ⟨⟨[], []⟩⟩

/-- A slice of pairs. -/
structure SlP (w : World) (a : Option Addr) (l : List Pr) : Prop where
  nonil : a = none → l = []
  cells : ∀ x, a = some x → ∀ i t, l[i]? = some t → x.spot = none ∧ w.cell? ⟨x.block, x.off + i * 2, none⟩ = some (.string (txt t.key)) ∧ w.cell? ⟨x.block, x.off + i * 2 + 1, none⟩ = some (.string (txt t.val))
  small : ∀ t ∈ l, t.key.length ≤ maxLen ∧ t.val.length ≤ maxLen

theorem SlP.on {w w' : World} {a : Option Addr} {l : List Pr} (h : SlP w a l) (hb : Below w.heap.size w w') : SlP w' a l :=
  ⟨h.nonil, fun x hx i t ht => by
    obtain ⟨h0, h1, h2⟩ := h.cells x hx i t ht
    have hlt := World.block_lt_of_cell? _ _ h1
    exact ⟨h0, by rw [hb.cell (by exact hlt)]; exact h1, by rw [hb.cell (by exact hlt)]; exact h2⟩, h.small⟩

theorem SlP.at {w : World} {a : Option Addr} {l : List Pr} (h : SlP w a l) (i : Nat) (hi : i < l.length) : ∃ b o, a = some ⟨b, o, none⟩ ∧ b < w.heap.size ∧
    w.cell? ⟨b, o + i * 2, none⟩ = some (.string (txt l[i].key)) ∧ w.cell? ⟨b, o + i * 2 + 1, none⟩ = some (.string (txt l[i].val)) := by
  cases a with
  | none => have := h.nonil rfl; subst this; simp at hi
  | some x =>
    obtain ⟨b, o, sp⟩ := x
    obtain ⟨h0, h1, h2⟩ := h.cells _ rfl i _ (List.getElem?_eq_getElem hi)
    simp only at h0 h1 h2
    subst h0
    exact ⟨b, o, rfl, World.block_lt_of_cell? _ _ h1, h1, h2⟩

end Go.Proofs.YtebchgoaelamcaaDoor
