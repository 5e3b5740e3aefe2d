/-
  Slices that came in: of numbers.
-/
import Derived.Test.YticgonloglkooaaRj
import Derived.ProofKit
import Derived.OpenShut
import Derived.SizedLaws
import Derived.ChangeMaps5
namespace Go.Proofs.Yticgonloglkooaa
open Go.ChangeShapes Go.WideShapes Go.ChangeAt Go.RowKit

theorem Try.own : ownKnob Try.prog.godebug = none := by kernel_rfl
theorem Try.laidOut : laidOutB Try.prog = true := by kernel_rfl
theorem Try.cells3 : Try.prog.cellsOf 3 = 1 := by kernel_rfl

/-- The slice a holds the values xs, a cell each. -/
structure SlV (w : World) (a : Option Addr) (xs : List Value) : Prop where
  nonil : a = none → xs = []
  cells : ∀ x, a = some x → ∀ j u, xs[j]? = some u → w.cell? (x.add j) = some u

theorem SlV.empty {w : World} {a : Option Addr} : SlV w a [] := ⟨fun _ => rfl, fun x _ j u hu => by simp at hu⟩

theorem SlV.below {w w' : World} {a : Option Addr} {xs : List Value} (h : SlV w a xs) (hb : Below w.heap.size w w') : SlV w' a xs :=
  ⟨h.nonil, fun x hx j u hu => by have := h.cells x hx j u hu; rw [hb.cell (World.block_lt_of_cell? _ _ this)]; exact this⟩

theorem SlV.at {w : World} {a : Option Addr} {xs : List Value} (h : SlV w a xs) (j : Nat) (u : Value) (hu : xs[j]? = some u) : ∃ g o, a = some ⟨g, o, none⟩ ∧ w.cell? ⟨g, o + j, none⟩ = some u ∧ g < w.heap.size := by
  cases a with
  | none => have := h.nonil rfl; subst this; simp at hu
  | some x =>
    obtain ⟨g, o, sp⟩ := x
    have hj := (List.getElem?_eq_some_iff.1 hu).1
    have h0 := h.cells _ rfl 0 (xs[0]'(by omega)) (List.getElem?_eq_getElem (by omega))
    have hs := World.cell?_spot h0
    obtain rfl : sp = none := by simpa [Addr.add] using hs
    have hc := h.cells _ rfl j u hu
    have e : (⟨g, o, none⟩ : Addr).add j = ⟨g, o + j, none⟩ := by unfold Addr.add; split <;> simp_all
    rw [e] at hc
    exact ⟨g, o, rfl, hc, World.block_lt_of_cell? _ _ hc⟩

/-- Numbers as cells. -/
def i64s (l : List Int) : List Value := l.map fun n => Value.int .i64 n

theorem i64s_length (l : List Int) : (i64s l).length = l.length := by simp [i64s]
theorem i64s_append (l m : List Int) : i64s (l ++ m) = i64s l ++ i64s m := by simp [i64s]
theorem i64s_at (l : List Int) (j : Nat) (hj : j < l.length) : (i64s l)[j]? = some (.int .i64 (l[j]'hj)) := by simp [i64s, List.getElem?_eq_getElem hj]

theorem open_i64s {H : Type} {enc : TypeId × Value → H} {P : Program} {W : World} {base : Nat} {spare : Nat → Bool} {held : Bool} {fuel : Nat} {t e : TypeId} {a : Option Addr} {n c : Nat} {x : DataW H × List MemPlace}
    (ht : P.underlying t = some (.slice e)) (he : P.underlying e = some (.int .i64)) (hc : P.cellsOf e = 1)
    (hf : DataW.trod enc P W base spare held fuel t [.slice a n c] = some x) :
    ∃ l : List Int, n = l.length ∧ SlV W a (i64s l) ∧ l.length ≤ c ∧ c ≤ maxLen ∧ (a = none → c = 0) := by
  rcases open_ints ht he hc hf with ⟨hcs, _⟩ | ⟨y, ln, cp, zs, hcs, _, hl, hm, hz, hx, hcell, hwz⟩
  · simp at hcs
    obtain ⟨rfl, rfl, rfl⟩ := hcs
    exact ⟨[], rfl, SlV.empty, by simp, by simp, fun _ => rfl⟩
  · simp at hcs
    obtain ⟨rfl, rfl, rfl⟩ := hcs
    have hlz : n ≤ zs.length := by rw [hz]; split <;> omega
    refine ⟨zs.take n, by simp; omega, ⟨fun h => by simp at h, fun y hy j u hu => ?_⟩, by simp; omega, hm, fun h => by simp at h⟩
    simp at hy
    subst hy
    have hj : j < n := by have := (List.getElem?_eq_some_iff.1 hu).1; simp [i64s] at this; omega
    have hj2 : j < zs.length := by omega
    rw [hcell j hj2]
    simp [i64s, hj2, hj] at hu
    subst hu
    simp [List.getD, List.getElem?_eq_getElem hj2]
end Go.Proofs.Yticgonloglkooaa
