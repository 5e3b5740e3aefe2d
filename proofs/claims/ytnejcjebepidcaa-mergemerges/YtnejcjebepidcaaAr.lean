/-
  Slices that came in: of numbers and of bools.
-/
import Derived.Test.YtnejcjebepidcaaIa
import Derived.ProofKit
import Derived.OpenShut
import Derived.SizedLaws
import Derived.ChangeMaps5
import Derived.Deep.Grids
namespace Go.Proofs.Ytnejcjebepidcaa
open Go.ChangeShapes Go.WideShapes Go.ChangeAt Go.RowKit

theorem Try.own : ownKnob Try.prog.godebug = none := by kernel_rfl
theorem Try.laidOut : laidOutB Try.prog = true := by kernel_rfl
theorem Try.cells3 : Try.prog.cellsOf 3 = 1 := by kernel_rfl
theorem Try.cells4 : Try.prog.cellsOf 4 = 1 := by kernel_rfl

theorem open_i64s {H : Type} {enc : TypeId × Value → H} {P : Program} {W : World} {base : Nat} {spare : Nat → Bool} {held : Bool} {fuel : Nat} {t e : TypeId} {a : Option Addr} {n c : Nat} {x : DataW H × List MemPlace}
    (ht : P.underlying t = some (.slice e)) (he : P.underlying e = some (.int .i64)) (hc : P.cellsOf e = 1)
    (hf : DataW.trod enc P W base spare held fuel t [.slice a n c] = some x) :
    ∃ l : List Int, n = l.length ∧ SlV W a (i64s l) ∧ l.length ≤ c ∧ c ≤ maxLen ∧ (a = none → c = 0) := by
  rcases open_ints ht he hc hf with ⟨hcs, _⟩ | ⟨y, ln, cp, zs, hcs, _, hl, hm, hz, hx, hcell, hwz⟩
  · simp at hcs
    obtain ⟨rfl, rfl, rfl⟩ := hcs
    exact ⟨[], rfl, SlV.empty, by simp, by simp, fun _ => rfl⟩
  · simp at hcs
    obtain ⟨rfl, rfl, rfl⟩ := hcs
    have hlz : n ≤ zs.length := by rw [hz]; split <;> omega
    refine ⟨zs.take n, by simp; omega, ⟨fun h => by simp at h, fun y hy j u hu => ?_⟩, by simp; omega, hm, fun h => by simp at h⟩
    simp at hy
    subst hy
    have hj : j < n := by have := (List.getElem?_eq_some_iff.1 hu).1; simp [i64s] at this; omega
    have hj2 : j < zs.length := by omega
    rw [hcell j hj2]
    simp [i64s, hj2, hj] at hu
    subst hu
    simp [List.getD, List.getElem?_eq_getElem hj2]

theorem open_boolsV {H : Type} {enc : TypeId × Value → H} {P : Program} {W : World} {base : Nat} {held : Bool} {fuel : Nat} {t e : TypeId} {a : Option Addr} {n c : Nat} {x : DataW H × List MemPlace}
    (ht : P.underlying t = some (.slice e)) (he : P.underlying e = some .bool) (hc : P.cellsOf e = 1)
    (hf : DataW.trod enc P W base (fun _ => true) held fuel t [.slice a n c] = some x) :
    ∃ l : List Bool, n = l.length ∧ SlV W a (boolsV l) ∧ l.length ≤ c ∧ c ≤ maxLen ∧ (a = none → c = 0) := by
  rcases Deep.open_bools ht he hc hf with ⟨hcs, _⟩ | ⟨y, ln, cp, B, hcs, _, hl, hm, hx, hcell⟩
  · simp at hcs
    obtain ⟨rfl, rfl, rfl⟩ := hcs
    exact ⟨[], rfl, SlV.empty, by simp, by simp, fun _ => rfl⟩
  · simp at hcs
    obtain ⟨rfl, rfl, rfl⟩ := hcs
    refine ⟨(List.range n).map B, by simp, ⟨fun h => by simp at h, fun y hy j u hu => ?_⟩, by simpa using hl, hm, fun h => by simp at h⟩
    simp at hy
    subst hy
    have hj : j < n := by have := (List.getElem?_eq_some_iff.1 hu).1; simp [boolsV] at this; omega
    rw [hcell j (by omega)]
    simp [boolsV, hj] at hu
    rw [hu]
end Go.Proofs.Ytnejcjebepidcaa
