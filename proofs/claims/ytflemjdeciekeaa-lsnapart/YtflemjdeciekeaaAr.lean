/-
  Slices that came in: of numbers and of bools.
-/
import Derived.Test.YtflemjdeciekeaaTi
import Derived.ProofKit
import Derived.OpenShut
import Derived.SizedLaws
import Derived.Deep.Grids
namespace Go.Proofs.Ytflemjdeciekeaa
open Go.ChangeShapes Go.WideShapes Go.ChangeAt Go.RowKit

theorem Try.own : ownKnob Try.prog.godebug = none := by kernel_rfl
theorem Try.laidOut : laidOutB Try.prog = true := by kernel_rfl
theorem Try.cells22 : Try.prog.cellsOf 22 = 1 := by kernel_rfl
theorem Try.cells4 : Try.prog.cellsOf 4 = 1 := by kernel_rfl

/-- The slice a holds the values xs, a cell each. -/
structure SlV (w : World) (a : Option Addr) (xs : List Value) : Prop where
  nonil : a = none → xs = []
  cells : ∀ x, a = some x → ∀ j u, xs[j]? = some u → w.cell? (x.add j) = some u

theorem SlV.empty {w : World} {a : Option Addr} : SlV w a [] := ⟨fun _ => rfl, fun x _ j u hu => by simp at hu⟩

theorem SlV.below {w w' : World} {a : Option Addr} {xs : List Value} (h : SlV w a xs) (hb : Below w.heap.size w w') : SlV w' a xs :=
  ⟨h.nonil, fun x hx j u hu => by have := h.cells x hx j u hu; rw [hb.cell (World.block_lt_of_cell? _ _ this)]; exact this⟩

theorem SlV.at {w : World} {a : Option Addr} {xs : List Value} (h : SlV w a xs) (j : Nat) (u : Value) (hu : xs[j]? = some u) : ∃ g o, a = some ⟨g, o, none⟩ ∧ w.cell? ⟨g, o + j, none⟩ = some u ∧ g < w.heap.size := by
  cases a with
  | none => have := h.nonil rfl; subst this; simp at hu
  | some x =>
    obtain ⟨g, o, sp⟩ := x
    have hj := (List.getElem?_eq_some_iff.1 hu).1
    have h0 := h.cells _ rfl 0 (xs[0]'(by omega)) (List.getElem?_eq_getElem (by omega))
    have hs := World.cell?_spot h0
    obtain rfl : sp = none := by simpa [Addr.add] using hs
    have hc := h.cells _ rfl j u hu
    have e : (⟨g, o, none⟩ : Addr).add j = ⟨g, o + j, none⟩ := by unfold Addr.add; split <;> simp_all
    rw [e] at hc
    exact ⟨g, o, rfl, hc, World.block_lt_of_cell? _ _ hc⟩

/-- Numbers and bools as cells. -/
def u64s (l : List Nat) : List Value := l.map fun (n : Nat) => Value.int .u64 (n : Int)
def boolsV (l : List Bool) : List Value := l.map fun b => Value.bool b

theorem u64s_length (l : List Nat) : (u64s l).length = l.length := by simp [u64s]
theorem u64s_append (l m : List Nat) : u64s (l ++ m) = u64s l ++ u64s m := by simp [u64s]
theorem u64s_at (l : List Nat) (j : Nat) (hj : j < l.length) : (u64s l)[j]? = some (.int .u64 ((l[j]'hj : Nat) : Int)) := by simp [u64s, List.getElem?_eq_getElem hj]
theorem boolsV_at (l : List Bool) (j : Nat) (hj : j < l.length) : (boolsV l)[j]? = some (.bool (l[j]'hj)) := by simp [boolsV, List.getElem?_eq_getElem hj]

theorem open_u64s {H : Type} {enc : TypeId × Value → H} {P : Program} {W : World} {base : Nat} {spare : Nat → Bool} {held : Bool} {fuel : Nat} {t e : TypeId} {a : Option Addr} {n c : Nat} {x : DataW H × List MemPlace}
    (ht : P.underlying t = some (.slice e)) (he : P.underlying e = some (.int .u64)) (hc : P.cellsOf e = 1)
    (hf : DataW.trod enc P W base spare held fuel t [.slice a n c] = some x) :
    ∃ l : List Nat, n = l.length ∧ SlV W a (u64s l) ∧ (∀ y ∈ l, y < 18446744073709551616) ∧ l.length ≤ c ∧ c ≤ maxLen ∧ (a = none → c = 0) := by
  rcases open_ints ht he hc hf with ⟨hcs, _⟩ | ⟨y, ln, cp, zs, hcs, _, hl, hm, hz, hx, hcell, hwz⟩
  · simp at hcs
    obtain ⟨rfl, rfl, rfl⟩ := hcs
    exact ⟨[], rfl, SlV.empty, by simp, by simp, by simp, fun _ => rfl⟩
  · simp at hcs
    obtain ⟨rfl, rfl, rfl⟩ := hcs
    have hlz : n ≤ zs.length := by rw [hz]; split <;> omega
    have hb : ∀ m ∈ zs, 0 ≤ m ∧ m ≤ 18446744073709551615 := fun m hm => by simpa [Lit.wf, IntKind.min, IntKind.max, IntKind.signed, IntKind.bits] using hwz m hm
    refine ⟨(zs.take n).map Int.toNat, by simp; omega, ⟨fun h => by simp at h, fun y hy j u hu => ?_⟩, ?_, by simp; omega, hm, fun h => by simp at h⟩
    · simp at hy
      subst hy
      have hj : j < n := by have := (List.getElem?_eq_some_iff.1 hu).1; simp [u64s] at this; omega
      have hj2 : j < zs.length := by omega
      rw [hcell j hj2]
      simp [u64s, hj2, hj] at hu
      subst hu
      have := hb zs[j] (List.getElem_mem hj2)
      simp [List.getD, List.getElem?_eq_getElem hj2]
      omega
    · intro m hm
      obtain ⟨z, hz, rfl⟩ := List.mem_map.1 hm
      have := hb z (List.mem_of_mem_take hz)
      omega

theorem open_boolsV {H : Type} {enc : TypeId × Value → H} {P : Program} {W : World} {base : Nat} {held : Bool} {fuel : Nat} {t e : TypeId} {a : Option Addr} {n c : Nat} {x : DataW H × List MemPlace}
    (ht : P.underlying t = some (.slice e)) (he : P.underlying e = some .bool) (hc : P.cellsOf e = 1)
    (hf : DataW.trod enc P W base (fun _ => true) held fuel t [.slice a n c] = some x) :
    ∃ l : List Bool, n = l.length ∧ SlV W a (boolsV l) ∧ l.length ≤ c ∧ c ≤ maxLen ∧ (a = none → c = 0) := by
  rcases Deep.open_bools ht he hc hf with ⟨hcs, _⟩ | ⟨y, ln, cp, B, hcs, _, hl, hm, hx, hcell⟩
  · simp at hcs
    obtain ⟨rfl, rfl, rfl⟩ := hcs
    exact ⟨[], rfl, SlV.empty, by simp, by simp, fun _ => rfl⟩
  · simp at hcs
    obtain ⟨rfl, rfl, rfl⟩ := hcs
    refine ⟨(List.range n).map B, by simp, ⟨fun h => by simp at h, fun y hy j u hu => ?_⟩, by simpa using hl, hm, fun h => by simp at h⟩
    simp at hy
    subst hy
    have hj : j < n := by have := (List.getElem?_eq_some_iff.1 hu).1; simp [boolsV] at this; omega
    rw [hcell j (by omega)]
    simp [boolsV, hj] at hu
    rw [hu]
end Go.Proofs.Ytflemjdeciekeaa
