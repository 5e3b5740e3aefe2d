/-
  The walks of a Clock, and of lives.
-/
import Derived.Test.YtflemjdeciekeaaVa
import Derived.Deep.QuietTactic
import Derived.BigQuiet
namespace Go.Proofs.Ytflemjdeciekeaa
open Go.RowKit

/-- A Clock of the instance i that lies in block p and has the count c. -/
structure COk (w : World) (p : Nat) (i : Int) (c : Nat) : Prop where
  blk : w.heap[p]? = some (.cells #[.int .i64 i, .int .u64 (c : Int)] 52 (0, 0))

theorem two_cells {w : World} {b : Nat} {v u : Value} {t : TypeId} (h : w.heap[b]? = some (.cells #[v, u] t (0, 0))) :
    w.cell? ⟨b, 0, none⟩ = some v ∧ w.cell? ⟨b, 1, none⟩ = some u ∧ w.frozen? ⟨b, 0, none⟩ = false ∧ w.frozen? ⟨b, 1, none⟩ = false := by
  simp [World.cell?, World.frozen?, h]

theorem two_set1 {w : World} {b : Nat} {v u x : Value} {t : TypeId} (h : w.heap[b]? = some (.cells #[v, u] t (0, 0))) : (w.setCell ⟨b, 1, none⟩ x).heap[b]? = some (.cells #[v, x] t (0, 0)) := by
  have hlt := lt_of_block h
  have h' : w.heap[b] = .cells #[v, u] t (0, 0) := by simpa [Array.getElem?_eq_getElem hlt] using h
  show (w.heap.modify b _)[b]? = _
  simp [Array.getElem?_modify, h]

theorem COk.lt {w : World} {p : Nat} {i : Int} {c : Nat} (h : COk w p i c) : p < w.heap.size := lt_of_block h.blk
theorem COk.below {w w' : World} {p D : Nat} {i : Int} {c : Nat} (h : COk w p i c) (hb : Below D w w') (hD : w.heap.size ≤ D) : COk w' p i c :=
  ⟨by rw [hb.block p (by have := h.lt; omega)]; exact h.blk⟩
theorem COk.grown {w w' : World} {p q : Nat} {i : Int} {c : Nat} (h : COk w p i c) (hg : w.grownBy w' (some q)) (hne : p ≠ q) : COk w' p i c :=
  ⟨by rw [hg.block p h.lt (fun e => hne (by simpa using e))]; exact h.blk⟩
theorem COk.drew {w : World} {p : Nat} {i : Int} {c : Nat} (h : COk w p i c) : COk w.drew p i c := ⟨h.blk⟩
theorem COk.drewN {w : World} {p : Nat} {i : Int} {c n : Nat} (h : COk w p i c) : COk (w.drewN n) p i c := ⟨h.blk⟩

theorem gset (w : World) (p q : Nat) (u : Value) : w.grownBy (w.setCell ⟨p, q, none⟩ u) (some p) :=
  ⟨rfl, rfl, rfl, by simp [World.setCell], fun k _ hne => Below.heap_setCell _ _ _ _ (fun e => hne (by rw [e]))⟩
theorem grownBy_drew {w w' : World} {r : Option Nat} (h : w.grownBy w' r) : w.grownBy w'.drew r := ⟨h.os, h.tape, h.output, h.size, h.block⟩
theorem grownBy_drewN {w w' : World} {r : Option Nat} {n : Nat} (h : w.grownBy w' r) : w.grownBy (w'.drewN n) r := ⟨h.os, h.tape, h.output, h.size, h.block⟩

theorem now_any (p : Nat) (i : Int) (c : Nat) (w : World) (h : COk w p i c) : Calls Try.prog 20 #[.pointer (some ⟨p, 0, none⟩)] w fun e w' => e = .returned (.int .u64 (c : Int)) ∧ w' = w := by
  obtain ⟨c0, c1, f0, f1⟩ := two_cells h.blk
  go_enter Try.func20, Try.ntmps20
  go_wp2
  go_ret
  exact ⟨rfl, rfl⟩

theorem now_nil (w : World) : Calls Try.prog 20 #[.pointer none] w fun e w' => e = .returned (.int .u64 0) ∧ w' = w := by
  go_enter Try.func20, Try.ntmps20
  go_wp2
  go_ret
  exact ⟨rfl, rfl⟩

theorem new_yes (i : Int) (w : World) (h0 : 0 ≤ i) (h7 : i < 8) : Calls Try.prog 21 #[.int .i64 i] w fun e w' => e = .returned (.tuple #[.pointer (some ⟨w.heap.size, 0, none⟩), .int .i64 0]) ∧ COk w' w.heap.size i 0 ∧ Below w.heap.size w w' ∧ w'.heap.size = w.heap.size + 1 := by
  have hc := isInst_yes i w h0 h7
  go_enter Try.func21, Try.ntmps21
  go_wp2_with (go_at_call 23; go_must (refine hc.mono ?_); rintro e w' ⟨rfl, hw⟩; obtain rfl := hw.symm)
  refine bodyPost_ret (v := .tuple #[.pointer (some ⟨w.heap.size, 0, none⟩), .int .i64 0]) (by simp [results, Try.results21, go_sem]) rfl ?_
  exact ⟨rfl, ⟨heap_alloc_new _ _⟩, (Below.refl _ _).alloc (Nat.le_refl _) _, by simp⟩

theorem new_no (i : Int) (w : World) (h : i < 0 ∨ 7 < i) : Calls Try.prog 21 #[.int .i64 i] w fun e w' => e = .returned (.tuple #[.pointer none, .int .i64 1]) ∧ w' = w := by
  have hc := isInst_no i w h
  clear h
  go_enter Try.func21, Try.ntmps21
  go_wp2_with (go_at_call 23; go_must (refine hc.mono ?_); rintro e w' ⟨rfl, hw⟩; obtain rfl := hw.symm)
  refine bodyPost_ret (v := .tuple #[.pointer none, .int .i64 1]) (by simp [results, Try.results21, go_sem]) rfl ?_
  exact ⟨rfl, rfl⟩

theorem see_nil (l : Nat) (w : World) : Calls Try.prog 18 #[.pointer none, .int .u64 (l : Int)] w fun e w' => e = .returned (.tuple #[]) ∧ w' = w := by
  go_enter Try.func18, Try.ntmps18
  go_wp2
  go_end0
  exact ⟨rfl, rfl⟩

theorem tick_nil (w : World) : Calls Try.prog 19 #[.pointer none] w fun e w' => e = .returned (.tuple #[.int .u64 0, .int .i64 1]) ∧ w' = w := by
  go_enter Try.func19, Try.ntmps19
  go_wp2
  refine bodyPost_ret (v := .tuple #[.int .u64 0, .int .i64 1]) (by simp [results, Try.results19, go_sem]) rfl ?_
  exact ⟨rfl, rfl⟩
end Go.Proofs.Ytflemjdeciekeaa
