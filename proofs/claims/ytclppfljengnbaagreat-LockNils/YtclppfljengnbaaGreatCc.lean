/-
  What one would have; does it convert; the first of a row; does it go in; is a lock idle.
-/
import Derived.Test.YtclppfljengnbaaGreatCb
import Derived.Deep.RegionHeld3
import Derived.LaidEqlPtr
namespace Go.Proofs.YtclppfljengnbaaGreat
open Go.RowKit Go.Maps

theorem info76 : ∃ j, Tryz.prog.info? 100 = some j ∧ j.size ≠ 0 := by
  have h : (Tryz.prog.info? 100).map (·.size) = some 6 := by kernel_rfl
  cases e : Tryz.prog.info? 100 with
  | none => rw [e] at h; cases h
  | some j => rw [e] at h; exact ⟨j, rfl, by simp at h; omega⟩
/-- Are two who wait one? -/
theorem eqW_same (W : World) (a : Addr) : (binOp .eql 96 (.pointer (some a)) (.pointer (some a))).run Tryz.prog W = .ok (.bool true) W := by
  obtain ⟨j, hj, _⟩ := info76
  exact run_eql_ptr_same W a Tryz.underlying96 hj
theorem eqW_other {W : World} {x y : Nat} {cx cy : Array Value} {tx ty : TypeId} (hne : x ≠ y) (hx : W.heap[x]? = some (.cells cx tx)) (hy : W.heap[y]? = some (.cells cy ty)) :
    (binOp .eql 96 (.pointer (some ⟨x, 0, none⟩)) (.pointer (some ⟨y, 0, none⟩))).run Tryz.prog W = .ok (.bool false) W := by
  obtain ⟨j, hj, hs⟩ := info76
  exact run_eql_ptr_other W Tryz.underlying96 hj hs (fun e => hne (by injection e)) hx hy

theorem cnt_nat {x : Nat} (h : x < 6) : cnt ((x : Nat) : Int) = x := by
  have := cnt_yes (m := (x : Int)) (by omega) (by omega)
  omega

set_option maxRecDepth 100000 in
set_option maxHeartbeats 4000000 in
theorem would61 {w : World} {b : Nat} {x : Nd} {a c : Option Nat} (h : WaitOk w b x a c) (hm : x.m < 6) (hh : x.had < 6) :
    Calls Tryz.prog 85 #[.pointer (some ⟨b, 0, none⟩)] w fun e w' => e = .returned (.int .i64 ((joinN x.had x.m : Nat) : Int)) ∧ Below w.heap.size w w' := by
  obtain ⟨_, _, c2, c3, _⟩ := h.cells
  have hlt := lt_of_heap h
  have hj := fun W => join_any ((x.had : Nat) : Int) ((x.m : Nat) : Int) W
  rw [cnt_nat hm, cnt_nat hh] at hj
  have HC : Hid (∀ W, Below w.heap.size w W → W.cell? ⟨b, 2, none⟩ = some (.int .i64 ((x.m : Nat) : Int)) ∧ W.cell? ⟨b, 3, none⟩ = some (.int .i64 ((x.had : Nat) : Int))) := fun W hW => ⟨(hW.cell (p := ⟨b, 2, none⟩) hlt).trans c2, (hW.cell (p := ⟨b, 3, none⟩) hlt).trans c3⟩
  clear c2 c3 h
  generalize joinN x.had x.m = j at *
  generalize x.had = u at *
  generalize x.m = v at *
  have hbd : Below w.heap.size w w.drew := (Below.refl _ _).drew
  go_enter Tryz.func85, Tryz.ntmps85
  go_wp2_with fail
  go_region_held3 (fun W => W.cell? ⟨b, 2, none⟩ = some (.int .i64 ((v : Nat) : Int)) ∧ W.cell? ⟨b, 3, none⟩ = some (.int .i64 ((u : Nat) : Int))) (exact HC.out _ (by assumption)) (first | (go_at_call 99; refine (hj _).mono ?_; rintro e w2 ⟨rfl, hb2⟩; have hbn : Below w.heap.size w w2 := hbd.trans hb2))
  go_wp2_with fail
  go_ret
  exact ⟨rfl, hbn⟩

set_option maxRecDepth 100000 in
set_option maxHeartbeats 4000000 in
theorem conv43 {w : World} {b : Nat} {x : Nd} {a c : Option Nat} (h : WaitOk w b x a c) :
    Calls Tryz.prog 75 #[.pointer (some ⟨b, 0, none⟩)] w fun e w' => e = .returned (.bool (decide (x.had ≠ 0))) ∧ w' = w := by
  obtain ⟨_, _, _, c3, _⟩ := h.cells
  clear h
  generalize x.had = u at *
  cases u with
  | zero =>
    go_enter Tryz.func75, Tryz.ntmps75
    go_wp2
    go_ret
    exact ⟨rfl, rfl⟩
  | succ v =>
    have hne : ¬ (((v + 1 : Nat) : Int) = 0) := by omega
    go_enter Tryz.func75, Tryz.ntmps75
    go_wp2
    go_ret
    exact ⟨by simp; omega, rfl⟩

/-- Who stands first in a row. -/
def frst (e : Nat) (x : Option Nat) : Option Nat := if x = some e then none else x

set_option maxRecDepth 100000 in
set_option maxHeartbeats 4000000 in
theorem first44 {w : World} {b e y : Nat} {xd yd : Nd} {a a' c' : Option Nat} (h1 : w.cell? ⟨b, 7, none⟩ = some (ptr (some e))) (h2 : WaitOk w e xd a (some y)) (h3 : WaitOk w y yd a' c') :
    Calls Tryz.prog 76 #[.pointer (some ⟨b, 7, none⟩)] w fun r w' => r = .returned (ptr (frst e (some y))) ∧ Below w.heap.size w w' := by
  obtain ⟨_, _, _, _, _, c5, _⟩ := h2.cells
  rw [ptr_some] at h1 c5
  by_cases hy : y = e
  · subst hy
    rw [show frst y (some y) = none from by simp [frst], ptr_none]
    have he := eqW_same w.drew ⟨y, 0, none⟩
    clear h2 h3
    go_enter Tryz.func76, Tryz.ntmps76
    go_wp2_with fail
    go_region
    all_goals
      go_wp2
      go_ret
      exact ⟨rfl, (Below.refl _ _).drew⟩
  · rw [show frst e (some y) = some y from by simp [frst, hy], ptr_some]
    have he := eqW_other (W := w.drew) hy (show w.drew.heap[y]? = _ from h3) (show w.drew.heap[e]? = _ from h2)
    clear h2 h3
    go_enter Tryz.func76, Tryz.ntmps76
    go_wp2_with fail
    go_region
    all_goals
      go_wp2
      go_ret
      exact ⟨rfl, (Below.refl _ _).drew⟩

end Go.Proofs.YtclppfljengnbaaGreat
