/-
  What the functions of layer 4 answer, and their walks: the ones without a loop.
-/
import Derived.WalkKit
import Derived.WalkSpells
import Derived.WalkLawsBesides
import Derived.Deep.RegionLaw
import Derived.Deep.WholeRow
import Derived.Deep.RegionWith
import Derived.Test.YtclppfljengnbaaGreatRows
import Derived.Test.YtclppfljengnbaaGreatChecked
namespace Go.Proofs.YtclppfljengnbaaGreat
open Go.RowKit

/-- The mode as which a number counts. -/
def cnt (m : Int) : Nat := if 0 ≤ m ∧ m < 6 then m.toNat else 5
theorem cnt_yes {m : Int} (h : 0 ≤ m) (h2 : m < 6) : ((cnt m : Nat) : Int) = m := by unfold cnt; rw [if_pos ⟨h, h2⟩]; omega
theorem cnt_no {m : Int} (h : m < 0 ∨ 5 < m) : cnt m = 5 := by unfold cnt; rw [if_neg (by omega)]
theorem cnt_lt (m : Int) : cnt m < 6 := by unfold cnt; split <;> omega
def knB (m : Int) : Bool := decide (0 ≤ m ∧ m < 6)

theorem known_any (m : Int) (w : World) : Calls Tryz.prog 48 #[.int .i64 m] w fun e w' => e = .returned (.bool (knB m)) ∧ w' = w := by
  by_cases h : 0 ≤ m
  · have e : knB m = decide (m < 6) := by simp [knB, h]
    rw [e]
    go_enter Tryz.func48, Tryz.ntmps48
    go_wp2
    go_ret
    exact ⟨rfl, rfl⟩
  · have e : knB m = false := by simp [knB, h]
    rw [e]
    go_enter Tryz.func48, Tryz.ntmps48
    go_wp2
    go_ret
    exact ⟨rfl, rfl⟩

theorem counted_any (m : Int) (w : World) : Calls Tryz.prog 98 #[.int .i64 m] w fun e w' => e = .returned (.int .i64 ((cnt m : Nat) : Int)) ∧ w' = w := by
  have hk := known_any m w
  by_cases h : 0 ≤ m ∧ m < 6
  · rw [show knB m = true by simp [knB, h]] at hk
    rw [cnt_yes h.1 h.2]
    clear h
    go_enter Tryz.func98, Tryz.ntmps98
    go_wp2_with (go_at_call 48; go_must (refine hk.mono ?_); rintro e w' ⟨rfl, hw⟩; obtain rfl := hw.symm)
    go_ret
    exact ⟨rfl, rfl⟩
  · rw [show knB m = false by simp [knB]; omega] at hk
    rw [cnt_no (by omega)]
    clear h
    go_enter Tryz.func98, Tryz.ntmps98
    go_wp2_with (go_at_call 48; go_must (refine hk.mono ?_); rintro e w' ⟨rfl, hw⟩; obtain rfl := hw.symm)
    go_ret
    exact ⟨rfl, rfl⟩

/-- A whole row into the block that was made last. -/
theorem wpList_store_new {P : Program} {ops : Array Oper} {rest : List Oper} {op : Oper} {a : Act} {w : World} {Q : Exit → Act → World → Prop} (hgd : op.guard = none) (ty : TypeId) (x y : Operand) (ho : op.op = .store ty x y)
    (hx : a.eval x = .pointer (some ⟨w.heap.size, 0, none⟩)) (c' : Array Value) (hy : a.eval y = .agg c') (c : Array Value) (hi : (P.info? ty).map (·.size) = some c'.size) (hsz : c.size = c'.size) (h1 : c'.all (·.oneCell') = true)
    (hd : op.dst = none) (h : wpList P ops Q rest a (w.alloc (.cells c' ty))) : wpList P ops Q (op :: rest) a (w.alloc (.cells c ty)) :=
  wpList_plain hgd fun _ hK => by
    unfold Oper.wp execOp
    simp only [ho, hx, hy, run_storeAt_new w ty c c' hi hsz h1, Sem.run_bind, Sem.run_pure, Result.andThen_ok]
    exact hK _ _ (by rw [hd]; exact h)

/-- What goes beside what, cell by cell. -/
def rowsV : Array Value := #[.bool true, .bool true, .bool true, .bool true, .bool true, .bool true,
  .bool true, .bool true, .bool true, .bool true, .bool true, .bool false,
  .bool true, .bool true, .bool true, .bool false, .bool false, .bool false,
  .bool true, .bool true, .bool false, .bool true, .bool false, .bool false,
  .bool true, .bool true, .bool false, .bool false, .bool false, .bool false,
  .bool true, .bool false, .bool false, .bool false, .bool false, .bool false]

set_option maxRecDepth 100000 in
theorem rows_any (w : World) : Calls Tryz.prog 97 #[] w fun e w' => e = .returned (.agg rowsV) ∧ Below w.heap.size w w' := by
  go_enter Tryz.func97, Tryz.ntmps97
  go_wp2_with (refine wpList_store_new rfl 163 _ _ rfl rfl rowsV rfl _ (by kernel_rfl) rfl (by kernel_rfl) rfl ?_)
  refine bodyPost_ret (v := .agg rowsV) ?_ rfl ⟨rfl, (Below.refl _ _).alloc (Nat.le_refl _) _⟩
  exact results_cell_row (P := Tryz.prog) Tryz.results97 _ _ w.heap.size 163 rowsV (0, 0) _ rfl (heap_alloc_new w _) Tryz.underlying163 rfl (by kernel_rfl)

/-- Does y go beside x? -/
def besB (x y : Nat) : Bool :=
  match x with
  | 0 => true
  | 1 => decide (y < 5)
  | 2 => decide (y < 3)
  | 3 => decide (y < 2 ∨ y = 3)
  | 4 => decide (y < 2)
  | _ => decide (y = 0)

/-- A row of six, and what goes beside x. -/
def rowF (f : Nat → Bool) : Array Value := #[.bool (f 0), .bool (f 1), .bool (f 2), .bool (f 3), .bool (f 4), .bool (f 5)]
def rowV (x : Nat) : Array Value := rowF (besB x)

theorem index_rows (x : Nat) (hx : x < 6) (w : World) : (Instr.index 163 (.agg rowsV) (.int .i64 (x : Int))).run Tryz.prog w = .ok (.agg (rowV x)) w := by
  obtain rfl | rfl | rfl | rfl | rfl | rfl : x = 0 ∨ x = 1 ∨ x = 2 ∨ x = 3 ∨ x = 4 ∨ x = 5 := by omega
  all_goals kernel_rfl

theorem index_row (x y : Nat) (hy : y < 6) (w : World) : (Instr.index 162 (.agg (rowV x)) (.int .i64 (y : Int))).run Tryz.prog w = .ok (.bool (besB x y)) w := by
  obtain rfl | rfl | rfl | rfl | rfl | rfl : y = 0 ∨ y = 1 ∨ y = 2 ∨ y = 3 ∨ y = 4 ∨ y = 5 := by omega
  all_goals kernel_rfl

theorem beside_any (a b : Int) (w : World) : Calls Tryz.prog 84 #[.int .i64 a, .int .i64 b] w fun e w' => e = .returned (.bool (besB (cnt a) (cnt b))) ∧ Below w.heap.size w w' := by
  have h1 := index_rows (cnt a) (cnt_lt a)
  have h2 := index_row (cnt a) (cnt b) (cnt_lt b)
  go_enter Tryz.func84, Tryz.ntmps84
  go_wp2_with fail
  go_region_with (first | (go_at_call 97; go_must (refine (rows_any _).mono ?_); rintro e w' ⟨rfl, hb⟩) | (go_at_call 98; go_must (refine (counted_any _ _).mono ?_); rintro e w' ⟨rfl, hw⟩; obtain rfl := hw.symm))
  all_goals
    go_wp2
    go_ret
    exact ⟨rfl, (Below.refl _ _).drew.trans hb⟩
end Go.Proofs.YtclppfljengnbaaGreat
