/-
  What each kind of record does, as a row of functions.
-/
import Derived.Test.YticadfaclnimgaaDd
import Derived.Test.YticadfaclnimgaaDe
import Derived.Deep.WholeRow
namespace Go.Proofs.Yticadfaclnimgaa
open Go.RowKit Go.Maps

theorem wpList_store_new {P : Program} {ops : Array Oper} {rest : List Oper} {op : Oper} {a : Act} {w : World} {Q : Exit → Act → World → Prop} (hgd : op.guard = none) (ty : TypeId) (x y : Operand) (ho : op.op = .store ty x y)
    (hx : a.eval x = .pointer (some ⟨w.heap.size, 0, none⟩)) (c' : Array Value) (hy : a.eval y = .agg c') (c : Array Value) (hi : (P.info? ty).map (·.size) = some c'.size) (hsz : c.size = c'.size) (h1 : c'.all (·.oneCell') = true)
    (hd : op.dst = none) (h : wpList P ops Q rest a (w.alloc (.cells c' ty))) : wpList P ops Q (op :: rest) a (w.alloc (.cells c ty)) :=
  wpList_plain hgd fun _ hK => by
    unfold Oper.wp execOp
    simp only [ho, hx, hy, run_storeAt_new w ty c c' hi hsz h1, Sem.run_bind, Sem.run_pure, Result.andThen_ok]
    exact hK _ _ (by rw [hd]; exact h)

def deedsV : Array Value := #[.nilFunc, .func (.func 41) #[] #[], .func (.func 42) #[] #[], .func (.func 43) #[] #[], .func (.func 44) #[] #[], .func (.func 45) #[] #[], .func (.func 46) #[] #[], .nilFunc, .nilFunc]
set_option maxRecDepth 100000 in
theorem deeds27 (w : World) : Calls Try.prog 27 #[] w fun e w' => e = .returned (.agg deedsV) ∧ Below w.heap.size w w' := by
  go_enter Try.func27, Try.ntmps27
  go_wp2_with (refine wpList_store_new rfl 78 _ _ rfl rfl deedsV rfl _ (by kernel_rfl) rfl (by kernel_rfl) rfl ?_)
  refine bodyPost_ret (v := .agg deedsV) ?_ rfl ⟨rfl, (Below.refl _ _).alloc (Nat.le_refl _) _⟩
  exact results_cell_row (P := Try.prog) Try.results27 _ _ w.heap.size 78 deedsV (0, 0) _ rfl (heap_alloc_new w _) Try.underlying78 rfl (by kernel_rfl)
/-- The function of a kind. -/
theorem index78 (w : World) (k : Nat) (hk : k < 9) : (Instr.index 78 (.agg deedsV) (.int .i64 (k : Int))).run Try.prog w = .ok (deedsV.getD k .nilFunc) w := by
  obtain rfl | rfl | rfl | rfl | rfl | rfl | rfl | rfl | rfl : k = 0 ∨ k = 1 ∨ k = 2 ∨ k = 3 ∨ k = 4 ∨ k = 5 ∨ k = 6 ∨ k = 7 ∨ k = 8 := by omega
  all_goals kernel_rfl
end Go.Proofs.Yticadfaclnimgaa
