/-
  The order of a heap, and before, which recovers.
-/
import Derived.Test.YtnejcjebepidcaaProg
import Derived.Test.YtnejcjebepidcaaHm
import Derived.Defers
import Derived.Recover
import Derived.Deep.QuietTactic
import Derived.BigQuiet
namespace Go.Proofs.Ytnejcjebepidcaa
open Go.RowKit

/-- The key of a thing. -/
def RdI (_B : Nat) (_w : World) (v : Value) (k : Int) : Prop := v = .int .i64 k
theorem RdI.low {B : Nat} {w w' : World} {v : Value} {k : Int} (h : RdI B w v k) (_ : Below B w w') : RdI B w' v k := h

theorem lessI (B : Nat) (v v' : Value) (k k' : Int) (w : World) (h : RdI B w v k) (h' : RdI B w v' k') : Calls Try.prog 24 #[v, v'] w fun e w' => e = .returned (.bool (decide (k < k'))) ∧ ∃ n, w' = w.drewN n := by
  unfold RdI at h h'
  subst h h'
  go_enter Try.func24, Try.ntmps24
  go_wp2
  go_ret
  exact ⟨rfl, 0, rfl⟩

theorem idleI (w : World) : CallsD Try.prog 60 #[] .returning w fun e u' w' => e = .returned (.tuple #[]) ∧ u' = .returning ∧ w' = w := by
  refine callsD_of_wpS Try.func60 rfl fun c₀ cs hu => ?_
  apply wpS_region
  simp [wpOpsS, go_sem, recoverD, hu, Try.ntmps60, bodyPostS, results, Try.results60]
  cases c₀
  simp_all

theorem beforeI (B h : Nat) (v v' : Value) (k k' : Int) (w : World) (hc : w.cell? ⟨h, 0, none⟩ = some (.func (.func 24) #[] #[])) (q : RdI B w v k) (q' : RdI B w v' k') :
    Calls Try.prog 57 #[.pointer (some ⟨h, 0, none⟩), v, v'] w fun e w' => e = .returned (.bool (decide (k < k'))) ∧ ∃ n, w' = w.drewN n := by
  have H := toHid <| lessI B v v' k k' w q q'
  go_enter_defers Try.func57, Try.ntmps57
  go_wp2_with fail
  refine Calls.mono H.out ?_
  rintro e w1 ⟨rfl, n, rfl⟩
  clear H
  go_wp2
  refine leaves_cons (f := 60) (args := #[]) (by simp) (by simp [go_sem]) ?_
  refine (idleI _).mono ?_
  rintro e u' w'' ⟨rfl, rfl, rfl⟩
  exact ⟨_, results_tmp rfl _ _ _, rfl, n, rfl⟩

end Go.Proofs.Ytnejcjebepidcaa
