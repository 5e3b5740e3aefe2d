/-
  The order of a heap, and before, which recovers.
-/
import Derived.Test.YtnejcjebepidcaaProg
import Derived.Test.YtnejcjebepidcaaHm
import Derived.Defers
import Derived.Recover
import Derived.Deep.QuietTactic
import Derived.BigQuiet
namespace Go.Proofs.Ytnejcjebepidcaa
open Go.RowKit

/-- The key of a thing. -/
def RdR (B : Nat) (w : World) (v : Value) (k : Int) : Prop := ∃ b o n c, v = .slice (some ⟨b, o, none⟩) (n + 1) c ∧ b < B ∧ w.cell? ⟨b, o + 1, none⟩ = some (.int .u64 k)
theorem RdR.low {B : Nat} {w w' : World} {v : Value} {k : Int} (h : RdR B w v k) (hb : Below B w w') : RdR B w' v k := by
  obtain ⟨b, o, n, c, rfl, h1, h2⟩ := h
  exact ⟨b, o, n, c, rfl, h1, by rw [hb.cell (p := ⟨b, o + 1, none⟩) h1]; exact h2⟩

theorem lessR (B : Nat) (v v' : Value) (k k' : Int) (w : World) (h : RdR B w v k) (h' : RdR B w v' k') : Calls Try.prog 36 #[v, v'] w fun e w' => e = .returned (.bool (decide (k < k'))) ∧ ∃ n, w' = w.drewN n := by
  obtain ⟨b, o, n, c, rfl, -, h2⟩ := h
  obtain ⟨b', o', n', c', rfl, -, h2'⟩ := h'
  have p1 : (0 : Int) < (n : Int) + 1 := by omega
  have p2 : (0 : Int) < (n' : Int) + 1 := by omega
  go_enter Try.func36, Try.ntmps36
  go_wp2_with fail
  go_quiet (fail)
  go_wp2
  go_ret
  exact ⟨rfl, _, rfl⟩

theorem idleR (w : World) : CallsD Try.prog 62 #[] .returning w fun e u' w' => e = .returned (.tuple #[]) ∧ u' = .returning ∧ w' = w := by
  refine callsD_of_wpS Try.func62 rfl fun c₀ cs hu => ?_
  apply wpS_region
  simp [wpOpsS, go_sem, recoverD, hu, Try.ntmps62, bodyPostS, results, Try.results62]
  cases c₀
  simp_all

theorem beforeR (B h : Nat) (v v' : Value) (k k' : Int) (w : World) (hc : w.cell? ⟨h, 0, none⟩ = some (.func (.func 36) #[] #[])) (q : RdR B w v k) (q' : RdR B w v' k') :
    Calls Try.prog 59 #[.pointer (some ⟨h, 0, none⟩), v, v'] w fun e w' => e = .returned (.bool (decide (k < k'))) ∧ ∃ n, w' = w.drewN n := by
  have H := toHid <| lessR B v v' k k' w q q'
  go_enter_defers Try.func59, Try.ntmps59
  go_wp2_with fail
  refine Calls.mono H.out ?_
  rintro e w1 ⟨rfl, n, rfl⟩
  clear H
  go_wp2
  refine leaves_cons (f := 62) (args := #[]) (by simp) (by simp [go_sem]) ?_
  refine (idleR _).mono ?_
  rintro e u' w'' ⟨rfl, rfl, rfl⟩
  exact ⟨_, results_tmp rfl _ _ _, rfl, n, rfl⟩

end Go.Proofs.Ytnejcjebepidcaa
