/-
  Leads and Victim; what a nil graph answers.
-/
import Derived.Test.YtclppfljengnbaaGreatGRdI
namespace Go.Proofs.YtclppfljengnbaaGreat.Gr
open Go.RowKit Go.Maps

set_option maxRecDepth 100000 in
set_option maxHeartbeats 1000000 in
theorem victim23 {w : World} {p N : Nat} {E : List (Lit × Lit)} {S : Nat → Prop} {z : Int} {a : Lit} (g : Gr 3 154 w p N E S) (hz : keyOf Tryz.prog 3 (.int .i64 z) = some a) (hE : E.length ≤ 100000) :
    Calls Tryz.prog 42 #[.pointer (some ⟨p, 0, none⟩), .int .i64 z] w fun e w' => ∃ R : List Int, e = .returned (.tuple #[.int .i64 (R.getLastD 0), .bool (!R.isEmpty)]) ∧ IsRingI E a R ∧ Below w.heap.size w w' := by
  go_enter Tryz.func42, Tryz.ntmps42
  go_wp2_with fail
  refine (ringI g hz hE).mono ?_
  rintro e w1 ⟨va, vc, R, rfl, hr, hb, hR, hl⟩
  rcases List.eq_nil_or_concat R with rfl | ⟨R, x, rfl⟩
  · have HR := toHid hR
    clear hR hr
    go_wp2
    go_ret2
    exact ⟨[], rfl, HR.out, hb⟩
  · rw [List.concat_eq_append] at *
    have hlen : (R ++ [x]).length = R.length + 1 := by simp
    rw [hlen] at hr hl ⊢
    rw [List.map_append] at hr
    obtain ⟨g', rfl, hr1, hc, hcap⟩ := own_last hr
    have HR := toHid hR
    have hc' : w1.cell? ⟨g', R.length, none⟩ = some (.int .i64 x) := hc
    have hp1 : (R.length : Int) < (R.length : Int) + 1 := by omega
    have hp2 : 0 ≤ (R.length : Int) := by omega
    clear hR hr hr1 hc hlen
    go_wp2
    go_ret2
    exact ⟨R ++ [x], by simp, HR.out, hb⟩

theorem ringNil (w : World) (v : Value) : Calls Tryz.prog 68 #[.pointer none, v] w fun e w' => e = .returned (.slice none 0 0) ∧ w' = w := by
  go_enter Tryz.func68, Tryz.ntmps68
  go_wp2
  go_ret
  exact ⟨rfl, rfl⟩
theorem victimNil (w : World) (v : Value) : Calls Tryz.prog 42 #[.pointer none, v] w fun e w' => e = .returned (.tuple #[.int .i64 0, .bool false]) ∧ w' = w := by
  go_enter Tryz.func42, Tryz.ntmps42
  go_wp2_with (go_at_call 68; refine (ringNil _ _).mono ?_; rintro e w' ⟨rfl, hw⟩; subst w')
  go_ret2
  exact ⟨rfl, rfl⟩
end Go.Proofs.YtclppfljengnbaaGreat.Gr
