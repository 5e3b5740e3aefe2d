/-
  Leads and Victim; what a nil graph answers.
-/
import Derived.Test.YtoihjkpjijncdaaRdI
namespace Go.Proofs.Ytoihjkpjijncdaa
open Go.RowKit Go.Maps

noncomputable instance (E : List (Lit × Lit)) (a b : Lit) : Decidable (Lds (outE E) a b) := Classical.propDecidable _
noncomputable def ldsB (E : List (Lit × Lit)) (a b : Lit) : Bool := decide (Lds (outE E) a b)

set_option maxRecDepth 100000 in
set_option maxHeartbeats 1000000 in
theorem leads20 {w : World} {p N : Nat} {E : List (Lit × Lit)} {S : Nat → Prop} {z y : Int} {a b : Lit} (g : Gr 3 61 w p N E S) (hz : keyOf Try.prog 3 (.int .i64 z) = some a) (hy : keyOf Try.prog 3 (.int .i64 y) = some b) (hE : E.length ≤ 100000) :
    Calls Try.prog 20 #[.pointer (some ⟨p, 0, none⟩), .int .i64 z, .int .i64 y] w fun e w' => e = .returned (.bool (ldsB E a b)) ∧ Below w.heap.size w w' := by
  obtain ⟨A, B, f, h, g, rfl⟩ := g
  have HG := toHid g
  obtain ⟨c0, c1, _, _⟩ := cells3 g.blk
  clear g
  go_enter Try.func20, Try.ntmps20
  go_wp2_with (first
    | (go_at_call 37; refine (reachI HG.out.out hz (E.map Prod.snd) (heads_le E).1 (by simpa using hE)).mono ?_; rintro e w1 ⟨b1, C1, rfl, hb1, hl1, hS1, hn1, hm1', hc1⟩; have HM1 := toHid hm1'; clear hm1')
    | (go_at_call 38; refine (hasI hS1.set hy).mono ?_; rintro e w2 ⟨rfl, hb2⟩)
    | fail)
  go_ret
  have hs1 := hb1.size
  refine ⟨?_, ⟨hb2.os.trans hb1.os, hb2.tape.trans hb1.tape, hb2.output.trans hb1.output, Nat.le_trans hs1 hb2.size, fun i hi => (hb2.block i (by omega)).trans (hb1.block i hi)⟩⟩
  rw [show ldsB E a b = decide (b ∈ C1) by unfold ldsB; exact (decide_eq_decide.2 (HM1.out b)).symm]
  rfl

set_option maxRecDepth 100000 in
set_option maxHeartbeats 1000000 in
theorem victim23 {w : World} {p N : Nat} {E : List (Lit × Lit)} {S : Nat → Prop} {z : Int} {a : Lit} (g : Gr 3 61 w p N E S) (hz : keyOf Try.prog 3 (.int .i64 z) = some a) (hE : E.length ≤ 100000) :
    Calls Try.prog 23 #[.pointer (some ⟨p, 0, none⟩), .int .i64 z] w fun e w' => ∃ R : List Int, e = .returned (.tuple #[.int .i64 (R.getLastD 0), .bool (!R.isEmpty)]) ∧ IsRingI E a R ∧ Below w.heap.size w w' := by
  go_enter Try.func23, Try.ntmps23
  go_wp2_with fail
  refine (ringI g hz hE).mono ?_
  rintro e w1 ⟨va, vc, R, rfl, hr, hb, hR, hl⟩
  rcases List.eq_nil_or_concat R with rfl | ⟨R, x, rfl⟩
  · have HR := toHid hR
    clear hR hr
    go_wp2
    go_ret2
    exact ⟨[], rfl, HR.out, hb⟩
  · rw [List.concat_eq_append] at *
    have hlen : (R ++ [x]).length = R.length + 1 := by simp
    rw [hlen] at hr hl ⊢
    rw [List.map_append] at hr
    obtain ⟨g', rfl, hr1, hc, hcap⟩ := own_last hr
    have HR := toHid hR
    have hc' : w1.cell? ⟨g', R.length, none⟩ = some (.int .i64 x) := hc
    have hp1 : (R.length : Int) < (R.length : Int) + 1 := by omega
    have hp2 : 0 ≤ (R.length : Int) := by omega
    clear hR hr hr1 hc hlen
    go_wp2
    go_ret2
    exact ⟨R ++ [x], by simp, HR.out, hb⟩

theorem ringNil (w : World) (v : Value) : Calls Try.prog 21 #[.pointer none, v] w fun e w' => e = .returned (.slice none 0 0) ∧ w' = w := by
  go_enter Try.func21, Try.ntmps21
  go_wp2
  go_ret
  exact ⟨rfl, rfl⟩
theorem victimNil (w : World) (v : Value) : Calls Try.prog 23 #[.pointer none, v] w fun e w' => e = .returned (.tuple #[.int .i64 0, .bool false]) ∧ w' = w := by
  go_enter Try.func23, Try.ntmps23
  go_wp2_with (go_at_call 21; refine (ringNil _ _).mono ?_; rintro e w' ⟨rfl, hw⟩; subst w')
  go_ret2
  exact ⟨rfl, rfl⟩
theorem leadsNil (w : World) (v u : Value) : Calls Try.prog 20 #[.pointer none, v, u] w fun e w' => e = .returned (.bool false) ∧ w' = w := by
  go_enter Try.func20, Try.ntmps20
  go_wp2
  go_ret
  exact ⟨rfl, rfl⟩
theorem lenNil (w : World) : Calls Try.prog 16 #[.pointer none] w fun e w' => e = .returned (.int .i64 0) ∧ w' = w := by
  go_enter Try.func16, Try.ntmps16
  go_wp2
  go_ret
  exact ⟨rfl, rfl⟩
theorem goneNil (w : World) (v : Value) : Calls Try.prog 15 #[.pointer none, v] w fun e w' => e = .returned (.int .i64 0) ∧ w' = w := by
  go_enter Try.func15, Try.ntmps15
  go_wp2
  go_ret
  exact ⟨rfl, rfl⟩
theorem addNil (w : World) (v u : Value) : Calls Try.prog 11 #[.pointer none, v, u] w fun e w' => e = .returned (.bool false) ∧ w' = w := by
  go_enter Try.func11, Try.ntmps11
  go_wp2
  go_ret
  exact ⟨rfl, rfl⟩
theorem dropNil (w : World) (v u : Value) : Calls Try.prog 13 #[.pointer none, v, u] w fun e w' => e = .returned (.bool false) ∧ w' = w := by
  go_enter Try.func13, Try.ntmps13
  go_wp2_with (go_at_call 31; refine (ghasNilI _ _ _).mono ?_; rintro e w' ⟨rfl, hw⟩; subst w')
  go_ret
  exact ⟨rfl, rfl⟩

end Go.Proofs.Ytoihjkpjijncdaa
