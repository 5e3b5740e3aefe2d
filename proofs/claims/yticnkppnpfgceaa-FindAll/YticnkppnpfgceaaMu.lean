/-
  The walks of must and of what stands on it.
-/
import Derived.Test.YticnkppnpfgceaaRows
import Derived.Test.YticnkppnpfgceaaWr
import Derived.Test.YticnkppnpfgceaaMb
import Derived.Deep.QuietTactic
import Derived.BigQuiet
namespace Go.Proofs.Yticnkppnpfgceaa
open Go.RowKit

/-- The panic by which a record is given up. -/
def noRec : PanicEntry := { v := .iface 9 (.string ⟨#[110, 111, 32, 114, 101, 99, 111, 114, 100]⟩), recovered := false }
/-- How a call ends that asks whether something may be. -/
def endM : Bool → Ending
  | true => .returned (.tuple #[])
  | false => .panicked [noRec]

theorem must_yes (w : World) : Calls Try.prog 64 #[.bool true] w fun e w' => e = .returned (.tuple #[]) ∧ w' = w := by
  go_enter Try.func64, Try.ntmps64
  go_wp2
  go_end0
  exact ⟨rfl, rfl⟩
theorem must_no (w : World) : Calls Try.prog 64 #[.bool false] w fun e w' => e = .panicked [noRec] ∧ w' = w := by
  go_enter Try.func64, Try.ntmps64
  go_wp2
  exact ⟨rfl, rfl, rfl⟩
theorem must_any (b : Bool) (w : World) : Calls Try.prog 64 #[.bool b] w fun e w' => e = endM b ∧ w' = w := by
  cases b
  · exact must_no w
  · exact must_yes w

/-- A call that asks whether something may be: the two ways on. -/
theorem parts {P : Program} {f : FuncId} {args : Array Value} {w : World} {b : Bool} {R : World → Prop} {Q : Ending → World → Prop}
    (h : Calls P f args w fun e w' => e = endM b ∧ R w') (no : Hid (b = false) → ∀ w', R w' → Q (.panicked [noRec]) w') (yes : Hid (b = true) → ∀ w', R w' → Q (.returned (.tuple #[])) w') : Calls P f args w Q := by
  refine h.mono ?_
  rintro e w' ⟨rfl, hr⟩
  cases b
  · exact no rfl w' hr
  · exact yes rfl w' hr

/-- A test as a letter, so that the walk doesn't part at it. -/
theorem letter (p : Bool) : ∃ b, p = b := ⟨_, rfl⟩

theorem lsnB_eq (n : Nat) : lsnB n = (decide (16 ≤ (n : Int)) && decide ((n : Int) ≤ 1152921504606846991)) := by
  unfold lsnB
  rw [Bool.decide_and]
  congr 1 <;> (rw [decide_eq_decide]; omega)
theorem idB_eq (n : Int) : idB n = (decide (1 ≤ n) && decide (n ≤ 1073741824)) := by
  unfold idB
  rw [Bool.decide_and]
theorem pageB_eq (n : Int) : pageB n = (decide (0 ≤ n) && decide (n < 16)) := by
  unfold pageB
  rw [Bool.decide_and]

theorem lsn_any (n : Nat) (w : World) : Calls Try.prog 65 #[.int .u64 (n : Int)] w fun e w' => e = endM (lsnB n) ∧ w' = w := by
  rw [lsnB_eq]
  obtain ⟨g1, hg1⟩ := letter (decide (16 ≤ (n : Int)))
  rw [hg1]
  cases g1
  · go_enter Try.func65, Try.ntmps65
    go_wp2_with fail
    refine (must_no _).mono ?_
    rintro e w' ⟨rfl, rfl⟩
    go_wp2
    exact ⟨rfl, rfl, rfl⟩
  · go_enter Try.func65, Try.ntmps65
    go_wp2_with fail
    refine parts (must_any _ _) (fun hb w' hw => ?_) (fun hb w' hw => ?_)
    · subst hw
      go_wp2
      exact ⟨rfl, by rw [hb.out]; rfl, rfl⟩
    · subst hw
      go_wp2
      go_end0
      exact ⟨by rw [hb.out]; rfl, rfl⟩

theorem id_any (n : Int) (w : World) : Calls Try.prog 72 #[.int .i64 n] w fun e w' => e = endM (idB n) ∧ w' = w := by
  rw [idB_eq]
  obtain ⟨g1, hg1⟩ := letter (decide (1 ≤ n))
  rw [hg1]
  cases g1
  · go_enter Try.func72, Try.ntmps72
    go_wp2_with fail
    refine (must_no _).mono ?_
    rintro e w' ⟨rfl, rfl⟩
    go_wp2
    exact ⟨rfl, rfl, rfl⟩
  · go_enter Try.func72, Try.ntmps72
    go_wp2_with fail
    refine parts (must_any _ _) (fun hb w' hw => ?_) (fun hb w' hw => ?_)
    · subst hw
      go_wp2
      exact ⟨rfl, by rw [hb.out]; rfl, rfl⟩
    · subst hw
      go_wp2
      go_end0
      exact ⟨by rw [hb.out]; rfl, rfl⟩

theorem page_any (n : Int) (w : World) : Calls Try.prog 74 #[.int .i64 n] w fun e w' => e = endM (pageB n) ∧ w' = w := by
  rw [pageB_eq]
  obtain ⟨g1, hg1⟩ := letter (decide (0 ≤ n))
  rw [hg1]
  cases g1
  · go_enter Try.func74, Try.ntmps74
    go_wp2_with fail
    refine (must_no _).mono ?_
    rintro e w' ⟨rfl, rfl⟩
    go_wp2
    exact ⟨rfl, rfl, rfl⟩
  · go_enter Try.func74, Try.ntmps74
    go_wp2_with fail
    refine parts (must_any _ _) (fun hb w' hw => ?_) (fun hb w' hw => ?_)
    · subst hw
      go_wp2
      exact ⟨rfl, by rw [hb.out]; rfl, rfl⟩
    · subst hw
      go_wp2
      go_end0
      exact ⟨by rw [hb.out]; rfl, rfl⟩

theorem haschg_any (k : Int) (w : World) : Calls Try.prog 73 #[.int .i64 k] w fun e w' => e = .returned (.bool (chgB k)) ∧ w' = w := by
  by_cases h1 : k = 1
  · subst h1
    go_enter Try.func73, Try.ntmps73
    go_wp2
    go_ret
    exact ⟨rfl, rfl⟩
  · by_cases h2 : k = 2
    · subst h2
      go_enter Try.func73, Try.ntmps73
      go_wp2
      go_ret
      exact ⟨rfl, rfl⟩
    · rw [show chgB k = false by simp [chgB, h1, h2]]
      have h1' : (k == 1) = false := by simp [h1]
      have h2' : (k == 2) = false := by simp [h2]
      clear h1 h2
      go_enter Try.func73, Try.ntmps73
      go_wp2
      go_ret
      exact ⟨rfl, rfl⟩

/-- A change as cells. -/
abbrev actV (ak : Int) (key old new : List UInt8) : Value := .agg #[.int .i64 ak, .string (txt key), .string (txt old), .string (txt new)]

theorem txt_toList (l : List UInt8) : (txt l).toList = l := by simp [txt]

theorem actB_eq (ak : Int) (key old new : List UInt8) : actB ak key old new = ((decide (0 < ak) && decide (ak < 4)) && (((txt old).toList.isEmpty || ak != 1) && (((txt new).toList.isEmpty || ak != 3) && ((decide (1 ≤ ((txt key).size : Int)) && decide (((txt key).size : Int) ≤ 16)) && (decide (((txt old).size : Int) ≤ 32) && decide (((txt new).size : Int) ≤ 32)))))) := by
  have hk : ∀ n m : Nat, decide (n ≤ m) = decide ((n : Int) ≤ (m : Int)) := fun n m => by rw [decide_eq_decide]; omega
  have e : ∀ (l : List UInt8), decide (l = []) = l.isEmpty := fun l => by cases l <;> simp
  unfold actB
  rw [txt_toList, txt_toList, txt_size, txt_size, txt_size]
  simp only [Bool.decide_and, Bool.decide_or, e, hk]
  have hb : ∀ n : Int, (ak == n) = decide (ak = n) := fun n => by by_cases h : ak = n <;> simp [h]
  simp [bne, hb]

theorem act_any (ak : Int) (key old new : List UInt8) (w : World) : Calls Try.prog 75 #[actV ak key old new] w fun e w' => e = endM (actB ak key old new) ∧ Below w.heap.size w w' := by
  have HB : Hid (Below w.heap.size w (w.alloc (.cells #[.int .i64 ak, .string (txt key), .string (txt old), .string (txt new)] 48))) := (Below.refl _ _).alloc (Nat.le_refl _) _
  rw [actB_eq]
  obtain ⟨g1, hg1⟩ := letter (decide (0 < ak))
  obtain ⟨g2, hg2⟩ := letter (txt old).toList.isEmpty
  obtain ⟨g3, hg3⟩ := letter (txt new).toList.isEmpty
  obtain ⟨g4, hg4⟩ := letter (decide (1 ≤ ((txt key).size : Int)))
  obtain ⟨g5, hg5⟩ := letter (decide (((txt old).size : Int) ≤ 32))
  rw [hg1, hg2, hg3, hg4, hg5]
  cases g1
  · go_enter Try.func75, Try.ntmps75
    go_wp2_with fail
    refine (must_no _).mono ?_
    rintro e w' ⟨rfl, rfl⟩
    go_wp2
    exact ⟨rfl, rfl, HB.out⟩
  cases g2 <;> cases g3
  all_goals
    go_enter Try.func75, Try.ntmps75
    go_wp2_with fail
    refine parts (must_any _ _) (fun hb1 w' hw => ?_) (fun hb1 w' hw => ?_)
    · subst hw
      go_wp2
      exact ⟨rfl, by simp [endM, hb1.out], HB.out⟩
    subst hw
    go_wp2_with fail
    refine parts (must_any _ _) (fun hb2 w' hw => ?_) (fun hb2 w' hw => ?_)
    · first
      | exact absurd hb2.out (by decide)
      | (subst hw; go_wp2; exact ⟨rfl, by simp [endM, hb1.out, hb2.out], HB.out⟩)
    subst hw
    go_wp2_with fail
    refine parts (must_any _ _) (fun hb3 w' hw => ?_) (fun hb3 w' hw => ?_)
    · first
      | exact absurd hb3.out (by decide)
      | (subst hw; go_wp2; exact ⟨rfl, by simp [endM, hb1.out, hb2.out, hb3.out], HB.out⟩)
    subst hw
    cases g4
    · go_wp2_with fail
      refine (must_no _).mono ?_
      rintro e w' ⟨rfl, rfl⟩
      go_wp2
      exact ⟨rfl, by simp [endM], HB.out⟩
    go_wp2_with fail
    refine parts (must_any _ _) (fun hb4 w' hw => ?_) (fun hb4 w' hw => ?_)
    · subst hw
      go_wp2
      exact ⟨rfl, by simp [endM, hb4.out], HB.out⟩
    subst hw
    cases g5
    · go_wp2_with fail
      refine (must_no _).mono ?_
      rintro e w' ⟨rfl, rfl⟩
      go_wp2
      exact ⟨rfl, by simp [endM], HB.out⟩
    go_wp2_with fail
    refine parts (must_any _ _) (fun hb5 w' hw => ?_) (fun hb5 w' hw => ?_)
    · subst hw
      go_wp2
      exact ⟨rfl, by simp [endM, hb5.out], HB.out⟩
    subst hw
    go_wp2
    go_end0
    exact ⟨by simp [endM, hb1.out, hb2.out, hb3.out, hb4.out, hb5.out], HB.out⟩

end Go.Proofs.Yticnkppnpfgceaa
