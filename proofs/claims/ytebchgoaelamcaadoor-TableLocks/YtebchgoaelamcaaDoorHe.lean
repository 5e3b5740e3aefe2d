/-
  The document's Beside; whether two rows of wants meet.
-/
import Derived.Test.YtebchgoaelamcaaDoorHd
namespace Go.Proofs.YtebchgoaelamcaaDoor
open Go.RowKit
set_option maxRecDepth 100000

def bsP (x y : Int) : Bool := if x = 0 then true else if x = 1 then decide (y ≠ 5) else if x = 2 then decide (y = 2) else if x = 3 then decide (y = 3) else false
/-- Do two modes go beside one another? -/
def bsI (a b : Int) : Bool := if b < a then bsP b a else bsP a b

theorem sure_any (a : Int) (h : 0 ≤ a ∧ a ≤ 5) (w : World) : Calls Tryd.prog 63 #[.int .i64 a] w fun e w' => e = .returned (.int .i64 a) ∧ w' = w := by
  obtain ⟨h0, h1⟩ := h
  go_enter Tryd.func63, Tryd.ntmps63
  go_wp2_with fail
  go_ret
  exact ⟨rfl, rfl⟩

set_option maxHeartbeats 2000000 in
theorem beside_any (a b : Int) (ha : 0 ≤ a ∧ a ≤ 5) (hb : 0 ≤ b ∧ b ≤ 5) (w : World) : Calls Tryd.prog 32 #[.int .i64 a, .int .i64 b] w fun e w' => e = .returned (.bool (bsI a b)) ∧ w' = w := by
  have key : ∀ x y : Int, 0 ≤ x → x ≤ y → y ≤ 5 → x = 0 ∨ x = 1 ∨ x = 2 ∨ x = 3 ∨ (x ≠ 0 ∧ x ≠ 1 ∧ x ≠ 2 ∧ x ≠ 3) := fun x y _ _ _ => by omega
  go_enter Tryd.func32, Tryd.ntmps32
  go_wp2_with fail
  refine Calls.mono (sure_any a ha _) ?_
  rintro e w1 ⟨rfl, rfl⟩
  go_wp2_with fail
  refine Calls.mono (sure_any b hb _) ?_
  rintro e w2 ⟨rfl, rfl⟩
  by_cases hl : b < a
  · have HB : Hid (bsI a b = bsP b a) := by unfold bsI Hid; rw [if_pos hl]
    rcases key b a hb.1 (by omega) ha.2 with rfl | rfl | rfl | rfl | ⟨n0, n1, n2, n3⟩
    · go_wp2_with fail
      go_ret
      rw [HB.out]
      exact ⟨rfl, rfl⟩
    · by_cases h5 : a = 5
      · subst h5
        go_wp2_with fail
        go_ret
        rw [HB.out]
        exact ⟨rfl, rfl⟩
      · go_wp2_with fail
        go_ret
        rw [HB.out]
        exact ⟨by simp [bsP, h5], rfl⟩
    · go_wp2_with fail
      go_ret
      rw [HB.out]
      exact ⟨by simp [bsP]; rfl, rfl⟩
    · go_wp2_with fail
      go_ret
      rw [HB.out]
      exact ⟨by simp [bsP]; rfl, rfl⟩
    · go_wp2_with fail
      go_ret
      rw [HB.out]
      exact ⟨by simp [bsP, n0, n1, n2, n3], rfl⟩
  · have HB : Hid (bsI a b = bsP a b) := by unfold bsI Hid; rw [if_neg hl]
    rcases key a b ha.1 (by omega) hb.2 with rfl | rfl | rfl | rfl | ⟨n0, n1, n2, n3⟩
    · go_wp2_with fail
      go_ret
      rw [HB.out]
      exact ⟨rfl, rfl⟩
    · by_cases h5 : b = 5
      · subst h5
        go_wp2_with fail
        go_ret
        rw [HB.out]
        exact ⟨rfl, rfl⟩
      · go_wp2_with fail
        go_ret
        rw [HB.out]
        exact ⟨by simp [bsP, h5], rfl⟩
    · by_cases h2 : b = 2
      · subst h2
        go_wp2_with fail
        go_ret
        rw [HB.out]
        exact ⟨rfl, rfl⟩
      · go_wp2_with fail
        go_ret
        rw [HB.out]
        exact ⟨by simp [bsP, h2], rfl⟩
    · by_cases h2 : b = 3
      · subst h2
        go_wp2_with fail
        go_ret
        rw [HB.out]
        exact ⟨rfl, rfl⟩
      · go_wp2_with fail
        go_ret
        rw [HB.out]
        exact ⟨by simp [bsP, h2], rfl⟩
    · go_wp2_with fail
      go_ret
      rw [HB.out]
      exact ⟨by simp [bsP, n0, n1, n2, n3], rfl⟩

/-- Two wants of one lock whose modes don't go beside one another. -/
def mt1 (p q : List UInt8 × Int) : Bool := p.1 == q.1 && !bsI p.2 q.2
def meetL (x y : List (List UInt8 × Int)) : Bool := x.any fun p => y.any (mt1 p)
theorem name_ne (n : Int) : ([42] == nameL n) = false ∧ (nameL n == [42]) = false := by
  unfold nameL
  split
  · exact ⟨rfl, rfl⟩
  · constructor <;> simp
theorem wants_cases (k : Int) (key : List UInt8) (n : Int) : (wrt k = true ∧ wantsL k key n = [([42], 2), (nameL (homeI key n), 5)]) ∨ (wrt k = false ∧ k = 2 ∧ wantsL k key n = [([42], 1), (nameL (homeI key n), 3)]) ∨ (wrt k = false ∧ k = 6 ∧ wantsL k key n = [([42], 3)]) ∨ (wrt k = false ∧ k ≠ 2 ∧ k ≠ 6 ∧ wantsL k key n = []) := by
  by_cases h2 : k = 2
  · subst h2
    exact .inr (.inl ⟨rfl, rfl, rfl⟩)
  · cases h3 : wrt k
    · by_cases h6 : k = 6
      · subst h6
        exact .inr (.inr (.inl ⟨rfl, rfl, rfl⟩))
      · exact .inr (.inr (.inr ⟨rfl, h2, h6, by unfold wantsL; rw [if_neg h2, h3, if_neg (by simp), if_neg h6]⟩))
    · exact .inl ⟨rfl, by unfold wantsL; rw [if_neg h2, if_pos h3]⟩
theorem wants_modes (k : Int) (key : List UInt8) (n : Int) : ∀ p ∈ wantsL k key n, 0 ≤ p.2 ∧ p.2 ≤ 5 := by
  rcases wants_cases k key n with ⟨_, h⟩ | ⟨_, _, h⟩ | ⟨_, _, h⟩ | ⟨_, _, _, h⟩ <;> rw [h] <;> simp
/-- Who changes a key and who asks for it meet. -/
theorem meet_yes {k j : Int} {key key' : List UInt8} {n : Int} (h : wrt k = true) (hj : j = 6 ∨ (wrt j = true ∨ j = 2) ∧ key = key') : meetL (wantsL k key n) (wantsL j key' n) = true := by
  rcases wants_cases k key n with ⟨_, e⟩ | ⟨e, _⟩ | ⟨e, _⟩ | ⟨e, _⟩
  · rw [e]
    rcases hj with rfl | ⟨hw | rfl, rfl⟩
    · rfl
    · rcases wants_cases j key n with ⟨_, e2⟩ | ⟨e2, _⟩ | ⟨e2, _⟩ | ⟨e2, _⟩
      · rw [e2]
        simp [meetL, mt1, bsI, bsP]
      all_goals rw [hw] at e2; cases e2
    · show meetL _ [([42], 1), (nameL (homeI key n), 3)] = true
      simp [meetL, mt1, bsI, bsP]
  all_goals rw [h] at e; cases e
/-- Two that only ask don't meet. -/
theorem meet_no {k j : Int} {key key' : List UInt8} {n : Int} (h : wrt k = false) (hj : wrt j = false) : meetL (wantsL k key n) (wantsL j key' n) = false := by
  have a := name_ne (homeI key n)
  have b := name_ne (homeI key' n)
  rcases wants_cases k key n with ⟨e, _⟩ | ⟨_, _, e⟩ | ⟨_, _, e⟩ | ⟨_, _, _, e⟩
  · rw [h] at e; cases e
  all_goals
    rw [e]
    rcases wants_cases j key' n with ⟨e2, _⟩ | ⟨_, _, e2⟩ | ⟨_, _, e2⟩ | ⟨_, _, _, e2⟩
    · rw [hj] at e2; cases e2
    all_goals
      rw [e2]
      simp only [meetL, List.any_cons, List.any_nil, mt1, a.2, b.1, Bool.false_and, Bool.or_false, Bool.false_or]
      try rfl
      try simp [bsI, bsP]
end Go.Proofs.YtebchgoaelamcaaDoor
