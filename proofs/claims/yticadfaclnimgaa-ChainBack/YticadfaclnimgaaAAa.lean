/-
  Changes: which may be, and turned round.
-/
import Derived.Test.YticadfaclnimgaaFr
import Derived.Laws.ResultCell
namespace Go.Proofs.Yticadfaclnimgaa.Ak
open Go.RowKit

/-- A change. -/
structure Ac where
  kind : Int
  key : List UInt8
  old : List UInt8
  new : List UInt8
deriving DecidableEq

/-- Whether a change may be. -/
def actB (ak : Int) (key old new : List UInt8) : Bool :=
  decide (0 < ak ∧ ak < 4) && (decide (old = [] ∨ ak ≠ 1) && (decide (new = [] ∨ ak ≠ 3) && (decide (1 ≤ key.length ∧ key.length ≤ 16) && decide (old.length ≤ 32 ∧ new.length ≤ 32))))
abbrev mayA (a : Ac) : Bool := actB a.kind a.key a.old a.new
/-- A change as cells, and as a value. -/
abbrev actC (a : Ac) : Array Value := #[.int .i64 a.kind, .string (txt a.key), .string (txt a.old), .string (txt a.new)]
abbrev actV (a : Ac) : Value := .agg (actC a)
def Ac.zero : Ac := ⟨0, [], [], []⟩
def turnK (k : Int) : Int := if k = 1 then 3 else if k = 3 then 1 else k
/-- Turned round. -/
def turnA (a : Ac) : Ac := if mayA a then ⟨turnK a.kind, a.key, a.new, a.old⟩ else Ac.zero

theorem turn_may (a : Ac) (h : mayA a = true) : mayA ⟨turnK a.kind, a.key, a.new, a.old⟩ = true := by
  simp only [mayA, actB, Bool.and_eq_true, decide_eq_true_eq] at h ⊢
  obtain ⟨⟨h0, h1⟩, h2, h3, h4, h5, h6⟩ := h
  have : a.kind = 1 ∨ a.kind = 2 ∨ a.kind = 3 := by omega
  refine ⟨?_, ?_, ?_, h4, h6, h5⟩ <;> rcases this with e | e | e <;> simp [turnK, e] at h2 h3 ⊢ <;> assumption

theorem turn_turn (a : Ac) (h : mayA a = true) : turnA (turnA a) = a := by
  have h2 := turn_may a h
  have e : turnA a = ⟨turnK a.kind, a.key, a.new, a.old⟩ := by rw [turnA, if_pos h]
  rw [e, turnA, if_pos h2]
  have : a.kind = 1 ∨ a.kind = 2 ∨ a.kind = 3 := by
    simp only [mayA, actB, Bool.and_eq_true, decide_eq_true_eq] at h
    omega
  obtain ⟨k, x, y, z⟩ := a
  simp only at this
  rcases this with rfl | rfl | rfl <;> rfl

set_option maxRecDepth 20000 in
set_option maxHeartbeats 1000000 in
theorem amay_any (ak : Int) (key old new : List UInt8) (w : World) :
    Calls Try.prog 29 #[.agg #[.int .i64 ak, .string (txt key), .string (txt old), .string (txt new)]] w fun e w' => e = .returned (.bool (actB ak key old new)) ∧ Below w.heap.size w w' := by
  have HB : Hid (Below w.heap.size w (w.alloc (.cells #[.int .i64 ak, .string (txt key), .string (txt old), .string (txt new)] 30))) := (Below.refl _ _).alloc (Nat.le_refl _) _
  have e1 := txt_size key
  have e2 := txt_size old
  have e3 := txt_size new
  by_cases h1 : 1 ≤ key.length
  rotate_left
  · have HE : Hid (actB ak key old new = false) := by show _ = _; simp [actB, h1]
    go_enter Try.func29, Try.ntmps29
    go_wp2
    go_ret
    exact ⟨by rw [HE.out]; rfl, HB.out⟩
  by_cases h2 : key.length ≤ 16
  rotate_left
  · have HE : Hid (actB ak key old new = false) := by show _ = _; simp [actB, h2]
    go_enter Try.func29, Try.ntmps29
    go_wp2
    go_ret
    exact ⟨by rw [HE.out]; rfl, HB.out⟩
  by_cases h3 : old.length ≤ 32
  rotate_left
  · have HE : Hid (actB ak key old new = false) := by show _ = _; simp [actB, h3]
    go_enter Try.func29, Try.ntmps29
    go_wp2
    go_ret
    exact ⟨by rw [HE.out]; rfl, HB.out⟩
  by_cases h4 : new.length ≤ 32
  rotate_left
  · have HE : Hid (actB ak key old new = false) := by show _ = _; simp [actB, h4]
    go_enter Try.func29, Try.ntmps29
    go_wp2
    go_ret
    exact ⟨by rw [HE.out]; rfl, HB.out⟩
  have HA : Hid (actB ak key old new = (decide (0 < ak ∧ ak < 4) && (decide (old = [] ∨ ak ≠ 1) && decide (new = [] ∨ ak ≠ 3)))) := by
    show _ = _
    simp [actB, h1, h2, h3, h4]
  by_cases a1 : ak = 1
  · subst a1
    by_cases ho : old = []
    · have ho' : ((txt old).toList == []) = true := by rw [txt_toList]; simpa using ho
      have HE : Hid (actB 1 key old new = true) := by show _ = _; rw [HA.out]; simp [ho]
      clear ho
      go_enter Try.func29, Try.ntmps29
      go_wp2
      go_ret
      exact ⟨by rw [HE.out]; rfl, HB.out⟩
    · have ho' : ((txt old).toList == []) = false := by rw [txt_toList]; simpa using ho
      have HE : Hid (actB 1 key old new = false) := by show _ = _; rw [HA.out]; simp [ho]
      clear ho
      go_enter Try.func29, Try.ntmps29
      go_wp2
      go_ret
      exact ⟨by rw [HE.out]; rfl, HB.out⟩
  · have b1 : (ak == 1) = false := by simp [a1]
    by_cases a2 : ak = 2
    · subst a2
      have HE : Hid (actB 2 key old new = true) := by show _ = _; rw [HA.out]; simp
      clear a1 b1
      go_enter Try.func29, Try.ntmps29
      go_wp2
      go_ret
      exact ⟨by rw [HE.out]; rfl, HB.out⟩
    · have b2 : (ak == 2) = false := by simp [a2]
      by_cases a3 : ak = 3
      · subst a3
        clear a1 b1 a2 b2
        by_cases ho : new = []
        · have ho' : ((txt new).toList == []) = true := by rw [txt_toList]; simpa using ho
          have HE : Hid (actB 3 key old new = true) := by show _ = _; rw [HA.out]; simp [ho]
          clear ho
          go_enter Try.func29, Try.ntmps29
          go_wp2
          go_ret
          exact ⟨by rw [HE.out]; rfl, HB.out⟩
        · have ho' : ((txt new).toList == []) = false := by rw [txt_toList]; simpa using ho
          have HE : Hid (actB 3 key old new = false) := by show _ = _; rw [HA.out]; simp [ho]
          clear ho
          go_enter Try.func29, Try.ntmps29
          go_wp2
          go_ret
          exact ⟨by rw [HE.out]; rfl, HB.out⟩
      · have b3 : (ak == 3) = false := by simp [a3]
        have HE : Hid (actB ak key old new = false) := by
          show _ = _
          rw [HA.out]
          have : ¬ (0 < ak ∧ ak < 4) := by omega
          simp [this]
        clear a1 a2 a3
        go_enter Try.func29, Try.ntmps29
        go_wp2
        go_ret
        exact ⟨by rw [HE.out]; rfl, HB.out⟩


theorem turned_any (k : Int) (w : World) : Calls Try.prog 47 #[.int .i64 k] w fun e w' => e = .returned (.int .i64 (turnK k)) ∧ w' = w := by
  by_cases h1 : k = 1
  · subst h1
    go_enter Try.func47, Try.ntmps47
    go_wp2
    go_ret
    exact ⟨rfl, rfl⟩
  · by_cases h2 : k = 3
    · subst h2
      go_enter Try.func47, Try.ntmps47
      go_wp2
      go_ret
      exact ⟨rfl, rfl⟩
    · have e : turnK k = k := by simp [turnK, h1, h2]
      have b1 : (k == 1) = false := by simp [h1]
      have b2 : (k == 3) = false := by simp [h2]
      rw [e]
      clear h1 h2 e
      go_enter Try.func47, Try.ntmps47
      go_wp2
      go_ret
      exact ⟨rfl, rfl⟩

end Go.Proofs.Yticadfaclnimgaa.Ak
