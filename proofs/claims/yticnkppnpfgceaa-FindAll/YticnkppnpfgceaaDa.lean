/-
  The document's ActMay.
-/
import Derived.Test.YticnkppnpfgceaaDm
namespace Go.Proofs.Yticnkppnpfgceaa
open Go.RowKit

set_option maxRecDepth 20000 in
set_option maxHeartbeats 1000000 in
theorem actmay_any (ak : Int) (key old new : List UInt8) (w : World) :
    Calls Try.prog 62 #[.agg #[.int .i64 ak, .string (txt key), .string (txt old), .string (txt new)]] w fun e w' => e = .returned (.bool (actB ak key old new)) ∧ Below w.heap.size w w' := by
  have HB : Hid (Below w.heap.size w (w.alloc (.cells #[.int .i64 ak, .string (txt key), .string (txt old), .string (txt new)] 48))) := (Below.refl _ _).alloc (Nat.le_refl _) _
  have e1 := txt_size key
  have e2 := txt_size old
  have e3 := txt_size new
  by_cases h1 : 1 ≤ key.length
  rotate_left
  · have HE : Hid (actB ak key old new = false) := by show _ = _; simp [actB, h1]
    go_enter Try.func62, Try.ntmps62
    go_wp2
    go_ret
    exact ⟨by rw [HE.out]; rfl, HB.out⟩
  by_cases h2 : key.length ≤ 16
  rotate_left
  · have HE : Hid (actB ak key old new = false) := by show _ = _; simp [actB, h2]
    go_enter Try.func62, Try.ntmps62
    go_wp2
    go_ret
    exact ⟨by rw [HE.out]; rfl, HB.out⟩
  by_cases h3 : old.length ≤ 32
  rotate_left
  · have HE : Hid (actB ak key old new = false) := by show _ = _; simp [actB, h3]
    go_enter Try.func62, Try.ntmps62
    go_wp2
    go_ret
    exact ⟨by rw [HE.out]; rfl, HB.out⟩
  by_cases h4 : new.length ≤ 32
  rotate_left
  · have HE : Hid (actB ak key old new = false) := by show _ = _; simp [actB, h4]
    go_enter Try.func62, Try.ntmps62
    go_wp2
    go_ret
    exact ⟨by rw [HE.out]; rfl, HB.out⟩
  have HA : Hid (actB ak key old new = (decide (0 < ak ∧ ak < 4) && (decide (old = [] ∨ ak ≠ 1) && decide (new = [] ∨ ak ≠ 3)))) := by
    show _ = _
    simp [actB, h1, h2, h3, h4]
  by_cases a1 : ak = 1
  · subst a1
    by_cases ho : old = []
    · have ho' : ((txt old).toList == []) = true := by rw [txt_toList]; simpa using ho
      have HE : Hid (actB 1 key old new = true) := by show _ = _; rw [HA.out]; simp [ho]
      clear ho
      go_enter Try.func62, Try.ntmps62
      go_wp2
      go_ret
      exact ⟨by rw [HE.out]; rfl, HB.out⟩
    · have ho' : ((txt old).toList == []) = false := by rw [txt_toList]; simpa using ho
      have HE : Hid (actB 1 key old new = false) := by show _ = _; rw [HA.out]; simp [ho]
      clear ho
      go_enter Try.func62, Try.ntmps62
      go_wp2
      go_ret
      exact ⟨by rw [HE.out]; rfl, HB.out⟩
  · have b1 : (ak == 1) = false := by simp [a1]
    by_cases a2 : ak = 2
    · subst a2
      have HE : Hid (actB 2 key old new = true) := by show _ = _; rw [HA.out]; simp
      clear a1 b1
      go_enter Try.func62, Try.ntmps62
      go_wp2
      go_ret
      exact ⟨by rw [HE.out]; rfl, HB.out⟩
    · have b2 : (ak == 2) = false := by simp [a2]
      by_cases a3 : ak = 3
      · subst a3
        clear a1 b1 a2 b2
        by_cases ho : new = []
        · have ho' : ((txt new).toList == []) = true := by rw [txt_toList]; simpa using ho
          have HE : Hid (actB 3 key old new = true) := by show _ = _; rw [HA.out]; simp [ho]
          clear ho
          go_enter Try.func62, Try.ntmps62
          go_wp2
          go_ret
          exact ⟨by rw [HE.out]; rfl, HB.out⟩
        · have ho' : ((txt new).toList == []) = false := by rw [txt_toList]; simpa using ho
          have HE : Hid (actB 3 key old new = false) := by show _ = _; rw [HA.out]; simp [ho]
          clear ho
          go_enter Try.func62, Try.ntmps62
          go_wp2
          go_ret
          exact ⟨by rw [HE.out]; rfl, HB.out⟩
      · have b3 : (ak == 3) = false := by simp [a3]
        have HE : Hid (actB ak key old new = false) := by
          show _ = _
          rw [HA.out]
          have : ¬ (0 < ak ∧ ak < 4) := by omega
          simp [this]
        clear a1 a2 a3
        go_enter Try.func62, Try.ntmps62
        go_wp2
        go_ret
        exact ⟨by rw [HE.out]; rfl, HB.out⟩

end Go.Proofs.Yticnkppnpfgceaa
