/-
  PageReads: the document's numbers of two bytes.
-/
import Derived.Test.YtoahcihhpimmgaaRg
import Derived.Test.YtoahcihhpimmgaaCl
namespace Go.Proofs.Ytoahcihhpimmgaa
open Go.RowKit

set_option maxRecDepth 20000 in
set_option maxHeartbeats 2000000 in
theorem num2_any (b : ByteArray) (at_ : Nat) (w : World) (h : at_ + 2 ≤ b.size) (hb : b.size ≤ 100000) :
    Calls Try.prog 49 #[.string b, .int .i64 at_, .int .i64 2] w fun e w' => e = .returned (.int .i64 (((b[at_]'(by omega)).toNat + 256 * (b[at_ + 1]'(by omega)).toNat : Nat) : Int)) ∧ w' = w := by
  have q0 : (b[at_]'(by omega)).toNat < 256 := UInt8.toNat_lt _
  have q1 : (b[at_ + 1]'(by omega)).toNat < 256 := UInt8.toNat_lt _
  obtain ⟨x, hx⟩ : ∃ x, x = (b[at_]'(by omega)).toNat := ⟨_, rfl⟩
  obtain ⟨y, hy⟩ : ∃ y, y = (b[at_ + 1]'(by omega)).toNat := ⟨_, rfl⟩
  go_enter Try.func49, Try.ntmps49
  go_wp2_with fail
  go_loop [7, 8] (fun n i => (n = .int .i64 0 ∧ i = .int .i64 1) ∨ (n = .int .i64 (y : Nat) ∧ i = .int .i64 0) ∨ (n = .int .i64 ((x + 256 * y : Nat) : Int) ∧ i = .int .i64 (-1))) (fun _ i => (intOf i + 1).toNat)
  case atStart => exact .inl ⟨rfl, rfl⟩
  case round =>
    rcases hrel with ⟨rfl, rfl⟩ | ⟨rfl, rfl⟩ | ⟨rfl, rfl⟩
    · have e1 : 0 ≤ (at_ : Int) + 1 := by omega
      have e2 : (at_ : Int) + 1 < b.size := by omega
      go_wp2_with fail
      go_round
      case rel => exact .inr (.inl ⟨by first | rfl | (rw [hy]) | (rw [hy]; simp), by go_num⟩)
      case measure => simp [intOf]
    · have e1 : 0 ≤ (at_ : Int) := by omega
      have e2 : (at_ : Int) < b.size := by omega
      go_wp2_with fail
      go_round
      case rel => refine .inr (.inr ⟨?_, by go_num⟩); rw [hx]; congr 1; push_cast; omega
      case measure => simp [intOf]
    · go_wp2_with fail
      go_ret
      exact ⟨rfl, rfl⟩

end Go.Proofs.Ytoahcihhpimmgaa
