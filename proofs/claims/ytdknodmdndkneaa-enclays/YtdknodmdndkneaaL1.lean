/-
  The walk of laid, for things of the kind 1.
-/
import Derived.Test.YtdknodmdndkneaaTh
namespace Go.Proofs.Ytdknodmdndkneaa
open Go.RowKit

set_option maxHeartbeats 1000000 in
theorem laid_1 (K N : Int) (s : ByteArray) (w : World) (hN : 0 ≤ N) (hN1 : N < 18446744073709551616) (hk : kindOf K = 1) :
    Calls Try.prog 10 #[.agg #[.int .i64 K, .int .u64 N, .string s]] w fun e w' => e = .returned (.string ⟨(leB N.toNat 2).toArray⟩) ∧ Below w.heap.size w w' := by
  have hkd := kind_any K N s
  simp only [hk] at hkd
  have hkd' := hkd (w.alloc (.cells #[.int .i64 K, .int .u64 N, .string s] 28))
  clear hk
  have Hkd : Hid (∀ (w : World), Calls Try.prog 29 #[.agg #[.int .i64 K, .int .u64 N, .string s]] w fun e w' => e = .returned (.int .i64 ((1 : Nat) : Int)) ∧ w' = w.alloc (.cells #[.int .i64 K, .int .u64 N, .string s] 28)) := hkd
  clear hkd
  go_enter Try.func10, Try.ntmps10
  go_wp2_with (go_at_call 29; go_must (refine hkd'.mono ?_); rintro e w1 ⟨rfl, rfl⟩)
  clear hkd'
  go_region_with (first | (go_at_call 29; refine (Hkd.out _).mono ?_; rintro e w1 ⟨rfl, rfl⟩) | (go_at_call 35; refine (num_any N 2 _ hN hN1 (by omega)).mono ?_; rintro e w1 ⟨rfl, hb⟩))
  all_goals
    go_wp2
    go_ret
    refine ⟨rfl, Below.trans ?_ (hb.mono (by simp; try omega))⟩
    repeat (first | exact Below.refl _ _ | refine Below.drew ?_ | refine Below.alloc ?_ (by simp; try omega) _)

end Go.Proofs.Ytdknodmdndkneaa
