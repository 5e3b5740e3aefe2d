/-
  The walk of laid, for every thing.
-/
import Derived.Test.YtdknodmdndkneaaL0
import Derived.Test.YtdknodmdndkneaaL1
import Derived.Test.YtdknodmdndkneaaL2
import Derived.Test.YtdknodmdndkneaaL3
namespace Go.Proofs.Ytdknodmdndkneaa
open Go.RowKit

theorem laid_any (K N : Int) (s : ByteArray) (w : World) (hN : 0 ≤ N) (hN1 : N < 18446744073709551616) (hs : s.size ≤ maxLen) :
    Calls Try.prog 10 #[.agg #[.int .i64 K, .int .u64 N, .string s]] w fun e w' => e = .returned (.string ⟨(thingB K N s).toArray⟩) ∧ Below w.heap.size w w' := by
  have hkl := kindOf_lt K
  rcases (show kindOf K = 0 ∨ kindOf K = 1 ∨ kindOf K = 2 ∨ kindOf K = 3 ∨ kindOf K = 4 by omega) with hk | hk | hk | hk | hk
  · rw [show thingB K N s = leB N.toNat 1 by simp [thingB, hk]]
    exact laid_0 K N s w hN hN1 hk
  · rw [show thingB K N s = leB N.toNat 2 by simp [thingB, hk]]
    exact laid_1 K N s w hN hN1 hk
  · rw [show thingB K N s = leB N.toNat 4 by simp [thingB, hk]]
    exact laid_2 K N s w hN hN1 hk
  · rw [show thingB K N s = leB N.toNat 8 by simp [thingB, hk]]
    exact laid_3 K N s w hN hN1 hk
  · rw [show thingB K N s = textB s by simp [thingB, hk]]
    have hkd := kind_any K N s (w.alloc (.cells #[.int .i64 K, .int .u64 N, .string s] 28))
    rw [hk] at hkd
    have ht := reft_any s ((w.alloc (.cells #[.int .i64 K, .int .u64 N, .string s] 28)).alloc (.cells #[.int .i64 K, .int .u64 N, .string s] 28)) hs
    clear hk hkl
    go_enter Try.func10, Try.ntmps10
    go_wp2_with (first | (go_at_call 29; go_must (refine hkd.mono ?_); rintro e w1 ⟨rfl, rfl⟩) | (go_at_call 34; go_must (refine ht.mono ?_); rintro e w1 ⟨rfl, hb⟩))
    go_ret
    exact ⟨rfl, (((Below.refl _ _).alloc (Nat.le_refl _) _).alloc (by simp) _).trans (hb.mono (by simp; omega))⟩

end Go.Proofs.Ytdknodmdndkneaa
