/-
  The document's Numbered and ActMay.
-/
import Derived.Test.YtjhjicokbdloiaaBn
namespace Go.Proofs.Ytjhjicokbdloiaa
open Go.RowKit

theorem refnumbered_any (n : Nat) (w : World) : Calls Try.prog 34 #[.int .u64 (n : Int)] w fun e w' => e = .returned (.bool (lsnB n)) ∧ w' = w := by
  by_cases h1 : (16 : Int) ≤ (n : Int)
  · by_cases h2 : (n : Int) ≤ 1152921504606846991
    · go_enter Try.func34, Try.ntmps34
      go_wp2
      go_ret
      first | exact ⟨by simp [lsnB]; omega, rfl⟩ | (simp [lsnB]; omega)
    · go_enter Try.func34, Try.ntmps34
      go_wp2
      go_ret
      first | exact ⟨by simp [lsnB]; omega, rfl⟩ | (simp [lsnB]; omega)
  · go_enter Try.func34, Try.ntmps34
    go_wp2
    go_ret
    first | exact ⟨by simp [lsnB]; omega, rfl⟩ | (simp [lsnB]; omega)

end Go.Proofs.Ytjhjicokbdloiaa
