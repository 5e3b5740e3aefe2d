/-
  The document's Numbered and ActMay.
-/
import Derived.Test.YticnkppnpfgceaaLa2
namespace Go.Proofs.Yticnkppnpfgceaa
open Go.RowKit

theorem refnumbered_any (n : Nat) (w : World) : Calls Try.prog 60 #[.int .u64 (n : Int)] w fun e w' => e = .returned (.bool (lsnB n)) ∧ w' = w := by
  by_cases h1 : (16 : Int) ≤ (n : Int)
  · by_cases h2 : (n : Int) ≤ 1152921504606846991
    · go_enter Try.func60, Try.ntmps60
      go_wp2
      go_ret
      first | exact ⟨by simp [lsnB]; omega, rfl⟩ | (simp [lsnB]; omega)
    · go_enter Try.func60, Try.ntmps60
      go_wp2
      go_ret
      first | exact ⟨by simp [lsnB]; omega, rfl⟩ | (simp [lsnB]; omega)
  · go_enter Try.func60, Try.ntmps60
    go_wp2
    go_ret
    first | exact ⟨by simp [lsnB]; omega, rfl⟩ | (simp [lsnB]; omega)

end Go.Proofs.Yticnkppnpfgceaa
