/-
  The Reader's walks: Text, Read.
-/
import Derived.Test.YticadfaclnimgaaRd
namespace Go.Proofs.Yticadfaclnimgaa
open Go.RowKit

theorem leV_two (l : List UInt8) : leV (l.take 2) < 65536 := by
  have := leV_lt (l.take 2)
  have h : (l.take 2).length ≤ 2 := by simp; omega
  have := Nat.pow_le_pow_right (show 0 < 256 by decide) h
  omega

end Go.Proofs.Yticadfaclnimgaa
