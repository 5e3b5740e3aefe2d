/-
  The document's bytes and frame of any record that may be.
-/
import Derived.Test.YtjhjicokbdloiaaBt
namespace Go.Proofs.Ytjhjicokbdloiaa
open Go.RowKit

theorem bytes_any (r : Rc) (ta : Option Addr) (tc : Nat) (da : Option Addr) (dc : Nat) (w : World) (hm : mayB r = true) (h : RI w r ta da) :
    Calls Try.prog 16 #[recV r ta tc da dc] w fun e w' => e = .returned (.string (txt (encB r))) ∧ Below w.heap.size w w' := by
  have hp := mayP r hm
  cases hc : chgB r.kind
  · by_cases h8 : r.kind = 8
    · exact bytes_tab r ta tc da dc w hp h8 h.t h.d
    · exact bytes_plain r ta tc da dc w hp hc (by simpa using h8)
  · exact bytes_chg r ta tc da dc w hp hc

theorem refframe_any (r : Rc) (ta : Option Addr) (tc : Nat) (da : Option Addr) (dc : Nat) (w : World) (hm : mayB r = true) (h : RI w r ta da) :
    Calls Try.prog 17 #[recV r ta tc da dc] w fun e w' => e = .returned (.string (txt (frameB r))) ∧ Below w.heap.size w w' :=
  refframe_of r ta tc da dc w (by have := (encB_length r hm).2; omega) fun W hW => bytes_any r ta tc da dc W hm (h.below hW)

end Go.Proofs.Ytjhjicokbdloiaa
