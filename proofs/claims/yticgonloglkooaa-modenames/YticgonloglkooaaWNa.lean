/-
  The walk of ModeNames.
-/
import Derived.Test.YticgonloglkooaaNa
namespace Go.Proofs.Yticgonloglkooaa
open Go.RowKit

theorem pM_name (x : Nat) (hx : x < 6) : pM (nameS x) = x := by unfold pM; rw [pk_name x hx, if_pos hx]
theorem pE_name (x : Nat) (hx : x < 6) : pE (nameS x) = 0 := by unfold pE; rw [pk_name x hx, if_pos hx]

set_option maxHeartbeats 2000000 in
theorem names_walk (m : Int) (s : ByteArray) (w : World) :
    Calls Try.prog 5 #[.int .i64 m, .string s] w fun e w' => e = .returned (.bool true) ∧ Below w.heap.size w w' := by
  have h1 := parse_any s
  have h2 := refparse_any s
  have h3 := name_any m
  have h4 := parse_any (nameS (cnt m))
  have h5 := refname_any m
  have h6 := sure_any m
  rw [pM_name _ (cnt_lt m), pE_name _ (cnt_lt m)] at h4
  generalize pM s = M at *
  generalize pE s = E at *
  generalize nameS (cnt m) = t at *
  generalize cnt m = x at *
  go_enter Try.func5, Try.ntmps5
  go_wp2_with fail
  refine (h1 _).mono ?_
  rintro e w1 ⟨rfl, hb1⟩
  go_wp2_with fail
  refine (h2 _).mono ?_
  rintro e w2 ⟨rfl, hb2⟩
  go_wp2_with fail
  refine (h3 _).mono ?_
  rintro e w3 ⟨rfl, hb3⟩
  go_wp2_with fail
  refine (h4 _).mono ?_
  rintro e w4 ⟨rfl, hb4⟩
  go_wp2_with fail
  refine (h3 _).mono ?_
  rintro e w5 ⟨rfl, hb5⟩
  go_wp2_with fail
  refine (h5 _).mono ?_
  rintro e w6 ⟨rfl, hb6⟩
  go_wp2_with (first | (go_at_call 28; go_must (refine (h6 _).mono ?_); rintro e w' ⟨rfl, hw⟩; obtain rfl := hw.symm) | (go_at_call 18; go_must (refine (lives_any _).mono ?_); rintro e w7 ⟨rfl, hb7⟩))
  go_ret
  exact ⟨rfl, below_next (below_next (below_next (below_next (below_next (below_next hb1 hb2) hb3) hb4) hb5) hb6) hb7⟩
end Go.Proofs.Yticgonloglkooaa
