/-
  The walks of ModeGroups and ModeJoins.
-/
import Derived.Test.YticgonloglkooaaGr
namespace Go.Proofs.Yticgonloglkooaa
open Go.RowKit

theorem bes_join (x y z : Nat) (hx : x < 6) (hy : y < 6) (hz : z < 6) : besB (joinN x y) z = (besB x z && besB y z) := by
  have h : ∀ x : Fin 6, ∀ y : Fin 6, ∀ j : Fin 6, besB (joinN x.val y.val) j.val = (besB x.val j.val && besB y.val j.val) := by decide
  exact h ⟨x, hx⟩ ⟨y, hy⟩ ⟨z, hz⟩

theorem bes_group (l : List Int) (m : Int) : besB (groupN l) (cnt m) = allB l m := by
  suffices h : ∀ (l : List Int) (g : Nat), g < 6 → besB (l.foldl (fun g m => joinN g (cnt m)) g) (cnt m) = (besB g (cnt m) && allB l m) by
    have := h l 0 (by omega)
    rw [show besB 0 (cnt m) = true from rfl, Bool.true_and] at this
    exact this
  intro l
  induction l with
  | nil => intro g _; simp [allB]
  | cons x r ih =>
    intro g hg
    simp only [List.foldl_cons]
    rw [ih _ (joinN_lt _ _ hg (cnt_lt x)), bes_join _ _ _ hg (cnt_lt x) (cnt_lt m)]
    simp [allB, Bool.and_assoc]

theorem take_len (l : List Int) : (l.take 60).length ≤ maxLen := by unfold maxLen; simp; omega

set_option maxHeartbeats 2000000 in
theorem groups_walk (a : Option Addr) (c : Nat) (l : List Int) (m : Int) (w : World) (hsl : SlV w a (i64s l)) (hll : l.length ≤ maxLen) :
    Calls Try.prog 4 #[.slice a l.length c, .int .i64 m] w fun e w' => e = .returned (.bool true) ∧ Below w.heap.size w w' := by
  have h0 := modes_any a c l w hsl hll
  have htl := take_len l
  clear hsl hll
  go_enter Try.func4, Try.ntmps4
  go_wp2_with fail
  refine h0.mono ?_
  rintro e w1 ⟨ax, cx, rfl, hs1, hb1⟩
  have h1 := group_any ax cx (l.take 60) w1 hs1 htl
  have h2 := fun W h => refgroup_any ax cx (l.take 60) W h htl
  have h3 := fun W h => allowed_any ax cx (l.take 60) m W h htl
  have h4 := fun W h => refallowed_any ax cx (l.take 60) m W h htl
  generalize groupN (l.take 60) = q at *
  generalize allB (l.take 60) m = r at *
  generalize l.take 60 = l2 at *
  clear h0
  go_wp2_with fail
  refine h1.mono ?_
  rintro e w2 ⟨rfl, hb2⟩
  have hs2 := hs1.below hb2
  go_wp2_with fail
  refine (h2 _ hs2).mono ?_
  rintro e w3 ⟨rfl, hw⟩
  obtain rfl := hw.symm
  go_wp2_with fail
  refine (h3 _ hs2).mono ?_
  rintro e w3 ⟨rfl, hb3⟩
  have hs3 := hs2.below hb3
  go_wp2_with fail
  refine (h4 _ hs3).mono ?_
  rintro e w4 ⟨rfl, hw⟩
  obtain rfl := hw.symm
  go_wp2_with (go_at_call 18; go_must (refine (lives_any _).mono ?_); rintro e w5 ⟨rfl, hb5⟩)
  go_ret
  exact ⟨rfl, below_next (below_next (below_next hb1 hb2) hb3) hb5⟩

set_option maxHeartbeats 2000000 in
theorem joins_walk (a : Option Addr) (c : Nat) (l : List Int) (m : Int) (w : World) (hsl : SlV w a (i64s l)) (hll : l.length ≤ maxLen) :
    Calls Try.prog 8 #[.slice a l.length c, .int .i64 m] w fun e w' => e = .returned (.bool true) ∧ Below w.heap.size w w' := by
  have h0 := modes_any a c l w hsl hll
  have htl := take_len l
  clear hsl hll
  go_enter Try.func8, Try.ntmps8
  go_wp2_with fail
  refine h0.mono ?_
  rintro e w1 ⟨ax, cx, rfl, hs1, hb1⟩
  have h1 := allowed_any ax cx (l.take 60) m w1 hs1 htl
  have h2 := fun W h => group_any ax cx (l.take 60) W h htl
  have h3 := beside_any ((groupN (l.take 60) : Nat) : Int) m
  rw [cnt_nat _ (groupN_lt _), bes_group] at h3
  generalize groupN (l.take 60) = q at *
  generalize allB (l.take 60) m = r at *
  generalize l.take 60 = l2 at *
  clear h0
  go_wp2_with fail
  refine h1.mono ?_
  rintro e w2 ⟨rfl, hb2⟩
  have hs2 := hs1.below hb2
  go_wp2_with fail
  refine (h2 _ hs2).mono ?_
  rintro e w3 ⟨rfl, hb3⟩
  go_wp2_with fail
  refine (h3 _).mono ?_
  rintro e w4 ⟨rfl, hb4⟩
  go_wp2_with (go_at_call 18; go_must (refine (lives_any _).mono ?_); rintro e w5 ⟨rfl, hb5⟩)
  go_ret
  exact ⟨rfl, below_next (below_next (below_next (below_next hb1 hb2) hb3) hb4) hb5⟩
end Go.Proofs.Yticgonloglkooaa
