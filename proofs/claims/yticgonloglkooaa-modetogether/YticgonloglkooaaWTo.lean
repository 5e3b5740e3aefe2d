/-
  The walk of ModeTogether.
-/
import Derived.Test.YticgonloglkooaaRj
namespace Go.Proofs.Yticgonloglkooaa
open Go.RowKit

theorem join_assoc (x y z : Nat) (hx : x < 6) (hy : y < 6) (hz : z < 6) : joinN x (joinN y z) = joinN (joinN x y) z := by
  have hd : ∀ x : Fin 6, ∀ y : Fin 6, ∀ z : Fin 6, joinN x.val (joinN y.val z.val) = joinN (joinN x.val y.val) z.val := by decide
  exact hd ⟨x, hx⟩ ⟨y, hy⟩ ⟨z, hz⟩
theorem cov_least (x y z : Nat) (hx : x < 6) (hy : y < 6) (hz : z < 6) : covB z x = false ∨ (covB z x = true ∧ covB z y = false) ∨ (covB z x = true ∧ covB z y = true ∧ covB z (joinN x y) = true) := by
  have hd : ∀ x : Fin 6, ∀ y : Fin 6, ∀ z : Fin 6, covB z.val x.val = false ∨ (covB z.val x.val = true ∧ covB z.val y.val = false) ∨ (covB z.val x.val = true ∧ covB z.val y.val = true ∧ covB z.val (joinN x.val y.val) = true) := by decide
  exact hd ⟨x, hx⟩ ⟨y, hy⟩ ⟨z, hz⟩

set_option maxHeartbeats 2000000 in
theorem together_walk (a b c : Int) (w : World) :
    Calls Try.prog 7 #[.int .i64 a, .int .i64 b, .int .i64 c] w fun e w' => e = .returned (.bool true) ∧ Below w.heap.size w w' := by
  have hx := cnt_lt a
  have hy := cnt_lt b
  have hz := cnt_lt c
  have hJ := joinN_lt _ _ hx hy
  have hK := joinN_lt _ _ hy hz
  have h1 := join_any a b
  have h2 := join_any ((joinN (cnt a) (cnt b) : Nat) : Int) c
  have h3 := join_any b c
  have h4 := join_any a ((joinN (cnt b) (cnt c) : Nat) : Int)
  have h5 := covers_any ((joinN (cnt a) (cnt b) : Nat) : Int) a
  have h6 := covers_any ((joinN (cnt a) (cnt b) : Nat) : Int) b
  have h7 := covers_any c a
  have h8 := covers_any c b
  have h9 := covers_any c ((joinN (cnt a) (cnt b) : Nat) : Int)
  rw [cnt_nat _ hJ] at h2 h5 h6 h9
  rw [cnt_nat _ hK, join_assoc _ _ _ hx hy hz] at h4
  rw [(cov_there _ _ hx hy).1] at h5
  rw [(cov_there _ _ hx hy).2] at h6
  have hl := cov_least _ _ _ hx hy hz
  clear hJ hK
  generalize joinN (joinN (cnt a) (cnt b)) (cnt c) = L at *
  generalize joinN (cnt a) (cnt b) = J at *
  generalize joinN (cnt b) (cnt c) = K at *
  rcases hl with hl | ⟨hl, hm⟩ | ⟨hl, hm, hn⟩
  · rw [hl] at h7
    clear hl hx hy hz h8 h9
    go_enter Try.func7, Try.ntmps7
    go_wp2_with fail
    refine (h1 _).mono ?_
    rintro e w1 ⟨rfl, hb1⟩
    go_wp2_with fail
    refine (h2 _).mono ?_
    rintro e w2 ⟨rfl, hb2⟩
    go_wp2_with fail
    refine (h3 _).mono ?_
    rintro e w3 ⟨rfl, hb3⟩
    go_wp2_with fail
    refine (h4 _).mono ?_
    rintro e w4 ⟨rfl, hb4⟩
    go_wp2_with fail
    refine (h5 _).mono ?_
    rintro e w5 ⟨rfl, hb5⟩
    go_wp2_with fail
    refine (h6 _).mono ?_
    rintro e w6 ⟨rfl, hb6⟩
    go_wp2_with fail
    refine (h7 _).mono ?_
    rintro e w7 ⟨rfl, hb7⟩
    go_wp2_with (go_at_call 18; go_must (refine (lives_any _).mono ?_); rintro e wl ⟨rfl, hbl⟩)
    go_ret
    exact ⟨rfl, below_next (below_next (below_next (below_next (below_next (below_next (below_next hb1 hb2) hb3) hb4) hb5) hb6) hb7) hbl⟩
  · rw [hl] at h7
    rw [hm] at h8
    clear hl hm hx hy hz h9
    go_enter Try.func7, Try.ntmps7
    go_wp2_with fail
    refine (h1 _).mono ?_
    rintro e w1 ⟨rfl, hb1⟩
    go_wp2_with fail
    refine (h2 _).mono ?_
    rintro e w2 ⟨rfl, hb2⟩
    go_wp2_with fail
    refine (h3 _).mono ?_
    rintro e w3 ⟨rfl, hb3⟩
    go_wp2_with fail
    refine (h4 _).mono ?_
    rintro e w4 ⟨rfl, hb4⟩
    go_wp2_with fail
    refine (h5 _).mono ?_
    rintro e w5 ⟨rfl, hb5⟩
    go_wp2_with fail
    refine (h6 _).mono ?_
    rintro e w6 ⟨rfl, hb6⟩
    go_wp2_with fail
    refine (h7 _).mono ?_
    rintro e w7 ⟨rfl, hb7⟩
    go_wp2_with fail
    refine (h8 _).mono ?_
    rintro e w8 ⟨rfl, hb8⟩
    go_wp2_with (go_at_call 18; go_must (refine (lives_any _).mono ?_); rintro e wl ⟨rfl, hbl⟩)
    go_ret
    exact ⟨rfl, below_next (below_next (below_next (below_next (below_next (below_next (below_next (below_next hb1 hb2) hb3) hb4) hb5) hb6) hb7) hb8) hbl⟩
  · rw [hl] at h7
    rw [hm] at h8
    rw [hn] at h9
    clear hl hm hn hx hy hz
    go_enter Try.func7, Try.ntmps7
    go_wp2_with fail
    refine (h1 _).mono ?_
    rintro e w1 ⟨rfl, hb1⟩
    go_wp2_with fail
    refine (h2 _).mono ?_
    rintro e w2 ⟨rfl, hb2⟩
    go_wp2_with fail
    refine (h3 _).mono ?_
    rintro e w3 ⟨rfl, hb3⟩
    go_wp2_with fail
    refine (h4 _).mono ?_
    rintro e w4 ⟨rfl, hb4⟩
    go_wp2_with fail
    refine (h5 _).mono ?_
    rintro e w5 ⟨rfl, hb5⟩
    go_wp2_with fail
    refine (h6 _).mono ?_
    rintro e w6 ⟨rfl, hb6⟩
    go_wp2_with fail
    refine (h7 _).mono ?_
    rintro e w7 ⟨rfl, hb7⟩
    go_wp2_with fail
    refine (h8 _).mono ?_
    rintro e w8 ⟨rfl, hb8⟩
    go_wp2_with fail
    refine (h9 _).mono ?_
    rintro e w9 ⟨rfl, hb9⟩
    go_wp2_with (go_at_call 18; go_must (refine (lives_any _).mono ?_); rintro e wl ⟨rfl, hbl⟩)
    go_ret
    exact ⟨rfl, below_next (below_next (below_next (below_next (below_next (below_next (below_next (below_next (below_next hb1 hb2) hb3) hb4) hb5) hb6) hb7) hb8) hb9) hbl⟩
end Go.Proofs.Yticgonloglkooaa
