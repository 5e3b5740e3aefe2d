/-
  What the functions of layer 3 answer, and their walks: the ones without memory.
-/
import Derived.WalkKit
import Derived.WalkSpells
import Derived.WalkLawsBesides
import Derived.Deep.RegionLaw
import Derived.Test.YtflemjdeciekeaaRows
namespace Go.Proofs.Ytflemjdeciekeaa
open Go.RowKit

/-- What Make answers: the number and the error. -/
def mkL (n : Nat) (i : Int) : Nat := if i < 0 ∨ 7 < i then 0 else if n < 1 ∨ 72057594037927936 < n then 0 else 16 * n + i.toNat
def mkE (n : Nat) (i : Int) : Int := if i < 0 ∨ 7 < i then 1 else if n < 1 ∨ 72057594037927936 < n then 11 else 0

theorem mk_badInst {n : Nat} {i : Int} (h : i < 0 ∨ 7 < i) : mkL n i = 0 ∧ mkE n i = 1 := by simp [mkL, mkE, h]
theorem mk_badCount {n : Nat} {i : Int} (h : ¬ (i < 0 ∨ 7 < i)) (h2 : n < 1 ∨ 72057594037927936 < n) : mkL n i = 0 ∧ mkE n i = 11 := by unfold mkL mkE; rw [if_neg h, if_pos h2, if_neg h, if_pos h2]; exact ⟨rfl, rfl⟩
theorem mk_good {n : Nat} {i : Int} (h : ¬ (i < 0 ∨ 7 < i)) (h2 : ¬ (n < 1 ∨ 72057594037927936 < n)) : mkL n i = 16 * n + i.toNat ∧ mkE n i = 0 := by unfold mkL mkE; rw [if_neg h, if_neg h2, if_neg h, if_neg h2]; exact ⟨rfl, rfl⟩

/-- Is a number valid? -/
def okL (l : Nat) : Bool := decide (1 ≤ l / 16 ∧ l / 16 ≤ 72057594037927936 ∧ l % 16 < 8)

theorem isInst_yes (i : Int) (w : World) (h0 : 0 ≤ i) (h7 : i < 8) : Calls Try.prog 23 #[.int .i64 i] w fun e w' => e = .returned (.bool true) ∧ w' = w := by
  go_enter Try.func23, Try.ntmps23
  go_wp2
  go_ret
  exact ⟨rfl, rfl⟩

theorem isInst_no (i : Int) (w : World) (h : i < 0 ∨ 7 < i) : Calls Try.prog 23 #[.int .i64 i] w fun e w' => e = .returned (.bool false) ∧ w' = w := by
  rcases h with h | h
  · have h' : ¬ (0 ≤ i) := by omega
    go_enter Try.func23, Try.ntmps23
    go_wp2
    go_ret
    exact ⟨rfl, rfl⟩
  · have h' : ¬ (i < 8) := by omega
    have h0 : 0 ≤ i := by omega
    go_enter Try.func23, Try.ntmps23
    go_wp2
    go_ret
    exact ⟨rfl, rfl⟩

theorem isCount_yes (n : Nat) (w : World) (h0 : 1 ≤ n) (h7 : n ≤ 72057594037927936) : Calls Try.prog 24 #[.int .u64 (n : Int)] w fun e w' => e = .returned (.bool true) ∧ w' = w := by
  have h1 : (1 : Int) ≤ (n : Int) := by omega
  have h2 : ((n : Int) ≤ 72057594037927936) := by omega
  go_enter Try.func24, Try.ntmps24
  go_wp2
  go_ret
  exact ⟨rfl, rfl⟩

theorem isCount_no (n : Nat) (w : World) (h : n < 1 ∨ 72057594037927936 < n) : Calls Try.prog 24 #[.int .u64 (n : Int)] w fun e w' => e = .returned (.bool false) ∧ w' = w := by
  rcases h with h | h
  · obtain rfl : n = 0 := by omega
    go_enter Try.func24, Try.ntmps24
    go_wp2
    go_ret
    exact ⟨rfl, rfl⟩
  · have h1 : (1 : Int) ≤ (n : Int) := by omega
    have h2 : ¬ ((n : Int) ≤ 72057594037927936) := by omega
    go_enter Try.func24, Try.ntmps24
    go_wp2
    go_ret
    exact ⟨rfl, rfl⟩

theorem make_any (n : Nat) (i : Int) (w : World) : Calls Try.prog 9 #[.int .u64 (n : Int), .int .i64 i] w fun e w' => e = .returned (.tuple #[.int .u64 ((mkL n i : Nat) : Int), .int .i64 (mkE n i)]) ∧ w' = w := by
  by_cases h : i < 0 ∨ 7 < i
  · obtain ⟨e1, e2⟩ := mk_badInst (n := n) h
    rw [e1, e2]
    have hc := isInst_no i w h
    clear h e1 e2
    go_enter Try.func9, Try.ntmps9
    go_wp2_with (go_at_call 23; go_must (refine hc.mono ?_); rintro e w' ⟨rfl, hw⟩; obtain rfl := hw.symm)
    refine bodyPost_ret (v := .tuple #[.int .u64 0, .int .i64 1]) (by simp [results, Try.results9, go_sem]) rfl ?_
    exact ⟨rfl, rfl⟩
  · have hc := isInst_yes i w (by omega) (by omega)
    by_cases h2 : n < 1 ∨ 72057594037927936 < n
    · obtain ⟨e1, e2⟩ := mk_badCount h h2
      rw [e1, e2]
      have hc2 := isCount_no n w h2
      clear h h2 e1 e2
      go_enter Try.func9, Try.ntmps9
      go_wp2_with (first | (go_at_call 23; go_must (refine hc.mono ?_); rintro e w' ⟨rfl, hw⟩; obtain rfl := hw.symm) | (go_at_call 24; go_must (refine hc2.mono ?_); rintro e w' ⟨rfl, hw⟩; obtain rfl := hw.symm))
      refine bodyPost_ret (v := .tuple #[.int .u64 0, .int .i64 11]) (by simp [results, Try.results9, go_sem]) rfl ?_
      exact ⟨rfl, rfl⟩
    · obtain ⟨e1, e2⟩ := mk_good h h2
      rw [e1, e2]
      have hc2 := isCount_yes n w (by omega) (by omega)
      go_enter Try.func9, Try.ntmps9
      go_wp2_with (first | (go_at_call 23; go_must (refine hc.mono ?_); rintro e w' ⟨rfl, hw⟩; obtain rfl := hw.symm) | (go_at_call 24; go_must (refine hc2.mono ?_); rintro e w' ⟨rfl, hw⟩; obtain rfl := hw.symm))
      refine bodyPost_ret (v := .tuple #[.int .u64 (16 * (n : Int) + i), .int .i64 0]) (by simp [results, Try.results9, go_sem]) rfl ?_
      exact ⟨by rw [show (16 * (n : Int) + i) = ((16 * n + i.toNat : Nat) : Int) by omega], rfl⟩
end Go.Proofs.Ytflemjdeciekeaa
