/-
  The walks of Max, the program's and the document's.
-/
import Derived.Test.YtflemjdeciekeaaAr
import Derived.Laws.AppendOwnNone
namespace Go.Proofs.Ytflemjdeciekeaa
open Go.RowKit

/-- The greatest of some numbers. -/
def maxL : List Nat → Nat
  | [] => 0
  | x :: r => max x (maxL r)

theorem maxL_snoc (l : List Nat) (x : Nat) : maxL (l ++ [x]) = max (maxL l) x := by
  induction l with
  | nil => simp [maxL]
  | cons y r ih => simp only [List.cons_append, maxL, ih]; omega

theorem max_any (a : Option Addr) (c : Nat) (l : List Nat) (w : World) (hsl : SlV w a (u64s l)) (hll : l.length ≤ maxLen) :
    Calls Try.prog 16 #[.slice a l.length c] w fun e w' => e = .returned (.int .u64 ((maxL l : Nat) : Int)) ∧ w' = w := by
  unfold maxLen at hll
  go_enter Try.func16, Try.ntmps16
  go_wp2
  go_loop [3, 8] (fun m i => ∃ k : Nat, k ≤ l.length ∧ m = .int .u64 ((maxL (l.take k) : Nat) : Int) ∧ i = .int .i64 k) (fun _ i => l.length - (intOf i).toNat)
  case atStart => exact ⟨0, by omega, rfl, rfl⟩
  case round =>
    obtain ⟨k, hk, rfl, rfl⟩ := hrel
    by_cases hlt : k < l.length
    · obtain ⟨g, o, rfl, hcell, hg⟩ := hsl.at k _ (u64s_at l k hlt)
      have HM : Hid (max ((maxL (l.take k) : Nat) : Int) ((l[k] : Nat) : Int) = ((maxL (l.take (k + 1)) : Nat) : Int)) := by
        show _ = _
        rw [List.take_succ_eq_append_getElem hlt, maxL_snoc]
        omega
      generalize maxL (l.take k) = q at *
      generalize l[k] = x at *
      go_wp2
      go_round
      case rel => exact ⟨k + 1, by omega, by rw [HM.out], by go_num⟩
      case measure => simp [intOf]; omega
    · have e : l.take k = l := List.take_of_length_le (by omega)
      rw [e]
      go_wp2
      go_ret
      exact ⟨rfl, rfl⟩

theorem refmax_any (a : Option Addr) (c : Nat) (l : List Nat) (w : World) (hsl : SlV w a (u64s l)) (hll : l.length ≤ maxLen) :
    Calls Try.prog 17 #[.slice a l.length c] w fun e w' => e = .returned (.int .u64 ((maxL l : Nat) : Int)) ∧ w' = w := by
  unfold maxLen at hll
  go_enter Try.func17, Try.ntmps17
  go_wp2
  go_loop [3, 4] (fun m i => ∃ k q : Nat, k ≤ l.length ∧ m = .int .u64 (q : Int) ∧ q = maxL (l.take k) ∧ i = .int .i64 k) (fun _ i => l.length - (intOf i).toNat)
  case atStart => exact ⟨0, 0, by omega, rfl, rfl, rfl⟩
  case round =>
    obtain ⟨k, q, hk, rfl, hq, rfl⟩ := hrel
    by_cases hlt : k < l.length
    · obtain ⟨g, o, rfl, hcell, hg⟩ := hsl.at k _ (u64s_at l k hlt)
      have HM : Hid (maxL (l.take (k + 1)) = max q l[k]) := by
        show _ = _
        rw [List.take_succ_eq_append_getElem hlt, maxL_snoc, hq]
      clear hq
      generalize l[k] = x at *
      by_cases hx : (q : Int) < (x : Int)
      · go_wp2
        go_round
        case rel => exact ⟨k + 1, x, by omega, rfl, by rw [HM.out]; omega, by go_num⟩
        case measure => simp [intOf]; omega
      · go_wp2
        go_round
        case rel => exact ⟨k + 1, q, by omega, rfl, by rw [HM.out]; omega, by go_num⟩
        case measure => simp [intOf]; omega
    · have e : l.take k = l := List.take_of_length_le (by omega)
      rw [e] at hq
      go_wp2
      go_ret
      exact ⟨rfl, rfl⟩
end Go.Proofs.Ytflemjdeciekeaa
