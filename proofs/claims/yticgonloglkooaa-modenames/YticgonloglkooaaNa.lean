/-
  The walks of names, Name and Parse, the program's and the document's.
-/
import Derived.Test.YticgonloglkooaaRj
namespace Go.Proofs.Yticgonloglkooaa
open Go.RowKit

/-- A mode's name. -/
def nameS (x : Nat) : ByteArray :=
  match x with
  | 0 => ⟨#[110, 111, 110, 101]⟩
  | 1 => ⟨#[105, 115]⟩
  | 2 => ⟨#[105, 120]⟩
  | 3 => ⟨#[115]⟩
  | 4 => ⟨#[115, 105, 120]⟩
  | _ => ⟨#[120]⟩
def namesV : Array Value := #[.string (nameS 0), .string (nameS 1), .string (nameS 2), .string (nameS 3), .string (nameS 4), .string (nameS 5)]

theorem names_any (w : World) : Calls Try.prog 32 #[] w fun e w' => e = .returned (.agg namesV) ∧ Below w.heap.size w w' := by
  go_enter Try.func32, Try.ntmps32
  go_wp2_with (refine wpList_store_new rfl 48 _ _ rfl rfl namesV rfl _ (by kernel_rfl) rfl (by kernel_rfl) rfl ?_)
  refine bodyPost_ret (v := .agg namesV) ?_ rfl ⟨rfl, (Below.refl _ _).alloc (Nat.le_refl _) _⟩
  exact results_cell_row (P := Try.prog) Try.results32 _ _ w.heap.size 48 namesV (0, 0) _ rfl (heap_alloc_new w _) Try.underlying48 rfl (by kernel_rfl)

theorem index_names (x : Nat) (hx : x < 6) (w : World) : (Instr.index 48 (.agg namesV) (.int .i64 (x : Int))).run Try.prog w = .ok (.string (nameS x)) w := by
  obtain rfl | rfl | rfl | rfl | rfl | rfl := six_of hx
  all_goals kernel_rfl

theorem name_any (a : Int) (w : World) : Calls Try.prog 26 #[.int .i64 a] w fun e w' => e = .returned (.string (nameS (cnt a))) ∧ Below w.heap.size w w' := by
  have h1 := index_names (cnt a) (cnt_lt a)
  have h2 := counted_any a
  generalize nameS (cnt a) = s at *
  go_enter Try.func26, Try.ntmps26
  go_wp2_with (first | (go_at_call 32; go_must (refine (names_any _).mono ?_); rintro e w1 ⟨rfl, hb1⟩) | (go_at_call 30; go_must (refine (h2 _).mono ?_); rintro e w' ⟨rfl, hw⟩; obtain rfl := hw.symm))
  go_ret
  exact ⟨rfl, hb1⟩

theorem refname_any (a : Int) (w : World) : Calls Try.prog 27 #[.int .i64 a] w fun e w' => e = .returned (.string (nameS (cnt a))) ∧ Below w.heap.size w w' := by
  have h2 := sure_any a
  have hx := cnt_lt a
  generalize cnt a = x at *
  obtain rfl | rfl | rfl | rfl | rfl | rfl := six_of hx
  all_goals
    clear hx
    go_enter Try.func27, Try.ntmps27
    go_wp2_with (go_at_call 28; go_must (refine (h2 _).mono ?_); rintro e w' ⟨rfl, hw⟩; obtain rfl := hw.symm)
    go_ret
    exact ⟨rfl, (Below.refl _ _).alloc (Nat.le_refl _) _⟩

/-- The place of a name; 6: it is none. -/
def pk (s : ByteArray) : Nat := if nameS 0 = s then 0 else if nameS 1 = s then 1 else if nameS 2 = s then 2 else if nameS 3 = s then 3 else if nameS 4 = s then 4 else if nameS 5 = s then 5 else 6
def pM (s : ByteArray) : Nat := if pk s < 6 then pk s else 0
def pE (s : ByteArray) : Int := if pk s < 6 then 0 else 5

theorem pk_le (s : ByteArray) : pk s ≤ 6 := by
  unfold pk
  repeat (first | omega | split)
theorem pk_before (s : ByteArray) (k : Nat) (h : k < pk s) : nameS k ≠ s := by
  have h6 := pk_le s
  have hk6 : k < 6 := by omega
  unfold pk at h
  obtain rfl | rfl | rfl | rfl | rfl | rfl := six_of hk6
  all_goals
    intro hk
    revert h
    repeat (first | (simp [hk]; done) | split | omega)
theorem pk_at (s : ByteArray) (h : pk s < 6) : nameS (pk s) = s := by
  unfold pk at *
  by_cases h0 : nameS 0 = s
  · simp only [h0, if_true]
  by_cases h1 : nameS 1 = s
  · simp only [h0, h1, if_true, if_false]
  by_cases h2 : nameS 2 = s
  · simp only [h0, h1, h2, if_true, if_false]
  by_cases h3 : nameS 3 = s
  · simp only [h0, h1, h2, h3, if_true, if_false]
  by_cases h4 : nameS 4 = s
  · simp only [h0, h1, h2, h3, h4, if_true, if_false]
  by_cases h5 : nameS 5 = s
  · simp only [h0, h1, h2, h3, h4, h5, if_true, if_false]
  · simp [h0, h1, h2, h3, h4, h5] at h
theorem pk_name (x : Nat) (hx : x < 6) : pk (nameS x) = x := by
  obtain rfl | rfl | rfl | rfl | rfl | rfl := six_of hx
  all_goals decide

theorem ne_bytes {a b : ByteArray} (h : a ≠ b) : (a.toList == b.toList) = false := by
  rw [beq_eq_false_iff_ne]
  intro e
  apply h
  rw [ByteArray.toList_eq, ByteArray.toList_eq] at e
  cases a
  cases b
  simp at e
  subst e
  rfl

theorem parse_any (s : ByteArray) (w : World) : Calls Try.prog 24 #[.string s] w fun e w' => e = .returned (.tuple #[.int .i64 ((pM s : Nat) : Int), .int .i64 (pE s)]) ∧ Below w.heap.size w w' := by
  have hle := pk_le s
  have HB : Hid (∀ k, k < pk s → nameS k ≠ s) := pk_before s
  have HA : Hid (pk s < 6 → nameS (pk s) = s) := pk_at s
  have HM : Hid (pM s = if pk s < 6 then pk s else 0) := rfl
  have HE : Hid (pE s = if pk s < 6 then 0 else 5) := rfl
  generalize pM s = M at *
  generalize pE s = E at *
  generalize pk s = K at *
  go_enter Try.func24, Try.ntmps24
  go_wp2_with fail
  refine (names_any _).mono ?_
  rintro e w1 ⟨rfl, hb1⟩
  go_wp2_with fail
  go_loop [7] (fun i => ∃ k : Nat, k ≤ K ∧ i = .int .i64 k) (fun i => 6 - (intOf i).toNat)
  case atStart => exact ⟨0, by omega, rfl⟩
  case round =>
    obtain ⟨k, hk, rfl⟩ := hrel
    by_cases hlt : k < 6
    · have hi := index_names k hlt
      by_cases hkK : k = K
      · subst hkK
        have hn := HA.out hlt
        rw [hn] at hi
        clear hn
        go_wp2
        refine bodyPost_ret (v := .tuple #[.int .i64 (k : Int), .int .i64 0]) (by simp [results, Try.results24, go_sem]) rfl ?_
        exact ⟨by rw [HM.out, HE.out, if_pos hlt, if_pos hlt], hb1⟩
      · have hn := ne_bytes (HB.out k (by omega))
        go_wp2
        go_round
        case rel => exact ⟨k + 1, by omega, by go_num⟩
        case measure => simp [intOf]; omega
    · have hK : ¬ (K < 6) := by omega
      go_wp2
      refine bodyPost_ret (v := .tuple #[.int .i64 0, .int .i64 5]) (by simp [results, Try.results24, go_sem]) rfl ?_
      exact ⟨by rw [HM.out, HE.out, if_neg hK, if_neg hK]; rfl, hb1⟩

theorem refparse_any (s : ByteArray) (w : World) : Calls Try.prog 25 #[.string s] w fun e w' => e = .returned (.tuple #[.int .i64 ((pM s : Nat) : Int), .int .i64 (pE s)]) ∧ Below w.heap.size w w' := by
  have hle := pk_le s
  have HB : Hid (∀ k, k < pk s → nameS k ≠ s) := pk_before s
  have HA : Hid (pk s < 6 → nameS (pk s) = s) := pk_at s
  have HM : Hid (pM s = if pk s < 6 then pk s else 0) := rfl
  have HE : Hid (pE s = if pk s < 6 then 0 else 5) := rfl
  generalize pM s = M at *
  generalize pE s = E at *
  generalize pk s = K at *
  go_enter Try.func25, Try.ntmps25
  go_wp2_with fail
  go_loopw [4] (fun i wr => ∃ k : Nat, k ≤ K ∧ i = .int .i64 k ∧ Below w.heap.size w wr) (fun i _ => 6 - (intOf i).toNat)
  case atStart => exact ⟨0, by omega, rfl, Below.refl _ _⟩
  case round =>
    obtain ⟨k, hk, rfl, hB⟩ := hrel
    by_cases hlt : k < 6
    · have hi := refname_any (k : Int)
      rw [cnt_nat k hlt] at hi
      by_cases hkK : k = K
      · subst hkK
        have hn := HA.out hlt
        rw [hn] at hi
        clear hn
        go_wp2_with fail
        refine (hi _).mono ?_
        rintro e w1 ⟨rfl, hb1⟩
        go_wp2
        refine bodyPost_ret (v := .tuple #[.int .i64 (k : Int), .int .i64 0]) (by simp [results, Try.results25, go_sem]) rfl ?_
        exact ⟨by rw [HM.out, HE.out, if_pos hlt, if_pos hlt], below_next hB hb1⟩
      · have hn := ne_bytes (HB.out k (by omega))
        go_wp2_with fail
        refine (hi _).mono ?_
        rintro e w1 ⟨rfl, hb1⟩
        go_wp2
        go_roundw
        case rel => exact ⟨k + 1, by omega, by go_num, below_next hB hb1⟩
        case measure => simp [intOf]; omega
    · have hK : ¬ (K < 6) := by omega
      go_wp2
      refine bodyPost_ret (v := .tuple #[.int .i64 0, .int .i64 5]) (by simp [results, Try.results25, go_sem]) rfl ?_
      exact ⟨by rw [HM.out, HE.out, if_neg hK, if_neg hK]; rfl, hB⟩
end Go.Proofs.Yticgonloglkooaa
