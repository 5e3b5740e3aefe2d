/-
  A key's sum and home.
-/
import Derived.Test.YtebchgoaelamcaaDoorX1
import Derived.Test.YtebchgoaelamcaaDoorChecked
import Derived.Lib.Hide
namespace Go.Proofs.YtebchgoaelamcaaDoor
open Go.RowKit
set_option maxRecDepth 100000

def hstep (n : Int) (b : UInt8) : Int := IntKind.u64.wrap (bits .xor .u64 n (IntKind.u64.wrap b.toNat) * 1099511628211)
def hsum (l : List UInt8) : Int := l.foldl hstep 14695981039346656037
theorem hsum_step (key : List UInt8) (k : Nat) (h : k < key.length) : hsum (key.take (k + 1)) = hstep (hsum (key.take k)) key[k] := by
  unfold hsum
  rw [List.take_succ_eq_append_getElem h, List.foldl_append]
  rfl
theorem wrap64 (x : Int) : 0 ≤ IntKind.u64.wrap x ∧ IntKind.u64.wrap x < 18446744073709551616 := by
  have h1 : IntKind.u64.signed = false := rfl
  have h2 : (2 : Int) ^ IntKind.u64.bits = 18446744073709551616 := by decide
  simp only [IntKind.wrap, h1, Bool.false_and, Bool.false_eq_true, if_false, h2]
  omega
theorem hsum_in (l : List UInt8) : 0 ≤ hsum l ∧ hsum l < 18446744073709551616 := by
  rcases List.eq_nil_or_concat l with rfl | ⟨a, b, rfl⟩
  · simp [hsum]
  · simp only [hsum, List.concat_eq_append, List.foldl_append, List.foldl_cons, List.foldl_nil]
    exact wrap64 _
theorem txt_get (key : List UInt8) (k : Nat) (_h : k < key.length) (h' : k < (txt key).size) : (txt key)[k] = key[k] := by
  simp [txt]
  rfl
/-- Where a key is at home. -/
def homeI (key : List UInt8) (n : Int) : Int := if n < 1 then 0 else hsum key % n
theorem homeI_in (key : List UInt8) (n : Int) : 0 ≤ homeI key n ∧ (0 < n → homeI key n < n) := by
  unfold homeI
  split
  · exact ⟨by omega, fun h => by omega⟩
  · exact ⟨Int.emod_nonneg _ (by omega), fun h => Int.emod_lt_of_pos _ h⟩

theorem wrap_home {s n : Int} (h0 : 1 ≤ n) (h1 : n ≤ 9223372036854775807) : RowKit.wrap64 (s % n) = s % n := by
  have a := Int.emod_nonneg s (show n ≠ 0 by omega)
  have b := Int.emod_lt_of_pos s (show 0 < n by omega)
  unfold RowKit.wrap64
  omega
theorem hsum_any (key : List UInt8) (hk0 : key.length ≤ 9223372036854775807) (w : World) : Calls Tryd.prog 34 #[.string (txt key)] w fun e w' => e = .returned (.int .u64 (hsum key)) ∧ w' = w := by
  go_enter Tryd.func34, Tryd.ntmps34
  go_wp2_with fail
  rw [txt_size]
  go_loop [3, 7] (fun n i => ∃ k : Nat, k ≤ key.length ∧ i = .int .i64 k ∧ n = .int .u64 (hsum (key.take k))) (fun _ i => key.length - (intOf i).toNat)
  case atStart => exact ⟨0, Nat.zero_le _, rfl, by simp [hsum]⟩
  case round =>
    obtain ⟨k, hk, rfl, rfl⟩ := hrel
    have hs := txt_size key
    by_cases hlt : k < key.length
    · go_wp2_with fail
      refine ⟨⟨k + 1, by omega, by simp, ?_⟩, by simp only [intOf]; omega⟩
      rw [hsum_step key k hlt, txt_get key k hlt]
      rfl
    · go_wp2_with fail
      go_ret
      have e : k = key.length := by omega
      subst e
      simp
theorem home_any (key : List UInt8) (hk0 : key.length ≤ 9223372036854775807) (n : Int) (h0 : -9223372036854775808 ≤ n) (h1 : n ≤ 9223372036854775807) (w : World) : Calls Tryd.prog 11 #[.string (txt key), .int .i64 n] w fun e w' => e = .returned (.int .i64 (homeI key n)) ∧ w' = w := by
  have hs := hsum_in key
  go_enter Tryd.func11, Tryd.ntmps11
  by_cases hn : n < 1
  · go_wp2_with fail
    go_ret
    simp [homeI, hn]
  · go_wp2_with fail
    refine Calls.mono (hsum_any key hk0 _) ?_
    rintro e w' ⟨rfl, rfl⟩
    go_wp2_with fail
    go_ret
    rw [wrap_home hn h1]
    simp [homeI, show ¬ n < 1 by omega]
theorem refhome_any (key : List UInt8) (hk0 : key.length ≤ 9223372036854775807) (n : Int) (h0 : -9223372036854775808 ≤ n) (h1 : n ≤ 9223372036854775807) (w : World) : Calls Tryd.prog 12 #[.string (txt key), .int .i64 n] w fun e w' => e = .returned (.int .i64 (homeI key n)) ∧ w' = w := by
  have hs := hsum_in key
  go_enter Tryd.func12, Tryd.ntmps12
  by_cases hn : n < 1
  · go_wp2_with fail
    go_ret
    simp [homeI, hn]
  · go_wp2_with fail
    go_loop [5, 6] (fun n i => ∃ k : Nat, k ≤ key.length ∧ i = .int .i64 k ∧ n = .int .u64 (hsum (key.take k))) (fun _ i => key.length - (intOf i).toNat)
    case atStart => exact ⟨0, Nat.zero_le _, rfl, by simp [hsum]⟩
    case round =>
      obtain ⟨k, hk, rfl, rfl⟩ := hrel
      have hsz := txt_size key
      by_cases hlt : k < key.length
      · go_wp2_with fail
        refine ⟨⟨k + 1, by omega, by simp, ?_⟩, by simp only [intOf]; omega⟩
        rw [hsum_step key k hlt, txt_get key k hlt]
        rfl
      · have e : k = key.length := by omega
        subst e
        rw [List.take_length]
        go_wp2_with fail
        go_ret
        rw [wrap_home hn h1]
        simp [homeI, show ¬ n < 1 by omega]
end Go.Proofs.YtebchgoaelamcaaDoor
