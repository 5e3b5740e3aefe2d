/-
  The walks of the document's Num and Text.
-/
import Derived.Test.YticadfaclnimgaaRt
namespace Go.Proofs.Yticadfaclnimgaa
open Go.RowKit

theorem WOk.new (w : World) (B : Nat) (hB : B ≤ w.heap.size) : WOk (w.alloc (.cells #[.slice none 0 0] 142)) B w.heap.size (.slice none 0 0) [] :=
  ⟨hB, heap_alloc_new w _, World.ownsRow_nil _ _ _ _⟩

theorem conv_own {w : World} {B : Nat} {a : Option Addr} {n c : Nat} {l : List UInt8} (h : w.ownsRow B 5 1 (.slice a n c) l.length (bcells l)) :
    (convert 99 9 (.slice a n c)).run Try.prog w = .ok (.string ⟨l.toArray⟩) w := by
  obtain ⟨hsl, rfl, _⟩ := slB_of_own h
  cases a with
  | none =>
    have := hsl.nonil rfl
    subst this
    exact run_convert_bytes_nil w 99 5 Try.underlying99 Try.underlying5 _ _ 9 Try.underlying9
  | some x =>
    exact run_convert_bytes_back w 99 9 5 x c l Try.underlying99 Try.underlying5 Try.underlying9 (fun j hj => hsl.cells x rfl j _ (by simp [bcells, List.getElem?_eq_getElem hj]))

theorem leB_mod (n k m : Nat) (h : m ≤ k) : leB (n % 256 ^ k) m = leB n m := by
  induction m with
  | zero => rfl
  | succ m ih =>
    simp only [leB]
    rw [ih (by omega)]
    congr 2
    apply UInt8.toNat_inj.1
    simp only [UInt8.toNat_ofNat', Nat.reducePow]
    have e : 256 ^ k = 256 ^ m * (256 * 256 ^ (k - m - 1)) := by
      rw [← Nat.pow_succ', ← Nat.pow_add]
      congr 1
      omega
    rw [e, Nat.mod_mul_right_div_self, Nat.mod_mul_right_mod]

theorem leB_mod' (N : Int) (k : Nat) (h : 0 ≤ N) : leB (N % ((256 ^ k : Nat) : Int)).toNat k = leB N.toNat k := by
  obtain ⟨n, rfl⟩ := Int.eq_ofNat_of_zero_le h
  have : (((n : Nat) : Int) % ((256 ^ k : Nat) : Int)).toNat = n % 256 ^ k := by
    rw [← Int.natCast_emod, Int.toNat_natCast]
  rw [this, Int.toNat_natCast]
  exact leB_mod n k k (Nat.le_refl _)

theorem bytes_append (l m : List UInt8) : (⟨l.toArray⟩ : ByteArray) ++ ⟨m.toArray⟩ = ⟨(l ++ m).toArray⟩ := by
  apply ByteArray.ext
  simp

theorem conv_one (w : World) (b : UInt8) : (convert 99 9 (.slice (some ⟨w.heap.size, 0, none⟩) 1 1)).run Try.prog (w.alloc (.cells #[.int .u8 (b.toNat : Int)] 5)) = .ok (.string ⟨#[b]⟩) (w.alloc (.cells #[.int .u8 (b.toNat : Int)] 5)) := by
  have := run_convert_bytes_back (P := Try.prog) (w.alloc (.cells #[.int .u8 (b.toNat : Int)] 5)) 99 9 5 ⟨w.heap.size, 0, none⟩ 1 [b] Try.underlying99 Try.underlying5 Try.underlying9 (fun j hj => by
    obtain rfl : j = 0 := by simp at hj; omega
    simp [Addr.add])
  simpa using this

set_option maxHeartbeats 400000 in
theorem num_any (n : Int) (k : Nat) (w : World) (hn : 0 ≤ n) (hn1 : n < 18446744073709551616) (hk : k ≤ 8) :
    Calls Try.prog 33 #[.int .u64 n, .int .i64 k] w fun e w' => e = .returned (.string ⟨(leB n.toNat k).toArray⟩) ∧ Below w.heap.size w w' := by
  go_enter Try.func33, Try.ntmps33
  go_wp2
  go_loopw [0, 5, 6] (fun m s i wr => ∃ j : Nat, j ≤ k ∧ i = .int .i64 j ∧ m = .int .u64 (n / 256 ^ j) ∧ s = .string ⟨(leB n.toNat j).toArray⟩ ∧ Below w.heap.size w wr) (fun _ _ i _ => k - (intOf i).toNat)
  case atStart => exact ⟨0, Nat.zero_le _, rfl, by simp, rfl, Below.refl _ _⟩
  case round =>
    obtain ⟨j, hj, rfl, rfl, rfl, hbel⟩ := hrel
    by_cases hlt : j < k
    · have hge : 0 ≤ n / 256 ^ j := Int.ediv_nonneg hn (Int.pow_nonneg (by decide))
      have hle : n / 256 ^ j ≤ n := Int.ediv_le_self _ hn
      have hL : (leB n.toNat j).length ≤ 8 := by rw [leB_length]; omega
      have hdiv : Hid (n / 256 ^ j / 256 = n / 256 ^ (j + 1)) := by
        unfold Hid
        rw [Int.ediv_ediv_of_nonneg (Int.pow_nonneg (by decide)), Int.pow_succ]
      have hcv := conv_one wr (UInt8.ofNat (n.toNat / 256 ^ j))
      rw [show ((UInt8.ofNat (n.toNat / 256 ^ j)).toNat : Int) = n / 256 ^ j % 256 by
        obtain ⟨m, rfl⟩ := Int.eq_ofNat_of_zero_le hn
        simp] at hcv
      go_wp2
      go_roundw
      case rel => exact ⟨j + 1, by omega, by go_num, by rw [hdiv.out], by rw [bytes_append]; rfl, hbel.alloc hbel.size _⟩
      case measure => simp [intOf]; omega
    · go_wp2
      go_ret
      obtain rfl : j = k := by omega
      exact ⟨rfl, hbel⟩

theorem reft_any (s : ByteArray) (w : World) (hs : s.size ≤ maxLen) :
    Calls Try.prog 49 #[.string s] w fun e w' => e = .returned (.string ⟨(textB s).toArray⟩) ∧ Below w.heap.size w w' := by
  unfold maxLen at hs
  by_cases hlong : 65535 < s.size
  · have hT : Hid ((⟨(leB 65535 2).toArray⟩ : ByteArray) ++ s.extract 0 65535 = ⟨(textB s).toArray⟩) := by
      have e : s.extract 0 65535 = ⟨(s.data.toList.take 65535).toArray⟩ := by
        apply ByteArray.ext
        apply Array.toList_inj.1
        rw [extract_list]
      have e2 : (s.data.toList.take 65535).length = 65535 := by simp; omega
      unfold Hid
      rw [e, bytes_append, textB, e2]
    have hmin : min 65535 s.size = 65535 := by omega
    have hL : (leB 65535 2).length ≤ 8 := by rw [leB_length]; omega
    go_enter Try.func49, Try.ntmps49
    go_wp2_with (go_at_call 33; go_must (refine (num_any 65535 2 _ (by omega) (by omega) (by omega)).mono ?_); rintro e w1 ⟨rfl, hb⟩)
    go_ret
    refine ⟨?_, hb⟩
    rw [← hT.out]
    rfl
  · have hT : Hid ((⟨(leB s.size 2).toArray⟩ : ByteArray) ++ s = ⟨(textB s).toArray⟩) := by
      have e2 : s.data.toList.take 65535 = s.data.toList := List.take_of_length_le (by simp; omega)
      have e3 : s.data.toList.length = s.size := by simp
      unfold Hid
      rw [textB, e2, e3, ← bytes_append]
    have hL : (leB s.size 2).length ≤ 8 := by rw [leB_length]; omega
    go_enter Try.func49, Try.ntmps49
    go_wp2_with (go_at_call 33; go_must (refine (num_any s.size 2 _ (by omega) (by omega) (by omega)).mono ?_); rintro e w1 ⟨rfl, hb⟩)
    go_ret
    refine ⟨?_, hb⟩
    rw [← hT.out]
    rfl

end Go.Proofs.Yticadfaclnimgaa
