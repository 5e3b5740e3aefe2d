/-
  The walks of kind, lay, and of the document's Num and Text.
-/
import Derived.Test.YtdknodmdndkneaaLv
namespace Go.Proofs.Ytdknodmdndkneaa
open Go.RowKit

/-- The kind of a thing. -/
def kindOf (K : Int) : Nat := (IntKind.u64.wrap K % 5).toNat
theorem kindOf_lt (K : Int) : kindOf K < 5 := by unfold kindOf; omega

/-- A thing's bytes. -/
def thingB (K N : Int) (s : ByteArray) : List UInt8 :=
  if kindOf K = 0 then leB N.toNat 1 else if kindOf K = 1 then leB N.toNat 2 else if kindOf K = 2 then leB N.toNat 4 else if kindOf K = 3 then leB N.toNat 8 else textB s

theorem kind_any (K N : Int) (s : ByteArray) (w : World) :
    Calls Try.prog 29 #[.agg #[.int .i64 K, .int .u64 N, .string s]] w fun e w' => e = .returned (.int .i64 (kindOf K)) ∧ w' = w.alloc (.cells #[.int .i64 K, .int .u64 N, .string s] 28) := by
  have hk : Hid (((kindOf K : Nat) : Int) = IntKind.u64.wrap K % 5) := by unfold Hid kindOf; omega
  have h0 : 0 ≤ IntKind.u64.wrap K := by rw [IntKind.wrap_u64]; omega
  go_enter Try.func29, Try.ntmps29
  go_wp2
  go_ret
  refine ⟨?_, rfl⟩
  rw [hk.out]
  rfl

theorem leB_mod (n k m : Nat) (h : m ≤ k) : leB (n % 256 ^ k) m = leB n m := by
  induction m with
  | zero => rfl
  | succ m ih =>
    simp only [leB]
    rw [ih (by omega)]
    congr 2
    apply UInt8.toNat_inj.1
    simp only [UInt8.toNat_ofNat', Nat.reducePow]
    have e : 256 ^ k = 256 ^ m * (256 * 256 ^ (k - m - 1)) := by
      rw [← Nat.pow_succ', ← Nat.pow_add]
      congr 1
      omega
    rw [e, Nat.mod_mul_right_div_self, Nat.mod_mul_right_mod]

theorem leB_mod' (N : Int) (k : Nat) (h : 0 ≤ N) : leB (N % ((256 ^ k : Nat) : Int)).toNat k = leB N.toNat k := by
  obtain ⟨n, rfl⟩ := Int.eq_ofNat_of_zero_le h
  have : (((n : Nat) : Int) % ((256 ^ k : Nat) : Int)).toNat = n % 256 ^ k := by
    rw [← Int.natCast_emod, Int.toNat_natCast]
  rw [this, Int.toNat_natCast]
  exact leB_mod n k k (Nat.le_refl _)

set_option maxHeartbeats 400000 in
theorem lay_any (B p : Nat) (v : Value) (l : List UInt8) (K N : Int) (s : ByteArray) (w : World) (hw : WOk w B p v l) (hN : 0 ≤ N) (hs : s.size ≤ maxLen) (hl : l.length ≤ 900000000) :
    Calls Try.prog 9 #[.pointer (some ⟨p, 0, none⟩), .agg #[.int .i64 K, .int .u64 N, .string s]] w fun e w' => e = .returned (.tuple #[]) ∧ (∃ v', WOk w' B p v' (l ++ thingB K N s)) ∧ Below B w w' := by
  have hkl := kindOf_lt K
  have hpl := lt_of_block hw.blk
  have hbase := hw.base
  have hkd := kind_any K N s (w.alloc (.cells #[.int .i64 K, .int .u64 N, .string s] 28))
  have hw1 := hw.below (((Below.refl _ _).alloc (Nat.le_refl _) (.cells #[.int .i64 K, .int .u64 N, .string s] 28)).alloc (by simp) (.cells #[.int .i64 K, .int .u64 N, .string s] 28)) (Nat.le_refl _)
  have hb1 : Below B w ((w.alloc (.cells #[.int .i64 K, .int .u64 N, .string s] 28)).alloc (.cells #[.int .i64 K, .int .u64 N, .string s] 28)) := ((Below.refl _ _).alloc (by omega) _).alloc (by simp; omega) _
  rcases (show kindOf K = 0 ∨ kindOf K = 1 ∨ kindOf K = 2 ∨ kindOf K = 3 ∨ kindOf K = 4 by omega) with hk | hk | hk | hk | hk
  · have hB : thingB K N s = leB N.toNat 1 := by simp [thingB, hk]
    rw [hB]
    rw [hk] at hkd
    clear hk hkl hB
    have hcall := wbyte_any B p v l (IntKind.u8.wrap N) _ hw1 (by simp [IntKind.wrap, IntKind.bits, IntKind.signed]; omega) (by simp [IntKind.wrap, IntKind.bits, IntKind.signed]; omega) (by omega)
    have hM : leB (IntKind.u8.wrap N).toNat 1 = leB N.toNat 1 := by
      have := leB_mod' N 1 hN
      simpa [IntKind.wrap, IntKind.bits, IntKind.signed] using this
    rw [hM] at hcall
    clear hM
    go_enter Try.func9, Try.ntmps9
    go_wp2_with (first | (go_at_call 29; go_must (refine hkd.mono ?_); rintro e w1 ⟨rfl, rfl⟩) | (go_at_call 30; go_must (refine hcall.mono ?_); rintro e w1 ⟨rfl, hq, hb⟩))
    go_end0
    exact ⟨rfl, hq, hb1.trans hb⟩
  · have hB : thingB K N s = leB N.toNat 2 := by simp [thingB, hk]
    rw [hB]
    rw [hk] at hkd
    clear hk hkl hB
    have hcall := wtwo_any B p v l (IntKind.u16.wrap N) _ hw1 (by simp [IntKind.wrap, IntKind.bits, IntKind.signed]; omega) (by simp [IntKind.wrap, IntKind.bits, IntKind.signed]; omega) (by omega)
    have hM : leB (IntKind.u16.wrap N).toNat 2 = leB N.toNat 2 := by
      have := leB_mod' N 2 hN
      simpa [IntKind.wrap, IntKind.bits, IntKind.signed] using this
    rw [hM] at hcall
    clear hM
    go_enter Try.func9, Try.ntmps9
    go_wp2_with (first | (go_at_call 29; go_must (refine hkd.mono ?_); rintro e w1 ⟨rfl, rfl⟩) | (go_at_call 31; go_must (refine hcall.mono ?_); rintro e w1 ⟨rfl, hq, hb⟩))
    go_end0
    exact ⟨rfl, hq, hb1.trans hb⟩
  · have hB : thingB K N s = leB N.toNat 4 := by simp [thingB, hk]
    rw [hB]
    rw [hk] at hkd
    clear hk hkl hB
    have hcall := wfour_any B p v l (IntKind.u32.wrap N) _ hw1 (by simp [IntKind.wrap, IntKind.bits, IntKind.signed]; omega) (by simp [IntKind.wrap, IntKind.bits, IntKind.signed]; omega) (by omega)
    have hM : leB (IntKind.u32.wrap N).toNat 4 = leB N.toNat 4 := by
      have := leB_mod' N 4 hN
      simpa [IntKind.wrap, IntKind.bits, IntKind.signed] using this
    rw [hM] at hcall
    clear hM
    go_enter Try.func9, Try.ntmps9
    go_wp2_with (first | (go_at_call 29; go_must (refine hkd.mono ?_); rintro e w1 ⟨rfl, rfl⟩) | (go_at_call 32; go_must (refine hcall.mono ?_); rintro e w1 ⟨rfl, hq, hb⟩))
    go_end0
    exact ⟨rfl, hq, hb1.trans hb⟩
  · have hB : thingB K N s = leB N.toNat 8 := by simp [thingB, hk]
    rw [hB]
    rw [hk] at hkd
    clear hk hkl hB
    have hcall := weight_any B p v l N _ hw1 hN (by omega)
    go_enter Try.func9, Try.ntmps9
    go_wp2_with (first | (go_at_call 29; go_must (refine hkd.mono ?_); rintro e w1 ⟨rfl, rfl⟩) | (go_at_call 33; go_must (refine hcall.mono ?_); rintro e w1 ⟨rfl, hq, hb⟩))
    go_end0
    exact ⟨rfl, hq, hb1.trans hb⟩
  · have hB : thingB K N s = textB s := by simp [thingB, hk]
    rw [hB]
    rw [hk] at hkd
    clear hk hkl hB
    have hcall := wtext_any B p v l s _ hw1 hs hl
    go_enter Try.func9, Try.ntmps9
    go_wp2_with (first | (go_at_call 29; go_must (refine hkd.mono ?_); rintro e w1 ⟨rfl, rfl⟩) | (go_at_call 28; go_must (refine hcall.mono ?_); rintro e w1 ⟨rfl, hq, hb⟩))
    go_end0
    exact ⟨rfl, hq, hb1.trans hb⟩

theorem wnumber_nil (n k : Int) (w : World) : Calls Try.prog 40 #[.pointer none, .int .u64 n, .int .i64 k] w fun e w' => e = .returned (.tuple #[]) ∧ w' = w := by
  go_enter Try.func40, Try.ntmps40
  go_wp2
  refine bodyPost_ret (results_none rfl _ _ _) rfl ?_
  exact ⟨rfl, rfl⟩

theorem wbyte_nil (n : Int) (w : World) : Calls Try.prog 30 #[.pointer none, .int .u8 n] w fun e w' => e = .returned (.tuple #[]) ∧ w' = w := by
  go_enter Try.func30, Try.ntmps30
  go_wp2_with (go_at_call 40; go_must (refine (wnumber_nil _ _ _).mono ?_); rintro e w' ⟨rfl, rfl⟩)
  go_end0
  exact ⟨rfl, rfl⟩

theorem wtwo_nil (n : Int) (w : World) : Calls Try.prog 31 #[.pointer none, .int .u16 n] w fun e w' => e = .returned (.tuple #[]) ∧ w' = w := by
  go_enter Try.func31, Try.ntmps31
  go_wp2_with (go_at_call 40; go_must (refine (wnumber_nil _ _ _).mono ?_); rintro e w' ⟨rfl, rfl⟩)
  go_end0
  exact ⟨rfl, rfl⟩

theorem wfour_nil (n : Int) (w : World) : Calls Try.prog 32 #[.pointer none, .int .u32 n] w fun e w' => e = .returned (.tuple #[]) ∧ w' = w := by
  go_enter Try.func32, Try.ntmps32
  go_wp2_with (go_at_call 40; go_must (refine (wnumber_nil _ _ _).mono ?_); rintro e w' ⟨rfl, rfl⟩)
  go_end0
  exact ⟨rfl, rfl⟩

theorem weight_nil (n : Int) (w : World) : Calls Try.prog 33 #[.pointer none, .int .u64 n] w fun e w' => e = .returned (.tuple #[]) ∧ w' = w := by
  go_enter Try.func33, Try.ntmps33
  go_wp2_with (go_at_call 40; go_must (refine (wnumber_nil _ _ _).mono ?_); rintro e w' ⟨rfl, rfl⟩)
  go_end0
  exact ⟨rfl, rfl⟩

theorem wtext_nil (s : ByteArray) (w : World) : Calls Try.prog 28 #[.pointer none, .string s] w fun e w' => e = .returned (.tuple #[]) ∧ w' = w := by
  go_enter Try.func28, Try.ntmps28
  go_wp2
  refine bodyPost_ret (results_none rfl _ _ _) rfl ?_
  exact ⟨rfl, rfl⟩

theorem wdone_nil (w : World) : Calls Try.prog 11 #[.pointer none] w fun e w' => e = .returned (.slice none 0 0) ∧ w' = w := by
  go_enter Try.func11, Try.ntmps11
  go_wp2
  go_ret
  exact ⟨rfl, rfl⟩

theorem lay_nil (K N : Int) (s : ByteArray) (w : World) :
    Calls Try.prog 9 #[.pointer none, .agg #[.int .i64 K, .int .u64 N, .string s]] w fun e w' => e = .returned (.tuple #[]) ∧ Below w.heap.size w w' := by
  go_enter Try.func9, Try.ntmps9
  go_wp2_with (first | (go_at_call 29; go_must (refine (kind_any K N s _).mono ?_); rintro e w1 ⟨rfl, rfl⟩) | (go_at_call 30; go_must (refine (wbyte_nil _ _).mono ?_); rintro e w1 ⟨rfl, rfl⟩) | (go_at_call 31; go_must (refine (wtwo_nil _ _).mono ?_); rintro e w1 ⟨rfl, rfl⟩) | (go_at_call 32; go_must (refine (wfour_nil _ _).mono ?_); rintro e w1 ⟨rfl, rfl⟩) | (go_at_call 33; go_must (refine (weight_nil _ _).mono ?_); rintro e w1 ⟨rfl, rfl⟩) | (go_at_call 28; go_must (refine (wtext_nil _ _).mono ?_); rintro e w1 ⟨rfl, rfl⟩))
  all_goals go_end0
  all_goals exact ⟨rfl, ((Below.refl _ _).alloc (Nat.le_refl _) _).alloc (by simp) _⟩

theorem bytes_append (l m : List UInt8) : (⟨l.toArray⟩ : ByteArray) ++ ⟨m.toArray⟩ = ⟨(l ++ m).toArray⟩ := by
  apply ByteArray.ext
  simp

theorem conv_one (w : World) (b : UInt8) : (convert 30 9 (.slice (some ⟨w.heap.size, 0, none⟩) 1 1)).run Try.prog (w.alloc (.cells #[.int .u8 (b.toNat : Int)] 5)) = .ok (.string ⟨#[b]⟩) (w.alloc (.cells #[.int .u8 (b.toNat : Int)] 5)) := by
  have := run_convert_bytes_back (P := Try.prog) (w.alloc (.cells #[.int .u8 (b.toNat : Int)] 5)) 30 9 5 ⟨w.heap.size, 0, none⟩ 1 [b] Try.underlying30 Try.underlying5 Try.underlying9 (fun j hj => by
    obtain rfl : j = 0 := by simp at hj; omega
    simp [Addr.add])
  simpa using this

set_option maxHeartbeats 400000 in
theorem num_any (n : Int) (k : Nat) (w : World) (hn : 0 ≤ n) (hn1 : n < 18446744073709551616) (hk : k ≤ 8) :
    Calls Try.prog 35 #[.int .u64 n, .int .i64 k] w fun e w' => e = .returned (.string ⟨(leB n.toNat k).toArray⟩) ∧ Below w.heap.size w w' := by
  go_enter Try.func35, Try.ntmps35
  go_wp2
  go_loopw [0, 5, 6] (fun m s i wr => ∃ j : Nat, j ≤ k ∧ i = .int .i64 j ∧ m = .int .u64 (n / 256 ^ j) ∧ s = .string ⟨(leB n.toNat j).toArray⟩ ∧ Below w.heap.size w wr) (fun _ _ i _ => k - (intOf i).toNat)
  case atStart => exact ⟨0, Nat.zero_le _, rfl, by simp, rfl, Below.refl _ _⟩
  case round =>
    obtain ⟨j, hj, rfl, rfl, rfl, hbel⟩ := hrel
    by_cases hlt : j < k
    · have hge : 0 ≤ n / 256 ^ j := Int.ediv_nonneg hn (Int.pow_nonneg (by decide))
      have hle : n / 256 ^ j ≤ n := Int.ediv_le_self _ hn
      have hL : (leB n.toNat j).length ≤ 8 := by rw [leB_length]; omega
      have hdiv : Hid (n / 256 ^ j / 256 = n / 256 ^ (j + 1)) := by
        unfold Hid
        rw [Int.ediv_ediv_of_nonneg (Int.pow_nonneg (by decide)), Int.pow_succ]
      have hcv := conv_one wr (UInt8.ofNat (n.toNat / 256 ^ j))
      rw [show ((UInt8.ofNat (n.toNat / 256 ^ j)).toNat : Int) = n / 256 ^ j % 256 by
        obtain ⟨m, rfl⟩ := Int.eq_ofNat_of_zero_le hn
        simp] at hcv
      go_wp2
      go_roundw
      case rel => exact ⟨j + 1, by omega, by go_num, by rw [hdiv.out], by rw [bytes_append]; rfl, hbel.alloc hbel.size _⟩
      case measure => simp [intOf]; omega
    · go_wp2
      go_ret
      obtain rfl : j = k := by omega
      exact ⟨rfl, hbel⟩

theorem reft_any (s : ByteArray) (w : World) (hs : s.size ≤ maxLen) :
    Calls Try.prog 34 #[.string s] w fun e w' => e = .returned (.string ⟨(textB s).toArray⟩) ∧ Below w.heap.size w w' := by
  unfold maxLen at hs
  by_cases hlong : 65535 < s.size
  · have hT : Hid ((⟨(leB 65535 2).toArray⟩ : ByteArray) ++ s.extract 0 65535 = ⟨(textB s).toArray⟩) := by
      have e : s.extract 0 65535 = ⟨(s.data.toList.take 65535).toArray⟩ := by
        apply ByteArray.ext
        apply Array.toList_inj.1
        rw [extract_list]
      have e2 : (s.data.toList.take 65535).length = 65535 := by simp; omega
      unfold Hid
      rw [e, bytes_append, textB, e2]
    have hmin : min 65535 s.size = 65535 := by omega
    have hL : (leB 65535 2).length ≤ 8 := by rw [leB_length]; omega
    go_enter Try.func34, Try.ntmps34
    go_wp2_with (go_at_call 35; go_must (refine (num_any 65535 2 _ (by omega) (by omega) (by omega)).mono ?_); rintro e w1 ⟨rfl, hb⟩)
    go_ret
    refine ⟨?_, hb⟩
    rw [← hT.out]
    rfl
  · have hT : Hid ((⟨(leB s.size 2).toArray⟩ : ByteArray) ++ s = ⟨(textB s).toArray⟩) := by
      have e2 : s.data.toList.take 65535 = s.data.toList := List.take_of_length_le (by simp; omega)
      have e3 : s.data.toList.length = s.size := by simp
      unfold Hid
      rw [textB, e2, e3, ← bytes_append]
    have hL : (leB s.size 2).length ≤ 8 := by rw [leB_length]; omega
    go_enter Try.func34, Try.ntmps34
    go_wp2_with (go_at_call 35; go_must (refine (num_any s.size 2 _ (by omega) (by omega) (by omega)).mono ?_); rintro e w1 ⟨rfl, hb⟩)
    go_ret
    refine ⟨?_, hb⟩
    rw [← hT.out]
    rfl

end Go.Proofs.Ytdknodmdndkneaa
