/-
  A page's bytes with one bit turned are no page's.
-/
import Derived.Test.YtoahcihhpimmgaaNe
namespace Go.Proofs.Ytoahcihhpimmgaa
open Go.RowKit

theorem mul_xor (k x y : Nat) : 2 ^ k * (x ^^^ y) = (2 ^ k * x) ^^^ (2 ^ k * y) := by
  apply Nat.eq_of_testBit_eq
  intro i
  rw [Nat.testBit_xor, Nat.testBit_two_pow_mul, Nat.testBit_two_pow_mul, Nat.testBit_two_pow_mul, Nat.testBit_xor]
  by_cases h : k ≤ i <;> simp [h]

/-- A byte of a row turned. -/
theorem leN_set (l : List UInt8) (j : Nat) (v : UInt8) (hj : j < l.length) : leN (l.set j (l[j] ^^^ v)) = leN l ^^^ (2 ^ (8 * j) * v.toNat) := by
  induction l generalizing j with
  | nil => simp at hj
  | cons b r ih =>
    have hb := b.toNat_lt
    have hv := v.toNat_lt
    have e := add_eq_xor b.toNat (leN r) 8 (by omega)
    rw [show (2 : Nat) ^ 8 = 256 from rfl] at e
    cases j with
    | zero =>
      have hbv : (b ^^^ v).toNat < 2 ^ 8 := UInt8.toNat_lt _
      have e2 := add_eq_xor (b ^^^ v).toNat (leN r) 8 hbv
      rw [show (2 : Nat) ^ 8 = 256 from rfl] at e2
      simp only [List.set_cons_zero, List.getElem_cons_zero, leN, Nat.mul_zero, Nat.pow_zero, Nat.one_mul]
      rw [e2, e, UInt8.toNat_xor, Nat.xor_assoc, Nat.xor_comm v.toNat, ← Nat.xor_assoc]
    | succ j =>
      simp only [List.set_cons_succ, List.getElem_cons_succ, leN]
      rw [ih j (by simpa using hj)]
      have e2 := add_eq_xor b.toNat (leN r ^^^ (2 ^ (8 * j) * v.toNat)) 8 (by omega)
      have e3 := mul_xor 8 (leN r) (2 ^ (8 * j) * v.toNat)
      rw [show (2 : Nat) ^ 8 = 256 from rfl] at e2 e3
      rw [e2, e3, e, Nat.xor_assoc]
      congr 2
      rw [show (256 : Nat) = 2 ^ 8 from rfl, show 8 * (j + 1) = 8 + 8 * j by omega, Nat.pow_add, Nat.mul_assoc]


/-- A bit of a byte turned, as the law turns it. -/
theorem turn_byte (b : UInt8) (r : Nat) (hr : r < 8) : bits .xor .u8 (b.toNat : Int) (2 ^ r) = ((b ^^^ UInt8.ofNat (2 ^ r)).toNat : Int) := by
  have hb := b.toNat_lt
  have hp : 2 ^ r < 256 := Nat.lt_of_lt_of_le (Nat.pow_lt_pow_right (by decide) hr) (by decide)
  have := u8_xor_nat b.toNat (2 ^ r) hb hp
  rw [show (((2 : Nat) ^ r : Nat) : Int) = (2 : Int) ^ r by simp] at this
  rw [this, UInt8.toNat_xor, UInt8.toNat_ofNat', Nat.mod_eq_of_lt hp]

theorem pow_small : ∀ r, r < 8 → (2 : Int) ^ r % 256 = 2 ^ r := by decide
theorem pow_byte : ∀ r, r < 8 → (UInt8.ofNat (2 ^ r)).toNat = 2 ^ r := by decide


theorem leV_leN (l : List UInt8) : leV l = leN l := by
  induction l with
  | nil => rfl
  | cons b r ih => simp [leV, leN, ih]
theorem xor_ne (a b : Nat) (h : b ≠ 0) : a ^^^ b ≠ a := fun e => h (by
  have := congrArg (a ^^^ ·) e
  simpa [← Nat.xor_assoc] using this)
/-- One bit of some bytes turned: another sum. -/
theorem more_turn (l : List UInt8) (hl : 4 ≤ l.length) (j k : Nat) (hj : j < l.length) (hk : k < 8) : more 0 (l.set j (l[j] ^^^ UInt8.ofNat (2 ^ k))) ≠ more 0 l := by
  have hset := leN_set l j (UInt8.ofNat (2 ^ k)) hj
  rw [pow_byte k hk, ← Nat.pow_add] at hset
  have hq : 8 * j + k < 8 * l.length := by omega
  obtain ⟨f, n, hf, hn, e⟩ : ∃ f n, f + 32 ≤ 8 * l.length ∧ n < 32 ∧ 8 * j + k = f + n := by
    by_cases h : 8 * j + k + 32 ≤ 8 * l.length
    · exact ⟨8 * j + k, 0, h, by decide, rfl⟩
    · exact ⟨8 * l.length - 32, 8 * j + k - (8 * l.length - 32), by omega, by omega, by omega⟩
  have hd : leN l ^^^ leN (l.set j (l[j] ^^^ UInt8.ofNat (2 ^ k))) = 2 ^ f * 2 ^ n := by
    rw [hset, e, Nat.pow_add, ← Nat.xor_assoc, Nat.xor_self, Nat.zero_xor]
  have hb : 2 ^ n < 4294967296 := Nat.lt_of_lt_of_le (Nat.pow_lt_pow_right (by decide) hn) (by decide)
  have hs := burst_seen 4294967295 l (l.set j (l[j] ^^^ UInt8.ofNat (2 ^ k))) (by simp) f (2 ^ n) hb (Nat.ne_of_gt (Nat.pow_pos (by decide))) hf hd
  unfold more
  have h1 := crun_lt (4294967295 - 0) l (by decide)
  have h2 := crun_lt (4294967295 - 0) (l.set j (l[j] ^^^ UInt8.ofNat (2 ^ k))) (by decide)
  simp only [Nat.sub_zero] at h1 h2 ⊢
  omega
theorem turn_seen (B : List UInt8) (hl : B.length = 512) (hs : leV (B.take 4) = more 0 (B.drop 4)) (j k : Nat) (hj : j < B.length) (hk : k < 8) :
    leV ((B.set j (B[j] ^^^ UInt8.ofNat (2 ^ k))).take 4) ≠ more 0 ((B.set j (B[j] ^^^ UInt8.ofNat (2 ^ k))).drop 4) := by
  by_cases h4 : j < 4
  · rw [List.drop_set_of_lt (by omega), ← hs, leV_leN, leV_leN, List.take_set]
    have hj4 : j < (B.take 4).length := by rw [List.length_take]; omega
    have := leN_set (B.take 4) j (UInt8.ofNat (2 ^ k)) hj4
    rw [List.getElem_take] at this
    rw [this, pow_byte k hk]
    exact xor_ne _ _ (Nat.ne_of_gt (Nat.mul_pos (Nat.pow_pos (by decide)) (Nat.pow_pos (by decide))))
  · rw [List.take_set_of_le (by omega), hs]
    have hd : (B.set j (B[j] ^^^ UInt8.ofNat (2 ^ k))).drop 4 = (B.drop 4).set (j - 4) ((B.drop 4)[j - 4]'(by rw [List.length_drop]; omega) ^^^ UInt8.ofNat (2 ^ k)) := by
      rw [List.drop_set, if_neg h4]
      congr 2
      rw [List.getElem_drop]
      congr 1
      omega
    rw [hd]
    exact (more_turn (B.drop 4) (by rw [List.length_drop]; omega) (j - 4) k (by rw [List.length_drop]; omega) hk).symm

end Go.Proofs.Ytoahcihhpimmgaa
