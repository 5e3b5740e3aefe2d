/-
  Numbers as bytes, the lowest first: of no program.
-/
import Derived.Test.YtebchgoaelamcaaDoorMath
namespace Go.Proofs.YtebchgoaelamcaaDoor

/-- The k lowest bytes of n, the lowest first. -/
def leB (n : Nat) : Nat → List UInt8
  | 0 => []
  | k + 1 => leB n k ++ [UInt8.ofNat (n / 256 ^ k)]
theorem leB_length (n k : Nat) : (leB n k).length = k := by
  induction k with
  | zero => rfl
  | succ k ih => simp [leB, ih]

/-- The number that bytes are, the lowest first. -/
def leV : List UInt8 → Nat
  | [] => 0
  | b :: r => b.toNat + 256 * leV r

theorem leV_lt (l : List UInt8) : leV l < 256 ^ l.length := by
  induction l with
  | nil => simp [leV]
  | cons b r ih =>
    have := b.toNat_lt
    simp only [leV, List.length_cons, Nat.pow_succ]
    omega

theorem leV_snoc (l : List UInt8) (b : UInt8) : leV (l ++ [b]) = leV l + b.toNat * 256 ^ l.length := by
  induction l with
  | nil => simp [leV]
  | cons c r ih =>
    simp only [List.cons_append, leV, ih, List.length_cons, Nat.pow_succ]
    have e : 256 * (b.toNat * 256 ^ r.length) = b.toNat * (256 ^ r.length * 256) := by rw [Nat.mul_left_comm, Nat.mul_comm 256]
    omega

theorem leV_leB (n k : Nat) : leV (leB n k) = n % 256 ^ k := by
  induction k with
  | zero => simp [leB, leV, Nat.mod_one]
  | succ k ih =>
    rw [leB, leV_snoc, ih, leB_length, Nat.mod_pow_succ]
    simp [Nat.mul_comm]

theorem leN_leV (l : List UInt8) : leN l = leV l := by
  induction l with
  | nil => rfl
  | cons b r ih => simp only [leN, leV, ih]

theorem leN_lt (l : List UInt8) : leN l < 256 ^ l.length := by
  induction l with
  | nil => simp [leN]
  | cons b r ih =>
    have := b.toNat_lt
    simp only [leN, List.length_cons, Nat.pow_succ]
    omega

theorem leN_snoc (l : List UInt8) (b : UInt8) : leN (l ++ [b]) = leN l + b.toNat * 256 ^ l.length := by
  induction l with
  | nil => simp [leN]
  | cons c r ih =>
    simp only [List.cons_append, leN, ih, List.length_cons, Nat.pow_succ]
    have e : 256 * (b.toNat * 256 ^ r.length) = b.toNat * (256 ^ r.length * 256) := by rw [Nat.mul_left_comm, Nat.mul_comm 256]
    omega

theorem leN_leB (n k : Nat) : leN (leB n k) = n % 256 ^ k := by
  induction k with
  | zero => simp [leB, leN, Nat.mod_one]
  | succ k ih =>
    rw [leB, leN_snoc, ih, leB_length, Nat.mod_pow_succ]
    simp [Nat.mul_comm]

theorem leN_inj (l m : List UInt8) (h : l.length = m.length) (e : leN l = leN m) : l = m := by
  induction l generalizing m with
  | nil => cases m with
    | nil => rfl
    | cons c r => simp at h
  | cons b r ih => cases m with
    | nil => simp at h
    | cons c q =>
      have hb := b.toNat_lt
      have hc := c.toNat_lt
      simp only [leN] at e
      have e1 : b.toNat = c.toNat := by omega
      have e2 : leN r = leN q := by omega
      rw [UInt8.toNat_inj.1 e1, ih q (by simpa using h) e2]

/-- A sum's four bytes are the sum's just if their number is the sum. -/
theorem four_iff (l : List UInt8) (S : Nat) (h : l.length = 4) (hS : S < 4294967296) : l = leB S 4 ↔ leN l = S := by
  have e : leN (leB S 4) = S := by rw [leN_leB]; omega
  constructor
  · rintro rfl; exact e
  · intro e2
    exact leN_inj _ _ (by rw [h, leB_length]) (by rw [e, e2])


end Go.Proofs.YtebchgoaelamcaaDoor
