/-
  The walk of Open.
-/
import Derived.Test.YticadfaclnimgaaSe
namespace Go.Proofs.Yticadfaclnimgaa
open Go.RowKit

theorem leN_lt (l : List UInt8) : leN l < 256 ^ l.length := by
  induction l with
  | nil => simp [leN]
  | cons b r ih =>
    have := b.toNat_lt
    simp only [leN, List.length_cons, Nat.pow_succ]
    omega

theorem leN_snoc (l : List UInt8) (b : UInt8) : leN (l ++ [b]) = leN l + b.toNat * 256 ^ l.length := by
  induction l with
  | nil => simp [leN]
  | cons c r ih =>
    simp only [List.cons_append, leN, ih, List.length_cons, Nat.pow_succ]
    have e : 256 * (b.toNat * 256 ^ r.length) = b.toNat * (256 ^ r.length * 256) := by rw [Nat.mul_left_comm, Nat.mul_comm 256]
    omega

theorem leN_leB (n k : Nat) : leN (leB n k) = n % 256 ^ k := by
  induction k with
  | zero => simp [leB, leN, Nat.mod_one]
  | succ k ih =>
    rw [leB, leN_snoc, ih, leB_length, Nat.mod_pow_succ]
    simp [Nat.mul_comm]

theorem leN_inj (l m : List UInt8) (h : l.length = m.length) (e : leN l = leN m) : l = m := by
  induction l generalizing m with
  | nil => cases m with
    | nil => rfl
    | cons c r => simp at h
  | cons b r ih => cases m with
    | nil => simp at h
    | cons c q =>
      have hb := b.toNat_lt
      have hc := c.toNat_lt
      simp only [leN] at e
      have e1 : b.toNat = c.toNat := by omega
      have e2 : leN r = leN q := by omega
      rw [UInt8.toNat_inj.1 e1, ih q (by simpa using h) e2]

/-- A sum's four bytes are the sum's just if their number is the sum. -/
theorem four_iff (l : List UInt8) (S : Nat) (h : l.length = 4) (hS : S < 4294967296) : l = leB S 4 ↔ leN l = S := by
  have e : leN (leB S 4) = S := by rw [leN_leB]; omega
  constructor
  · rintro rfl; exact e
  · intro e2
    exact leN_inj _ _ (by rw [h, leB_length]) (by rw [e, e2])

/-- One byte more. -/
theorem or_stepc (l : List UInt8) (b : UInt8) (hk : l.length < 4) :
    bits .or .u32 ((leN l : Nat) : Int) ((b.toNat : Int) * 2 ^ (8 * l.length) % 4294967296) = ((leN (l ++ [b]) : Nat) : Int) := by
  have e1 : ((b.toNat : Int) * 2 ^ (8 * l.length)) = ((b.toNat * 2 ^ (8 * l.length) : Nat) : Int) := by simp
  have hb := b.toNat_lt
  have h256 : (256 : Nat) ^ l.length = 2 ^ (8 * l.length) := by rw [Nat.pow_mul]
  have hle : 2 ^ (8 * l.length) ≤ 2 ^ 24 := Nat.pow_le_pow_right (by decide) (by omega)
  have hlt := leN_lt l
  rw [h256] at hlt
  have hbig : b.toNat * 2 ^ (8 * l.length) < 4294967296 := by
    have := Nat.mul_le_mul (show b.toNat ≤ 255 by omega) hle
    omega
  rw [e1, show ((b.toNat * 2 ^ (8 * l.length) : Nat) : Int) % 4294967296 = ((b.toNat * 2 ^ (8 * l.length) : Nat) : Int) by omega]
  rw [u32_or_nat _ _ (by omega) hbig, leN_snoc, h256]
  congr 1
  rw [Nat.or_comm, Nat.mul_comm b.toNat, Nat.add_comm]
  exact (Nat.two_pow_add_eq_or_of_lt hlt b.toNat).symm

/-- What opening bytes tells: the bytes, and the error. -/
def openB (l : List UInt8) : List UInt8 × Int :=
  if l.length < 4 then ([], 4)
  else if leN (l.drop (l.length - 4)) = more 0 (l.take (l.length - 4)) then (l.take (l.length - 4), 0) else ([], 6)

theorem SlB.take {w : World} {a : Option Addr} {l : List UInt8} (h : SlB w a l) (k : Nat) : SlB w a (l.take k) :=
  ⟨fun e => by rw [h.nonil e]; simp, fun x hx j u hu => h.cells x hx j u (by
    simp only [bcells, List.getElem?_map, List.getElem?_take] at hu ⊢
    split at hu
    · exact hu
    · simp at hu)⟩

end Go.Proofs.Yticadfaclnimgaa
