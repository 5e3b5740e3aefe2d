/-
  The plain mathematics of CRC-32C, on natural numbers: of no program.
-/
import Derived.Below
namespace Go.Proofs.Yticnkppnpfgceaa

/-- The polynomial. -/
def poly : Nat := 2197175160

/-- One bit: moved down, and the polynomial added if the lowest bit was set. On numbers of any size. -/
def zstep (n : Nat) : Nat := (n / 2) ^^^ (if n % 2 = 1 then poly else 0)

/-- k bits. -/
def zrun : Nat → Nat → Nat
  | 0, n => n
  | k + 1, n => zrun k (zstep n)

theorem zrun_add (j k n : Nat) : zrun (j + k) n = zrun k (zrun j n) := by
  induction j generalizing n with
  | zero => simp [zrun]
  | succ j ih => rw [show j + 1 + k = (j + k) + 1 by omega, zrun, ih, zrun]

theorem zrun_succ (k n : Nat) : zrun (k + 1) n = zstep (zrun k n) := by
  rw [zrun_add k 1 n]
  rfl

theorem xor_mod2 (a b : Nat) : (a ^^^ b) % 2 = (a % 2 + b % 2) % 2 := by
  have h := Nat.xor_mod_two_pow (a := a) (b := b) (n := 1)
  simp only [Nat.pow_one] at h
  rw [h]
  rcases Nat.mod_two_eq_zero_or_one a with ha | ha <;> rcases Nat.mod_two_eq_zero_or_one b with hb | hb <;> simp [ha, hb]

theorem xor_four (a b c d : Nat) : (a ^^^ b) ^^^ (c ^^^ d) = (a ^^^ c) ^^^ (b ^^^ d) := by
  rw [Nat.xor_assoc, Nat.xor_assoc, ← Nat.xor_assoc b c d, Nat.xor_comm b c, Nat.xor_assoc c b d]

theorem zstep_xor (a b : Nat) : zstep (a ^^^ b) = zstep a ^^^ zstep b := by
  unfold zstep
  rw [xor_four, Nat.xor_div_two, xor_mod2]
  congr 1
  rcases Nat.mod_two_eq_zero_or_one a with ha | ha <;> rcases Nat.mod_two_eq_zero_or_one b with hb | hb <;> simp [ha, hb]

theorem zrun_xor (k a b : Nat) : zrun k (a ^^^ b) = zrun k a ^^^ zrun k b := by
  induction k generalizing a b with
  | zero => rfl
  | succ k ih => simp only [zrun, zstep_xor, ih]

theorem zstep_zero : zstep 0 = 0 := by simp [zstep]
theorem zrun_zero (k : Nat) : zrun k 0 = 0 := by
  induction k with
  | zero => rfl
  | succ k ih => rw [zrun, zstep_zero, ih]

theorem zstep_double (n : Nat) : zstep (2 * n) = n := by
  simp [zstep]

theorem zrun_pow (k n : Nat) : zrun k (2 ^ k * n) = n := by
  induction k with
  | zero => simp [zrun]
  | succ k ih =>
    rw [zrun, show 2 ^ (k + 1) * n = 2 * (2 ^ k * n) by rw [Nat.pow_succ, Nat.mul_comm (2 ^ k) 2, Nat.mul_assoc], zstep_double, ih]

theorem zstep_lt (n : Nat) (h : n < 4294967296) : zstep n < 4294967296 := by
  unfold zstep
  have h1 : n / 2 < 2 ^ 32 := by omega
  have h2 : (if n % 2 = 1 then poly else 0) < 2 ^ 32 := by split <;> simp [poly]
  exact Nat.xor_lt_two_pow h1 h2

theorem zrun_lt (k n : Nat) (h : n < 4294967296) : zrun k n < 4294967296 := by
  induction k generalizing n with
  | zero => exact h
  | succ k ih => exact ih _ (zstep_lt n h)

theorem eq_of_xor {a b : Nat} (h : a ^^^ b = 0) : a = b := by
  have : (a ^^^ b) ^^^ b = b := by rw [h, Nat.zero_xor]
  rw [Nat.xor_assoc, Nat.xor_self, Nat.xor_zero] at this
  exact this

theorem zstep_ne (n : Nat) (h : n < 4294967296) (h0 : n ≠ 0) : zstep n ≠ 0 := by
  unfold zstep
  intro e
  have e2 : n / 2 = if n % 2 = 1 then poly else 0 := eq_of_xor e
  split at e2
  · unfold poly at e2
    omega
  · omega

theorem zrun_ne (k n : Nat) (h : n < 4294967296) (h0 : n ≠ 0) : zrun k n ≠ 0 := by
  induction k generalizing n with
  | zero => exact h0
  | succ k ih => exact ih _ (zstep_lt n h) (zstep_ne n h h0)

/-- The number that bytes are, the lowest first. -/
def leN : List UInt8 → Nat
  | [] => 0
  | b :: r => b.toNat + 256 * leN r

/-- The register behind bytes. -/
def crun : Nat → List UInt8 → Nat
  | n, [] => n
  | n, b :: r => crun (zrun 8 (n ^^^ b.toNat)) r

theorem crun_append (n : Nat) (l m : List UInt8) : crun n (l ++ m) = crun (crun n l) m := by
  induction l generalizing n with
  | nil => rfl
  | cons b r ih => simp only [List.cons_append, crun, ih]

theorem crun_lt (n : Nat) (l : List UInt8) (h : n < 4294967296) : crun n l < 4294967296 := by
  induction l generalizing n with
  | nil => exact h
  | cons b r ih =>
    have hb := b.toNat_lt
    exact ih _ (zrun_lt _ _ (Nat.xor_lt_two_pow (n := 32) (by omega) (by omega)))

theorem add_eq_xor (a b k : Nat) (h : a < 2 ^ k) : a + 2 ^ k * b = a ^^^ (2 ^ k * b) := by
  apply Nat.eq_of_testBit_eq
  intro i
  rw [Nat.testBit_xor, Nat.add_comm, Nat.testBit_two_pow_mul_add _ h]
  by_cases hi : i < k
  · have hk : ¬ k ≤ i := by omega
    simp [hi, hk, Nat.testBit_two_pow_mul]
  · have : a.testBit i = false := Nat.testBit_lt_two_pow (Nat.lt_of_lt_of_le h (Nat.pow_le_pow_right (by decide) (by omega)))
    simp [hi, Nat.testBit_two_pow_mul, this]
    omega

/-- THE WHOLE ROW AT ONCE. -/
theorem crun_eq (n : Nat) (l : List UInt8) : crun n l = zrun (8 * l.length) (n ^^^ leN l) := by
  induction l generalizing n with
  | nil => simp [crun, leN, zrun]
  | cons b r ih =>
    have hb := b.toNat_lt
    rw [crun, ih, leN, List.length_cons, show 8 * (r.length + 1) = 8 + 8 * r.length by omega, zrun_add]
    congr 1
    have e := add_eq_xor b.toNat (leN r) 8 (by omega)
    rw [show (2 : Nat) ^ 8 = 256 from rfl] at e
    rw [e, ← Nat.xor_assoc, zrun_xor 8 (n ^^^ b.toNat)]
    have := zrun_pow 8 (leN r)
    rw [show (2 : Nat) ^ 8 = 256 from rfl] at this
    rw [this]

theorem xor_nest (a b c : Nat) : (a ^^^ b) ^^^ (a ^^^ c) = b ^^^ c := by
  rw [Nat.xor_comm a b, Nat.xor_assoc, ← Nat.xor_assoc a a c, Nat.xor_self, Nat.zero_xor]

/-- Of two rows of one length: what the registers differ by hangs on what the rows differ by alone. -/
theorem crun_diff (n : Nat) (l m : List UInt8) (h : l.length = m.length) : crun n l ^^^ crun n m = zrun (8 * l.length) (leN l ^^^ leN m) := by
  rw [crun_eq, crun_eq, ← h, ← zrun_xor, xor_nest]

/-- A burst is seen. -/
theorem burst_seen (n : Nat) (l m : List UInt8) (h : l.length = m.length) (f bits : Nat) (hb : bits < 4294967296) (h0 : bits ≠ 0) (hf : f + 32 ≤ 8 * l.length) (hd : leN l ^^^ leN m = 2 ^ f * bits) : crun n l ≠ crun n m := by
  intro e
  have hx := crun_diff n l m h
  rw [e, Nat.xor_self, hd, show 8 * l.length = f + (8 * l.length - f) by omega, zrun_add, zrun_pow] at hx
  exact zrun_ne _ _ hb h0 hx.symm

/-- All bits turned, of 32. -/
theorem not32 (n : Nat) (h : n < 4294967296) : 4294967295 - n = n ^^^ 4294967295 := by
  have e := add_eq_xor
  apply Nat.eq_of_testBit_eq
  intro i
  rw [Nat.testBit_xor, show 4294967295 - n = 2 ^ 32 - (n + 1) by omega, Nat.testBit_two_pow_sub_succ (by omega)]
  rw [show 4294967295 = 2 ^ 32 - 1 from rfl, Nat.testBit_two_pow_sub_one]
  by_cases hi : i < 32
  · simp [hi]
  · have : n.testBit i = false := Nat.testBit_lt_two_pow (Nat.lt_of_lt_of_le h (by rw [show 4294967296 = 2 ^ 32 from rfl]; exact Nat.pow_le_pow_right (by decide) (by omega)))
    simp [hi, this]

/-- k bits of the register by a table over its lowest k bits. -/
theorem zrun_table (k n : Nat) : zrun k n = zrun k (n % 2 ^ k) ^^^ (n / 2 ^ k) := by
  have e := add_eq_xor (n % 2 ^ k) (n / 2 ^ k) k (Nat.mod_lt _ (Nat.pow_pos (by decide)))
  rw [Nat.mod_add_div] at e
  conv => lhs; rw [e]
  rw [zrun_xor, zrun_pow]

/-- The document's way, bit by bit: register and byte go down side by side. -/
theorem side_step (n x : Nat) : ((n / 2) ^^^ (if n % 2 ≠ x % 2 then poly else 0)) ^^^ (x / 2) = zstep (n ^^^ x) := by
  unfold zstep
  rw [Nat.xor_div_two, xor_mod2, Nat.xor_assoc, Nat.xor_comm _ (x / 2), ← Nat.xor_assoc]
  congr 1
  rcases Nat.mod_two_eq_zero_or_one n with ha | ha <;> rcases Nat.mod_two_eq_zero_or_one x with hb | hb <;> simp [ha, hb]

/-- The document's sum of bytes behind a number. -/
def more (s : Nat) (l : List UInt8) : Nat := 4294967295 - crun (4294967295 - s) l

theorem more_lt (s : Nat) (l : List UInt8) : more s l < 4294967296 := by unfold more; omega

theorem more_more (s : Nat) (l m : List UInt8) : more (more s l) m = more s (l ++ m) := by
  unfold more
  have h := crun_lt (4294967295 - s) l (by omega)
  rw [crun_append, show 4294967295 - (4294967295 - crun (4294967295 - s) l) = crun (4294967295 - s) l by omega]

theorem more_nil (s : Nat) (h : s < 4294967296) : more s [] = s := by
  unfold more crun
  omega

end Go.Proofs.Yticnkppnpfgceaa
