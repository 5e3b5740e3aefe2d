/-
  Texts put together: Math Le Pm Base Qt Pa.
-/
import Derived.Below
import Derived.WalkKit
import Derived.WalkSpells
import Derived.WalkLawsBesides
import Derived.Deep.RegionLaw
import Derived.Lib.AppendStr
import Derived.Laws.AppendOwnNone
import Derived.Lib.Strings
import Derived.Laws.Bits64
import Derived.StillTail
import Derived.Deep.QuietTactic
import Derived.BigQuiet
import Derived.Test.YtebchgoaelamcaaDoorRows
import Derived.Lib.Walk
import Derived.Lib.BufferWrite
import Derived.Lib.UnsafeStr
import Derived.Lib.Hide
import Derived.Laws.MakeOwn
namespace Go.Proofs.YtebchgoaelamcaaDoor

/-- The polynomial. -/
def poly : Nat := 2197175160

/-- One bit: moved down, and the polynomial added if the lowest bit was set. On numbers of any size. -/
def zstep (n : Nat) : Nat := (n / 2) ^^^ (if n % 2 = 1 then poly else 0)

/-- k bits. -/
def zrun : Nat → Nat → Nat
  | 0, n => n
  | k + 1, n => zrun k (zstep n)

theorem zrun_add (j k n : Nat) : zrun (j + k) n = zrun k (zrun j n) := by
  induction j generalizing n with
  | zero => simp [zrun]
  | succ j ih => rw [show j + 1 + k = (j + k) + 1 by omega, zrun, ih, zrun]

theorem zrun_succ (k n : Nat) : zrun (k + 1) n = zstep (zrun k n) := by
  rw [zrun_add k 1 n]
  rfl

theorem xor_mod2 (a b : Nat) : (a ^^^ b) % 2 = (a % 2 + b % 2) % 2 := by
  have h := Nat.xor_mod_two_pow (a := a) (b := b) (n := 1)
  simp only [Nat.pow_one] at h
  rw [h]
  rcases Nat.mod_two_eq_zero_or_one a with ha | ha <;> rcases Nat.mod_two_eq_zero_or_one b with hb | hb <;> simp [ha, hb]

theorem xor_four (a b c d : Nat) : (a ^^^ b) ^^^ (c ^^^ d) = (a ^^^ c) ^^^ (b ^^^ d) := by
  rw [Nat.xor_assoc, Nat.xor_assoc, ← Nat.xor_assoc b c d, Nat.xor_comm b c, Nat.xor_assoc c b d]

theorem zstep_xor (a b : Nat) : zstep (a ^^^ b) = zstep a ^^^ zstep b := by
  unfold zstep
  rw [xor_four, Nat.xor_div_two, xor_mod2]
  congr 1
  rcases Nat.mod_two_eq_zero_or_one a with ha | ha <;> rcases Nat.mod_two_eq_zero_or_one b with hb | hb <;> simp [ha, hb]

theorem zrun_xor (k a b : Nat) : zrun k (a ^^^ b) = zrun k a ^^^ zrun k b := by
  induction k generalizing a b with
  | zero => rfl
  | succ k ih => simp only [zrun, zstep_xor, ih]

theorem zstep_zero : zstep 0 = 0 := by simp [zstep]
theorem zrun_zero (k : Nat) : zrun k 0 = 0 := by
  induction k with
  | zero => rfl
  | succ k ih => rw [zrun, zstep_zero, ih]

theorem zstep_double (n : Nat) : zstep (2 * n) = n := by
  simp [zstep]

theorem zrun_pow (k n : Nat) : zrun k (2 ^ k * n) = n := by
  induction k with
  | zero => simp [zrun]
  | succ k ih =>
    rw [zrun, show 2 ^ (k + 1) * n = 2 * (2 ^ k * n) by rw [Nat.pow_succ, Nat.mul_comm (2 ^ k) 2, Nat.mul_assoc], zstep_double, ih]

theorem zstep_lt (n : Nat) (h : n < 4294967296) : zstep n < 4294967296 := by
  unfold zstep
  have h1 : n / 2 < 2 ^ 32 := by omega
  have h2 : (if n % 2 = 1 then poly else 0) < 2 ^ 32 := by split <;> simp [poly]
  exact Nat.xor_lt_two_pow h1 h2

theorem zrun_lt (k n : Nat) (h : n < 4294967296) : zrun k n < 4294967296 := by
  induction k generalizing n with
  | zero => exact h
  | succ k ih => exact ih _ (zstep_lt n h)

theorem eq_of_xor {a b : Nat} (h : a ^^^ b = 0) : a = b := by
  have : (a ^^^ b) ^^^ b = b := by rw [h, Nat.zero_xor]
  rw [Nat.xor_assoc, Nat.xor_self, Nat.xor_zero] at this
  exact this

theorem zstep_ne (n : Nat) (h : n < 4294967296) (h0 : n ≠ 0) : zstep n ≠ 0 := by
  unfold zstep
  intro e
  have e2 : n / 2 = if n % 2 = 1 then poly else 0 := eq_of_xor e
  split at e2
  · unfold poly at e2
    omega
  · omega

theorem zrun_ne (k n : Nat) (h : n < 4294967296) (h0 : n ≠ 0) : zrun k n ≠ 0 := by
  induction k generalizing n with
  | zero => exact h0
  | succ k ih => exact ih _ (zstep_lt n h) (zstep_ne n h h0)

/-- The number that bytes are, the lowest first. -/
def leN : List UInt8 → Nat
  | [] => 0
  | b :: r => b.toNat + 256 * leN r

/-- The register behind bytes. -/
def crun : Nat → List UInt8 → Nat
  | n, [] => n
  | n, b :: r => crun (zrun 8 (n ^^^ b.toNat)) r

theorem crun_append (n : Nat) (l m : List UInt8) : crun n (l ++ m) = crun (crun n l) m := by
  induction l generalizing n with
  | nil => rfl
  | cons b r ih => simp only [List.cons_append, crun, ih]

theorem crun_lt (n : Nat) (l : List UInt8) (h : n < 4294967296) : crun n l < 4294967296 := by
  induction l generalizing n with
  | nil => exact h
  | cons b r ih =>
    have hb := b.toNat_lt
    exact ih _ (zrun_lt _ _ (Nat.xor_lt_two_pow (n := 32) (by omega) (by omega)))

theorem add_eq_xor (a b k : Nat) (h : a < 2 ^ k) : a + 2 ^ k * b = a ^^^ (2 ^ k * b) := by
  apply Nat.eq_of_testBit_eq
  intro i
  rw [Nat.testBit_xor, Nat.add_comm, Nat.testBit_two_pow_mul_add _ h]
  by_cases hi : i < k
  · have hk : ¬ k ≤ i := by omega
    simp [hi, hk, Nat.testBit_two_pow_mul]
  · have : a.testBit i = false := Nat.testBit_lt_two_pow (Nat.lt_of_lt_of_le h (Nat.pow_le_pow_right (by decide) (by omega)))
    simp [hi, Nat.testBit_two_pow_mul, this]
    omega

/-- THE WHOLE ROW AT ONCE. -/
theorem crun_eq (n : Nat) (l : List UInt8) : crun n l = zrun (8 * l.length) (n ^^^ leN l) := by
  induction l generalizing n with
  | nil => simp [crun, leN, zrun]
  | cons b r ih =>
    have hb := b.toNat_lt
    rw [crun, ih, leN, List.length_cons, show 8 * (r.length + 1) = 8 + 8 * r.length by omega, zrun_add]
    congr 1
    have e := add_eq_xor b.toNat (leN r) 8 (by omega)
    rw [show (2 : Nat) ^ 8 = 256 from rfl] at e
    rw [e, ← Nat.xor_assoc, zrun_xor 8 (n ^^^ b.toNat)]
    have := zrun_pow 8 (leN r)
    rw [show (2 : Nat) ^ 8 = 256 from rfl] at this
    rw [this]

theorem xor_nest (a b c : Nat) : (a ^^^ b) ^^^ (a ^^^ c) = b ^^^ c := by
  rw [Nat.xor_comm a b, Nat.xor_assoc, ← Nat.xor_assoc a a c, Nat.xor_self, Nat.zero_xor]

/-- Of two rows of one length: what the registers differ by hangs on what the rows differ by alone. -/
theorem crun_diff (n : Nat) (l m : List UInt8) (h : l.length = m.length) : crun n l ^^^ crun n m = zrun (8 * l.length) (leN l ^^^ leN m) := by
  rw [crun_eq, crun_eq, ← h, ← zrun_xor, xor_nest]

/-- A burst is seen. -/
theorem burst_seen (n : Nat) (l m : List UInt8) (h : l.length = m.length) (f bits : Nat) (hb : bits < 4294967296) (h0 : bits ≠ 0) (hf : f + 32 ≤ 8 * l.length) (hd : leN l ^^^ leN m = 2 ^ f * bits) : crun n l ≠ crun n m := by
  intro e
  have hx := crun_diff n l m h
  rw [e, Nat.xor_self, hd, show 8 * l.length = f + (8 * l.length - f) by omega, zrun_add, zrun_pow] at hx
  exact zrun_ne _ _ hb h0 hx.symm

/-- All bits turned, of 32. -/
theorem not32 (n : Nat) (h : n < 4294967296) : 4294967295 - n = n ^^^ 4294967295 := by
  have e := add_eq_xor
  apply Nat.eq_of_testBit_eq
  intro i
  rw [Nat.testBit_xor, show 4294967295 - n = 2 ^ 32 - (n + 1) by omega, Nat.testBit_two_pow_sub_succ (by omega)]
  rw [show 4294967295 = 2 ^ 32 - 1 from rfl, Nat.testBit_two_pow_sub_one]
  by_cases hi : i < 32
  · simp [hi]
  · have : n.testBit i = false := Nat.testBit_lt_two_pow (Nat.lt_of_lt_of_le h (by rw [show 4294967296 = 2 ^ 32 from rfl]; exact Nat.pow_le_pow_right (by decide) (by omega)))
    simp [hi, this]

/-- k bits of the register by a table over its lowest k bits. -/
theorem zrun_table (k n : Nat) : zrun k n = zrun k (n % 2 ^ k) ^^^ (n / 2 ^ k) := by
  have e := add_eq_xor (n % 2 ^ k) (n / 2 ^ k) k (Nat.mod_lt _ (Nat.pow_pos (by decide)))
  rw [Nat.mod_add_div] at e
  conv => lhs; rw [e]
  rw [zrun_xor, zrun_pow]

/-- The document's way, bit by bit: register and byte go down side by side. -/
theorem side_step (n x : Nat) : ((n / 2) ^^^ (if n % 2 ≠ x % 2 then poly else 0)) ^^^ (x / 2) = zstep (n ^^^ x) := by
  unfold zstep
  rw [Nat.xor_div_two, xor_mod2, Nat.xor_assoc, Nat.xor_comm _ (x / 2), ← Nat.xor_assoc]
  congr 1
  rcases Nat.mod_two_eq_zero_or_one n with ha | ha <;> rcases Nat.mod_two_eq_zero_or_one x with hb | hb <;> simp [ha, hb]

/-- The document's sum of bytes behind a number. -/
def more (s : Nat) (l : List UInt8) : Nat := 4294967295 - crun (4294967295 - s) l

theorem more_lt (s : Nat) (l : List UInt8) : more s l < 4294967296 := by unfold more; omega

theorem more_more (s : Nat) (l m : List UInt8) : more (more s l) m = more s (l ++ m) := by
  unfold more
  have h := crun_lt (4294967295 - s) l (by omega)
  rw [crun_append, show 4294967295 - (4294967295 - crun (4294967295 - s) l) = crun (4294967295 - s) l by omega]

theorem more_nil (s : Nat) (h : s < 4294967296) : more s [] = s := by
  unfold more crun
  omega

end Go.Proofs.YtebchgoaelamcaaDoor

namespace Go.Proofs.YtebchgoaelamcaaDoor

/-- The k lowest bytes of n, the lowest first. -/
def leB (n : Nat) : Nat → List UInt8
  | 0 => []
  | k + 1 => leB n k ++ [UInt8.ofNat (n / 256 ^ k)]
theorem leB_length (n k : Nat) : (leB n k).length = k := by
  induction k with
  | zero => rfl
  | succ k ih => simp [leB, ih]

/-- The number that bytes are, the lowest first. -/
def leV : List UInt8 → Nat
  | [] => 0
  | b :: r => b.toNat + 256 * leV r

theorem leV_lt (l : List UInt8) : leV l < 256 ^ l.length := by
  induction l with
  | nil => simp [leV]
  | cons b r ih =>
    have := b.toNat_lt
    simp only [leV, List.length_cons, Nat.pow_succ]
    omega

theorem leV_snoc (l : List UInt8) (b : UInt8) : leV (l ++ [b]) = leV l + b.toNat * 256 ^ l.length := by
  induction l with
  | nil => simp [leV]
  | cons c r ih =>
    simp only [List.cons_append, leV, ih, List.length_cons, Nat.pow_succ]
    have e : 256 * (b.toNat * 256 ^ r.length) = b.toNat * (256 ^ r.length * 256) := by rw [Nat.mul_left_comm, Nat.mul_comm 256]
    omega

theorem leV_leB (n k : Nat) : leV (leB n k) = n % 256 ^ k := by
  induction k with
  | zero => simp [leB, leV, Nat.mod_one]
  | succ k ih =>
    rw [leB, leV_snoc, ih, leB_length, Nat.mod_pow_succ]
    simp [Nat.mul_comm]

theorem leN_leV (l : List UInt8) : leN l = leV l := by
  induction l with
  | nil => rfl
  | cons b r ih => simp only [leN, leV, ih]

theorem leN_lt (l : List UInt8) : leN l < 256 ^ l.length := by
  induction l with
  | nil => simp [leN]
  | cons b r ih =>
    have := b.toNat_lt
    simp only [leN, List.length_cons, Nat.pow_succ]
    omega

theorem leN_snoc (l : List UInt8) (b : UInt8) : leN (l ++ [b]) = leN l + b.toNat * 256 ^ l.length := by
  induction l with
  | nil => simp [leN]
  | cons c r ih =>
    simp only [List.cons_append, leN, ih, List.length_cons, Nat.pow_succ]
    have e : 256 * (b.toNat * 256 ^ r.length) = b.toNat * (256 ^ r.length * 256) := by rw [Nat.mul_left_comm, Nat.mul_comm 256]
    omega

theorem leN_leB (n k : Nat) : leN (leB n k) = n % 256 ^ k := by
  induction k with
  | zero => simp [leB, leN, Nat.mod_one]
  | succ k ih =>
    rw [leB, leN_snoc, ih, leB_length, Nat.mod_pow_succ]
    simp [Nat.mul_comm]

theorem leN_inj (l m : List UInt8) (h : l.length = m.length) (e : leN l = leN m) : l = m := by
  induction l generalizing m with
  | nil => cases m with
    | nil => rfl
    | cons c r => simp at h
  | cons b r ih => cases m with
    | nil => simp at h
    | cons c q =>
      have hb := b.toNat_lt
      have hc := c.toNat_lt
      simp only [leN] at e
      have e1 : b.toNat = c.toNat := by omega
      have e2 : leN r = leN q := by omega
      rw [UInt8.toNat_inj.1 e1, ih q (by simpa using h) e2]

/-- A sum's four bytes are the sum's just if their number is the sum. -/
theorem four_iff (l : List UInt8) (S : Nat) (h : l.length = 4) (hS : S < 4294967296) : l = leB S 4 ↔ leN l = S := by
  have e : leN (leB S 4) = S := by rw [leN_leB]; omega
  constructor
  · rintro rfl; exact e
  · intro e2
    exact leN_inj _ _ (by rw [h, leB_length]) (by rw [e, e2])


end Go.Proofs.YtebchgoaelamcaaDoor

namespace Go.Proofs.YtebchgoaelamcaaDoor

/-- A slot. -/
structure Cl where
  used : Bool
  key : List UInt8
  val : List UInt8
deriving DecidableEq

/-- A free slot. -/
def Cl.none : Cl := ⟨false, [], []⟩

/-- A slot's bytes. -/
def cellB (c : Cl) : List UInt8 := if c.used then UInt8.ofNat c.key.length :: (c.key ++ c.val) else []
def sizeC (c : Cl) : Nat := if c.used then 1 + c.key.length + c.val.length else 0
theorem cellB_length (c : Cl) : (cellB c).length = sizeC c := by
  unfold cellB sizeC
  split <;> simp <;> omega

/-- How many bytes slots have. -/
def sumC : List Cl → Nat
  | [] => 0
  | c :: r => sizeC c + sumC r
theorem sumC_append (l m : List Cl) : sumC (l ++ m) = sumC l + sumC m := by
  induction l with
  | nil => simp [sumC]
  | cons c r ih => simp [sumC, ih]; omega
theorem sumC_set (l : List Cl) (i : Nat) (c : Cl) (h : i < l.length) : sumC (l.set i c) + sizeC l[i] = sumC l + sizeC c := by
  induction l generalizing i with
  | nil => simp at h
  | cons d r ih =>
    cases i with
    | zero => simp [sumC]; omega
    | succ i =>
      have := ih i (by simpa using h)
      simp [sumC]
      omega

/-- Free bytes. -/
def freeL (l : List Cl) : Int := 496 - 4 * (l.length : Int) - (sumC l : Int)

def mayK (k v : List UInt8) : Bool := decide (1 ≤ k.length) && (decide (k.length ≤ 16) && decide (v.length ≤ 32))

def isKey (k : List UInt8) (c : Cl) : Bool := c.used && (c.key == k)
def isFree (c : Cl) : Bool := !c.used

/-- An index, or -1. -/
def ixI (o : Option Nat) : Int := match o with
  | some i => (i : Int)
  | none => -1

def cellOfKV (k v : List UInt8) : Cl := ⟨true, k, v⟩

/-- Slots without the free ones behind all others. -/
def trimR : List Cl → List Cl
  | [] => []
  | c :: r => if c.used then c :: r else trimR r
def trimL (l : List Cl) : List Cl := (trimR l.reverse).reverse

def fillL (l : List Cl) (i : Nat) (c : Cl) : List Cl × Int :=
  if (sizeC c : Int) - (sizeC (l[i]?.getD Cl.none) : Int) > freeL l then (l, 7) else (l.set i c, 0)
def addL (l : List Cl) (c : Cl) : List Cl × Int :=
  if l.length = 64 ∨ 4 + (sizeC c : Int) > freeL l then (l, 7) else (l ++ [c], 0)
def insL (l : List Cl) (k v : List UInt8) : List Cl × Int :=
  if mayK k v = true then
    match l.findIdx? (isKey k) with
    | some _ => (l, 9)
    | none => match l.findIdx? isFree with
      | some i => fillL l i (cellOfKV k v)
      | none => addL l (cellOfKV k v)
  else (l, 1)
def updL (l : List Cl) (k v : List UInt8) : List Cl × Int :=
  if mayK k v = true then
    match l.findIdx? (isKey k) with
    | some i => fillL l i (cellOfKV k v)
    | none => (l, 8)
  else (l, 1)
def delL (l : List Cl) (k : List UInt8) : List Cl × Int :=
  match l.findIdx? (isKey k) with
  | some i => (trimL (l.set i Cl.none), 0)
  | none => (l, 8)

/-- A slot that may be. -/
def goodC (c : Cl) : Prop := if c.used then 1 ≤ c.key.length ∧ c.key.length ≤ 16 ∧ c.val.length ≤ 32 else c.key = [] ∧ c.val = []

/-- Slots that a page may have. -/
structure GoodL (l : List Cl) : Prop where
  cells : ∀ c ∈ l, goodC c
  room : 0 ≤ freeL l
  few : l.length ≤ 64
  last : trimL l = l
  once : ∀ i j (hi : i < l.length) (hj : j < l.length), l[i].used = true → l[j].used = true → l[i].key = l[j].key → i = j

theorem goodL_nil : GoodL [] := ⟨by simp, by simp [freeL, sumC], by simp, by rfl, by simp⟩

theorem goodC_none : goodC Cl.none := by simp [goodC, Cl.none]
theorem sizeC_none : sizeC Cl.none = 0 := rfl
theorem goodC_kv (k v : List UInt8) (h : mayK k v = true) : goodC (cellOfKV k v) := by
  simp [mayK] at h
  simp [goodC, cellOfKV]
  omega

theorem trimR_used (l : List Cl) (c : Cl) (hc : c.used = true) : trimR (c :: l) = c :: l := by simp [trimR, hc]
theorem trimL_snoc_used (l : List Cl) (c : Cl) (hc : c.used = true) : trimL (l ++ [c]) = l ++ [c] := by simp [trimL, trimR, hc]
theorem trimL_snoc_free (l : List Cl) (c : Cl) (hc : c.used = false) : trimL (l ++ [c]) = trimL l := by simp [trimL, trimR, hc]

theorem trimR_suffix (l : List Cl) : ∃ p, l = p ++ trimR l ∧ ∀ c ∈ p, c.used = false := by
  induction l with
  | nil => exact ⟨[], rfl, by simp⟩
  | cons c r ih =>
    by_cases hc : c.used = true
    · exact ⟨[], by simp [trimR, hc], by simp⟩
    · obtain ⟨p, hp, hu⟩ := ih
      refine ⟨c :: p, ?_, ?_⟩
      · simp [trimR, hc]; exact hp
      · intro d hd
        simp at hd
        rcases hd with rfl | hd
        · simpa using hc
        · exact hu d hd
theorem trimL_prefix (l : List Cl) : ∃ p, l = trimL l ++ p ∧ ∀ c ∈ p, c.used = false := by
  obtain ⟨p, hp, hu⟩ := trimR_suffix l.reverse
  refine ⟨p.reverse, ?_, by simpa using hu⟩
  have := congrArg List.reverse hp
  simp at this
  simpa [trimL] using this

theorem trimR_trimR (l : List Cl) : trimR (trimR l) = trimR l := by
  induction l with
  | nil => rfl
  | cons c r ih =>
    by_cases hc : c.used = true
    · simp [trimR, hc]
    · simp [trimR, hc, ih]
theorem trimL_trimL (l : List Cl) : trimL (trimL l) = trimL l := by simp [trimL, trimR_trimR]

theorem sumC_free (p : List Cl) (h : ∀ c ∈ p, c.used = false) : sumC p = 0 := by
  induction p with
  | nil => rfl
  | cons c r ih =>
    simp at h
    simp [sumC, ih h.2, sizeC, h.1]

theorem trimL_free (l : List Cl) : freeL l ≤ freeL (trimL l) ∧ (trimL l).length ≤ l.length := by
  obtain ⟨p, hp, hu⟩ := trimL_prefix l
  have h1 : sumC l = sumC (trimL l) + sumC p := by rw [← sumC_append, ← hp]
  have h2 : l.length = (trimL l).length + p.length := by rw [← List.length_append, ← hp]
  have h3 := sumC_free p hu
  unfold freeL
  omega

theorem GoodL.trim {l : List Cl} (h1 : ∀ c ∈ l, goodC c) (h2 : 0 ≤ freeL l) (h3 : l.length ≤ 64)
    (h5 : ∀ i j (hi : i < l.length) (hj : j < l.length), l[i].used = true → l[j].used = true → l[i].key = l[j].key → i = j) : GoodL (trimL l) := by
  obtain ⟨p, hp, hu⟩ := trimL_prefix l
  have ht := trimL_free l
  refine ⟨fun c hc => h1 c ?_, by omega, by omega, trimL_trimL l, fun i j hi hj => ?_⟩
  · rw [hp]; exact List.mem_append_left _ hc
  · have hi' : i < l.length := by omega
    have hj' : j < l.length := by omega
    have ei : (trimL l)[i] = l[i] := by
      have : l[i] = (trimL l ++ p)[i]'(by rw [← hp]; exact hi') := by congr 1
      rw [this, List.getElem_append_left hi]
    have ej : (trimL l)[j] = l[j] := by
      have : l[j] = (trimL l ++ p)[j]'(by rw [← hp]; exact hj') := by congr 1
      rw [this, List.getElem_append_left hj]
    rw [ei, ej]
    exact h5 i j hi' hj'

theorem find_some {l : List Cl} {p : Cl → Bool} {i : Nat} (h : l.findIdx? p = some i) : ∃ hi : i < l.length, p l[i] = true := by
  rw [List.findIdx?_eq_some_iff_getElem] at h
  obtain ⟨hi, h1, _⟩ := h
  exact ⟨hi, h1⟩
theorem find_none {l : List Cl} {p : Cl → Bool} (h : l.findIdx? p = none) : ∀ i (hi : i < l.length), p l[i] = false := by
  intro i hi
  rw [List.findIdx?_eq_none_iff] at h
  exact h l[i] (List.getElem_mem hi)

theorem set_once {l : List Cl} {i : Nat} {c : Cl}
    (h : ∀ i j (hi : i < l.length) (hj : j < l.length), l[i].used = true → l[j].used = true → l[i].key = l[j].key → i = j)
    (hc : c.used = true → ∀ j (hj : j < l.length), j ≠ i → l[j].used = true → l[j].key ≠ c.key) :
    ∀ a b (ha : a < (l.set i c).length) (hb : b < (l.set i c).length), (l.set i c)[a].used = true → (l.set i c)[b].used = true → (l.set i c)[a].key = (l.set i c)[b].key → a = b := by
  intro a b ha hb ua ub hk
  simp only [List.length_set] at ha hb
  rw [List.getElem_set] at ua ub
  rw [List.getElem_set, List.getElem_set] at hk
  by_cases ea : i = a
  · by_cases eb : i = b
    · omega
    · rw [if_pos ea] at ua hk
      rw [if_neg eb] at ub hk
      exact absurd hk.symm (hc ua b hb (Ne.symm eb) ub)
  · by_cases eb : i = b
    · rw [if_pos eb] at ub hk
      rw [if_neg ea] at ua hk
      exact absurd hk (hc ub a ha (Ne.symm ea) ua)
    · rw [if_neg ea] at ua hk
      rw [if_neg eb] at ub hk
      exact h a b ha hb ua ub hk

theorem set_trim {l : List Cl} {i : Nat} {c : Cl} (hi : i < l.length) (hc : c.used = true) (h : trimL l = l) : trimL (l.set i c) = l.set i c := by
  rcases List.eq_nil_or_concat l with rfl | ⟨m, d, rfl⟩
  · simp at hi
  · simp only [List.concat_eq_append] at *
    by_cases e : i < m.length
    · rw [List.set_append_left _ _ e]
      refine trimL_snoc_used _ _ ?_
      cases hd : d.used
      · rw [trimL_snoc_free _ _ hd] at h
        have := (trimL_free m).2
        have := congrArg List.length h
        simp at this
        omega
      · rfl
    · have : i = m.length := by simp at hi; omega
      subst this
      simp
      exact trimL_snoc_used _ _ hc

theorem fill_good {l : List Cl} {i : Nat} {c : Cl} (h : GoodL l) (hi : i < l.length) (hc : c.used = true) (hg : goodC c)
    (ho : ∀ j (hj : j < l.length), j ≠ i → l[j].used = true → l[j].key ≠ c.key) : GoodL (fillL l i c).1 := by
  unfold fillL
  split
  · exact h
  · rename_i hf
    have hs := sumC_set l i c hi
    refine ⟨fun d hd => ?_, ?_, by simpa using h.few, set_trim hi hc h.last, set_once h.once fun _ => ho⟩
    · rcases List.mem_or_eq_of_mem_set hd with hd | rfl
      · exact h.cells d hd
      · exact hg
    · simp only [List.getElem?_eq_getElem hi, Option.getD_some] at hf
      unfold freeL at hf ⊢
      simp only [List.length_set]
      omega

theorem add_good {l : List Cl} {c : Cl} (h : GoodL l) (hc : c.used = true) (hg : goodC c)
    (ho : ∀ j (hj : j < l.length), l[j].used = true → l[j].key ≠ c.key) : GoodL (addL l c).1 := by
  unfold addL
  split
  · exact h
  · rename_i hf
    have h64 := h.few
    refine ⟨fun d hd => ?_, ?_, ?_, trimL_snoc_used _ _ hc, ?_⟩
    · simp at hd
      rcases hd with hd | rfl
      · exact h.cells d hd
      · exact hg
    · unfold freeL at hf ⊢
      simp [sumC_append, sumC]
      omega
    · simp
      omega
    · intro i j hi hj ui uj hk
      simp at hi hj
      rw [List.getElem_append] at ui uj
      rw [List.getElem_append, List.getElem_append] at hk
      by_cases ei : i < l.length
      · rw [dif_pos ei] at ui hk
        by_cases ej : j < l.length
        · rw [dif_pos ej] at uj hk
          exact h.once i j ei ej ui uj hk
        · rw [dif_neg ej] at hk
          simp at hk
          exact absurd hk (ho i ei ui)
      · rw [dif_neg ei] at hk
        by_cases ej : j < l.length
        · rw [dif_pos ej] at uj hk
          simp at hk
          exact absurd hk.symm (ho j ej uj)
        · omega

theorem ins_good {l : List Cl} (h : GoodL l) (k v : List UInt8) : GoodL (insL l k v).1 := by
  unfold insL
  split
  · rename_i hm
    split
    · exact h
    · rename_i hn
      have hno := find_none hn
      have ho : ∀ j (hj : j < l.length), l[j].used = true → l[j].key ≠ k := fun j hj hu hk => by
        have := hno j hj
        simp [isKey, hu, hk] at this
      split
      · rename_i i hi
        obtain ⟨hi, _⟩ := find_some hi
        exact fill_good h hi rfl (goodC_kv k v hm) fun j hj _ hu => ho j hj hu
      · exact add_good h rfl (goodC_kv k v hm) ho
  · exact h

theorem upd_good {l : List Cl} (h : GoodL l) (k v : List UInt8) : GoodL (updL l k v).1 := by
  unfold updL
  split
  · rename_i hm
    split
    · rename_i i hi
      obtain ⟨hi, hk⟩ := find_some hi
      simp [isKey] at hk
      refine fill_good h hi rfl (goodC_kv k v hm) fun j hj hne hu he => hne (h.once j i hj hi hu hk.1 ?_)
      rw [hk.2]
      exact he
    · exact h
  · exact h

theorem del_good {l : List Cl} (h : GoodL l) (k : List UInt8) : GoodL (delL l k).1 := by
  unfold delL
  split
  · rename_i i hi
    obtain ⟨hi, hk⟩ := find_some hi
    have hs := sumC_set l i Cl.none hi
    refine GoodL.trim (fun d hd => ?_) ?_ (by simpa using h.few) (set_once h.once fun hc => by simp [Cl.none] at hc)
    · rcases List.mem_or_eq_of_mem_set hd with hd | rfl
      · exact h.cells d hd
      · exact goodC_none
    · have := h.room
      unfold freeL at this ⊢
      simp only [List.length_set]
      rw [sizeC_none] at hs
      omega
  · exact h

/-- The slots' bytes. -/
def layS : Nat → List Cl → List UInt8
  | _, [] => []
  | e, c :: r => (if c.used then leB (e - sizeC c) 2 ++ leB (sizeC c) 2 else leB 0 4) ++ layS (e - sizeC c) r
/-- The cells' bytes. -/
def layC : List Cl → List UInt8
  | [] => []
  | c :: r => layC r ++ cellB c
theorem layS_length (e : Nat) (l : List Cl) : (layS e l).length = 4 * l.length := by
  induction l generalizing e with
  | nil => rfl
  | cons c r ih =>
    simp only [layS, List.length_append, ih, List.length_cons]
    split <;> simp [leB_length] <;> omega
theorem layC_length (l : List Cl) : (layC l).length = sumC l := by
  induction l with
  | nil => rfl
  | cons c r ih => simp [layC, sumC, ih, cellB_length]; omega
theorem layS_append (e : Nat) (l m : List Cl) : layS e (l ++ m) = layS e l ++ layS (e - sumC l) m := by
  induction l generalizing e with
  | nil => simp [layS, sumC]
  | cons c r ih => simp [layS, sumC, ih, Nat.sub_sub]
theorem layC_append (l m : List Cl) : layC (l ++ m) = layC m ++ layC l := by
  induction l with
  | nil => simp [layC]
  | cons c r ih => simp [layC, ih]

/-- What stands behind the sum. -/
def bodyP (id lsn : Nat) (l : List Cl) : List UInt8 :=
  leB lsn 8 ++ (leB id 2 ++ (leB l.length 2 ++ (layS 512 l ++ (List.replicate (496 - 4 * l.length - sumC l) 0 ++ layC l))))
/-- A page's bytes. -/
def pageB (id lsn : Nat) (l : List Cl) : List UInt8 := leB (more 0 (bodyP id lsn l)) 4 ++ bodyP id lsn l

theorem bodyP_length (id lsn : Nat) (l : List Cl) (h : 0 ≤ freeL l) : (bodyP id lsn l).length = 508 := by
  unfold freeL at h
  simp [bodyP, leB_length, layS_length, layC_length]
  omega
theorem pageB_length (id lsn : Nat) (l : List Cl) (h : 0 ≤ freeL l) : (pageB id lsn l).length = 512 := by
  simp [pageB, leB_length, bodyP_length id lsn l h]

/-- Laid and taken away again. -/
theorem ins_del {l : List Cl} (h : GoodL l) (k v : List UInt8) (ho : (insL l k v).2 = 0) : (delL (insL l k v).1 k) = (l, 0) := by
  unfold insL at ho ⊢
  split at ho
  · rename_i hm
    rw [if_pos hm]
    split at ho
    · simp at ho
    · rename_i hn
      have hno := find_none hn
      split at ho
      · rename_i i hi
        obtain ⟨hl, hu⟩ := find_some hi
        unfold fillL at ho ⊢
        split at ho
        · simp at ho
        · rename_i hf
          rw [if_neg hf]
          have hfd : (l.set i (cellOfKV k v)).findIdx? (isKey k) = some i := by
            rw [List.findIdx?_eq_some_iff_getElem]
            refine ⟨by simpa using hl, by simp [isKey, cellOfKV], fun j hj => ?_⟩
            have := hno j (by omega)
            rw [List.getElem_set, if_neg (by omega)]
            simp [this]
          unfold delL
          simp only [hfd, List.set_set]
          have hg := h.cells _ (List.getElem_mem hl)
          have hz : l[i] = Cl.none := by
            simp [isFree] at hu
            simp [goodC, hu] at hg
            rcases he : l[i] with ⟨u, a, b⟩
            rw [he] at hu hg
            simp at hu hg
            simp [Cl.none, hu, hg]
          rw [← hz, List.set_getElem_self, h.last]
      · rename_i hi
        unfold addL at ho ⊢
        split at ho
        · simp at ho
        · rename_i hf
          rw [if_neg hf]
          have hfd : (l ++ [cellOfKV k v]).findIdx? (isKey k) = some l.length := by
            rw [List.findIdx?_eq_some_iff_getElem]
            refine ⟨by simp, by simp [isKey, cellOfKV], fun j hj => ?_⟩
            have := hno j (by omega)
            rw [List.getElem_append_left (by omega)]
            simp [this]
          unfold delL
          simp only [hfd]
          rw [List.set_append_right _ _ (by omega)]
          simp [trimL_snoc_free _ _ (show Cl.none.used = false from rfl), h.last]
  · simp at ho

end Go.Proofs.YtebchgoaelamcaaDoor

namespace Go.Proofs.YtebchgoaelamcaaDoor
open Go.RowKit
set_option maxRecDepth 100000

/-- An append to an owned row, as one step of a region that draws its order. -/
theorem step_append_own {P : Program} {ops : Array Oper} {o : Oper} {a : Act} {w : World} {K : Act → World → Prop} {Q : Exit → Act → World → Prop} {E : Prop}
    (hg : o.guard = none) (s x : Operand) (t : TypeId) (hop : o.op = Op.call { callee := Callee.builtin Builtin.append, args := #[s, x], argTypes := #[t, t] })
    (base : Nat) (e : TypeId) (i : TypeInfo) (z : Value) (size bytes : Nat) (h1 : P.underlying t = some (.slice e)) (h2 : P.info? e = some i) (h3 : i.zero = some z) (h4 : i.size = size) (h5 : i.bytes = bytes) (h6 : z.cells.size = size) (h7 : 0 < size)
    (v : Value) (n : Nat) (xs : List Value) (hs : a.eval s = v) (hown : w.ownsRow base e size v n xs)
    (ad : Addr) (m c : Nat) (news : List Value) (hx : a.eval x = .slice (some ad) m c) (hn : news.length = m * size) (hc : ∀ j u, news[j]? = some u → w.cell? (ad.add j) = some u) (h1c : ∀ u ∈ news, u.oneCell' = true)
    (b1 : n + m ≤ maxLen) (b2 : (n + m) * bytes ≤ 140737488355328) (hb : base ≤ w.heap.size)
    (hK : ∀ v' w', w'.ownsRow base e size v' (n + m) (xs ++ news) → w.grownBy w' v.ownBlock → K (a.put o.dst v') w') :
    if Region.wanted o (yielded ops a.tmps) = true then Oper.wp P o a w K Q else E := by
  have hw : Region.wanted o (yielded ops a.tmps) = true := by simp [Region.wanted, hg]
  rw [if_pos hw]
  obtain ⟨v', w', hrun, r1, r2, _⟩ := run_append_own (P := P) w base t o.type e i z size bytes h1 h2 h3 h4 h5 h6 h7 v n xs hown ad m c news hn hc h1c b1 b2 hb
  unfold Oper.wp
  simp [execOp, hop, resolve, invoke, builtin, hs, hx, hrun, Result.andThen]
  exact hK v' w' r1 r2

/-- Bytes as cells. -/
def bcells (l : List UInt8) : List Value := l.map fun b => Value.int .u8 (b.toNat : Int)
theorem bcells_length (l : List UInt8) : (bcells l).length = l.length := by simp [bcells]
theorem bcells_append (l m : List UInt8) : bcells (l ++ m) = bcells l ++ bcells m := by simp [bcells]

theorem ownsRow_shape {w : World} {B : Nat} {e : TypeId} {size : Nat} {v : Value} {n : Nat} {xs : List Value} (h : w.ownsRow B e size v n xs) : ∃ a c, v = .slice a n c := by
  rcases h.2 with ⟨rfl, rfl⟩ | ⟨g, cap, cur, rfl, _⟩
  · exact ⟨_, _, rfl⟩
  · exact ⟨_, _, rfl⟩

theorem ownsRow_below {w w' : World} {B D : Nat} {e : TypeId} {size : Nat} {v : Value} {n : Nat} {xs : List Value} (h : w.ownsRow B e size v n xs) (hb : Below D w w') (hD : ∀ k, v.ownBlock = some k → k < D) : w'.ownsRow B e size v n xs := by
  refine ⟨h.1, ?_⟩
  rcases h.2 with h2 | ⟨g, cap, cur, hv, hg, hh, r⟩
  · exact .inl h2
  · refine .inr ⟨g, cap, cur, hv, hg, ?_, r⟩
    rw [hb.block g (hD g (by rw [hv]; rfl))]
    exact hh

theorem ownsRow_lt {w : World} {B : Nat} {e : TypeId} {size : Nat} {v : Value} {n : Nat} {xs : List Value} (h : w.ownsRow B e size v n xs) : ∀ k, v.ownBlock = some k → k < w.heap.size := fun k hk => (h.lt k hk).2

theorem byte_at (n : Int) (k : Nat) (h0 : 0 ≤ n) : IntKind.u8.wrap (n / 2 ^ (8 * (k : Int)).toNat) = ((UInt8.ofNat (n.toNat / 256 ^ k)).toNat : Int) := by
  have e : ((2 : Int) ^ (8 * (k : Int)).toNat) = ((256 ^ k : Nat) : Int) := by
    have : (8 * (k : Int)).toNat = 8 * k := by omega
    rw [this, Int.pow_mul]
    simp
  rw [e]
  obtain ⟨m, rfl⟩ := Int.eq_ofNat_of_zero_le h0
  simp [IntKind.wrap, IntKind.bits, IntKind.signed]

/-- The slice v holds the bytes l. -/
structure SlB (w : World) (a : Option Addr) (l : List UInt8) : Prop where
  nonil : a = none → l = []
  cells : ∀ x, a = some x → ∀ j u, (bcells l)[j]? = some u → w.cell? (x.add j) = some u

theorem SlB.below {w w' : World} {a : Option Addr} {l : List UInt8} (h : SlB w a l) (hb : Below w.heap.size w w') : SlB w' a l :=
  ⟨h.nonil, fun x hx j u hu => by have := h.cells x hx j u hu; rw [hb.cell (World.block_lt_of_cell? _ _ this)]; exact this⟩

theorem slB_of_own {w : World} {B : Nat} {a : Option Addr} {n c : Nat} {l : List UInt8} (h : w.ownsRow B 5 1 (.slice a n c) l.length (bcells l)) : SlB w a l ∧ n = l.length ∧ l.length ≤ maxLen := by
  rcases h.2 with ⟨h1, h2⟩ | ⟨g, cap, cur, h1, hB, hh, hc, hm, _⟩
  · simp at h1
    obtain ⟨rfl, rfl, rfl⟩ := h1
    have : l = [] := List.eq_nil_of_length_eq_zero h2
    subst this
    exact ⟨⟨fun _ => rfl, fun x hx => by simp at hx⟩, rfl, by simp⟩
  · simp at h1
    obtain ⟨rfl, rfl, rfl⟩ := h1
    refine ⟨⟨fun h => by simp at h, fun x hx j u hu => ?_⟩, rfl, by omega⟩
    simp at hx
    subst hx
    exact h.cells (g := g) rfl j u hu

theorem extract_list (s : ByteArray) (k : Nat) : (s.extract 0 k).data.toList = s.data.toList.take k := by rw [Lib.extract_data]; simp

theorem bits_or_u64_nat (a b : Nat) (ha : a < 18446744073709551616) (hb : b < 18446744073709551616) :
    bits .or .u64 (a : Int) (b : Int) = ((a ||| b : Nat) : Int) := by
  have hx : a ||| b < 2 ^ 64 := Nat.or_lt_two_pow (by omega) (by omega)
  have h1 : (BitVec.ofInt 64 (a : Int)).toNat = a := by
    rw [BitVec.ofInt_natCast, BitVec.toNat_ofNat]; exact Nat.mod_eq_of_lt (by omega)
  have h2 : (BitVec.ofInt 64 (b : Int)).toNat = b := by
    rw [BitVec.ofInt_natCast, BitVec.toNat_ofNat]; exact Nat.mod_eq_of_lt (by omega)
  show IntKind.u64.wrap ((BitVec.ofInt 64 (a : Int) ||| BitVec.ofInt 64 (b : Int)).toNat : Int) = _
  rw [BitVec.toNat_or, h1, h2, IntKind.wrap_u64]
  omega

/-- One byte more. -/
theorem or_step (l : List UInt8) (b : UInt8) (hk : l.length < 8) :
    bits .or .u64 ((leV l : Nat) : Int) (IntKind.u64.wrap (((b.toNat : Nat) : Int) * 2 ^ (8 * (l.length : Int)).toNat)) = ((leV (l ++ [b]) : Nat) : Int) := by
  have hp : (8 * (l.length : Int)).toNat = 8 * l.length := by omega
  have e1 : ((b.toNat : Int) * 2 ^ (8 * l.length)) = ((b.toNat * 2 ^ (8 * l.length) : Nat) : Int) := by simp
  have hb := b.toNat_lt
  have h256 : (256 : Nat) ^ l.length = 2 ^ (8 * l.length) := by rw [Nat.pow_mul]
  have hle : 2 ^ (8 * l.length) ≤ 2 ^ 56 := Nat.pow_le_pow_right (by decide) (by omega)
  have hlt := leV_lt l
  rw [h256] at hlt
  have hbig : b.toNat * 2 ^ (8 * l.length) < 18446744073709551616 := by
    have := Nat.mul_le_mul (show b.toNat ≤ 255 by omega) hle
    omega
  rw [hp, e1, IntKind.wrap_u64]
  rw [show ((b.toNat * 2 ^ (8 * l.length) : Nat) : Int) % 18446744073709551616 = ((b.toNat * 2 ^ (8 * l.length) : Nat) : Int) by omega]
  rw [bits_or_u64_nat _ _ (by omega) hbig, leV_snoc, h256]
  congr 1
  rw [Nat.or_comm, Nat.mul_comm b.toNat, Nat.add_comm]
  exact (Nat.two_pow_add_eq_or_of_lt hlt b.toNat).symm

end Go.Proofs.YtebchgoaelamcaaDoor

namespace Go.Proofs.YtebchgoaelamcaaDoor

theorem wpStill_of_quiet {P : Program} {ops : Array Oper} {W : World} {Q : Act → Prop} : ∀ (l : List Oper) (a : Act), wpQuiet P ops (fun w' => w' = W) Q l a → wpStill P ops W Q l a := by
  intro l
  induction l with
  | nil => exact fun a h => h
  | cons o rest ih =>
    intro a h
    simp only [wpQuiet, wpStill] at *
    split
    · rename_i hw
      rw [if_pos hw] at h
      obtain ⟨v, h1, h2⟩ := h
      have h3 := h1 W rfl
      unfold Oper.quietAt Oper.quietUpon at h3
      unfold Oper.still Oper.stillUpon
      split at h3
      · rename_i e; rw [e]; exact ⟨h3.1, h3.2 ▸ ih _ h2⟩
      · rename_i e; rw [e]; exact ⟨h3.1, h3.2 ▸ ih _ h2⟩
      · rename_i e; rw [e]; exact ⟨h3.1, v, h3.2, ih _ h2⟩
      · exact h3.elim
    · rename_i hw
      rw [if_neg hw] at h
      exact ih _ h

theorem wp_region_quiet_tail {P : Program} {id : Nat} {Q : Exit → Act → World → Prop} {a : Act} {w : World} {l : List Oper} (n : Nat) (hm : P.follows .mixedOrders = true) (hB : Region.lexTailB .any l.toArray n = true)
    (h : wpQuiet P l.toArray (fun w' => w' = w.drew) (fun a' => wpList P l.toArray Q (l.drop n) a' w.drew) (l.take n) a) : (Code.region id l.toArray true).wp P Q a w :=
  wp_region_still_tail n hm hB (wpStill_of_quiet _ _ h)

end Go.Proofs.YtebchgoaelamcaaDoor

namespace Go.Proofs.YtebchgoaelamcaaDoor
open Go.RowKit
set_option maxRecDepth 100000

/-- A text of some bytes. -/
def txt (l : List UInt8) : ByteArray := ⟨l.toArray⟩
theorem txt_size (l : List UInt8) : (txt l).size = l.length := by simp [txt, ByteArray.size]
theorem txt_toList (l : List UInt8) : (txt l).toList = l := by simp [txt]
theorem txt_inj (l m : List UInt8) : txt l = txt m ↔ l = m := by
  constructor
  · intro h
    have := congrArg (fun b => b.data.toList) h
    simpa [txt] using this
  · rintro rfl; rfl

/-- A slot's cells. -/
def cellV (c : Cl) : Array Value := #[.bool c.used, .string (txt c.key), .string (txt c.val)]

theorem known_any (id : Int) (w : World) : Calls Tryd.prog 56 #[.int .i64 id] w fun e w' => e = .returned (.bool (decide (0 ≤ id) && decide (id < 16))) ∧ w' = w := by
  by_cases h : 0 ≤ id
  · go_enter Tryd.func56, Tryd.ntmps56
    go_wp2
    go_ret
    simp [h]
  · go_enter Tryd.func56, Tryd.ntmps56
    go_wp2
    go_ret
    simp
    omega

theorem slotAt_any (i : Nat) (w : World) (h : i ≤ 1000000) : Calls Tryd.prog 41 #[.int .i64 (i : Int)] w fun e w' => e = .returned (.int .i64 ((16 + 4 * i : Nat) : Int)) ∧ w' = w := by
  go_enter Tryd.func41, Tryd.ntmps41
  go_wp2
  go_ret
  simp

theorem cellSize_any (c : Cl) (w : World) (h : c.key.length + c.val.length ≤ 1000000) : Calls Tryd.prog 39 #[.agg (cellV c)] w fun e w' => e = .returned (.int .i64 (sizeC c : Nat)) ∧ Below w.heap.size w w' := by
  obtain ⟨u, k, v⟩ := c
  have hB := (Below.refl w.heap.size w).alloc (Nat.le_refl _) (.cells (cellV ⟨u, k, v⟩) 55)
  simp only [cellV] at hB
  simp only at h
  cases u
  · simp only [cellV]
    go_enter Tryd.func39, Tryd.ntmps39
    go_wp2
    go_ret
    exact ⟨rfl, hB⟩
  · have e1 := txt_size k
    have e2 := txt_size v
    simp only [cellV]
    go_enter Tryd.func39, Tryd.ntmps39
    go_wp2
    go_ret
    refine ⟨?_, hB⟩
    simp [sizeC]

theorem may_any (k v : List UInt8) (w : World) (hk : k.length ≤ maxLen) (hv : v.length ≤ maxLen) : Calls Tryd.prog 57 #[.string (txt k), .string (txt v)] w fun e w' => e = .returned (.bool (mayK k v)) ∧ w' = w := by
  unfold maxLen at hk hv
  have e1 := txt_size k
  have e2 := txt_size v
  unfold mayK
  by_cases h1 : 1 ≤ k.length
  · by_cases h2 : k.length ≤ 16
    · go_enter Tryd.func57, Tryd.ntmps57
      go_wp2
      go_ret
      simp [h1, h2]
      omega
    · go_enter Tryd.func57, Tryd.ntmps57
      go_wp2
      go_ret
      simp
  · go_enter Tryd.func57, Tryd.ntmps57
    go_wp2
    go_ret
    simp

/-- A slice of slots. -/
structure SlC (w : World) (a : Option Addr) (l : List Cl) : Prop where
  nonil : a = none → l = []
  cells : ∀ x, a = some x → ∀ i t, l[i]? = some t → x.spot = none ∧ w.cell? ⟨x.block, x.off + i * 3, none⟩ = some (.bool t.used) ∧ w.cell? ⟨x.block, x.off + i * 3 + 1, none⟩ = some (.string (txt t.key)) ∧ w.cell? ⟨x.block, x.off + i * 3 + 2, none⟩ = some (.string (txt t.val))

theorem SlC.below {w w' : World} {a : Option Addr} {l : List Cl} (h : SlC w a l) (hb : Below w.heap.size w w') : SlC w' a l :=
  ⟨h.nonil, fun x hx i t ht => by
    obtain ⟨h0, h1, h2, h3⟩ := h.cells x hx i t ht
    have hlt := World.block_lt_of_cell? _ _ h1
    exact ⟨h0, by rw [hb.cell (by exact hlt)]; exact h1, by rw [hb.cell (by exact hlt)]; exact h2, by rw [hb.cell (by exact hlt)]; exact h3⟩⟩

theorem SlC.at {w : World} {a : Option Addr} {l : List Cl} (h : SlC w a l) (i : Nat) (hi : i < l.length) : ∃ b o, a = some ⟨b, o, none⟩ ∧ b < w.heap.size ∧
    w.cell? ⟨b, o + i * 3, none⟩ = some (.bool l[i].used) ∧ w.cell? ⟨b, o + i * 3 + 1, none⟩ = some (.string (txt l[i].key)) ∧ w.cell? ⟨b, o + i * 3 + 2, none⟩ = some (.string (txt l[i].val)) := by
  cases a with
  | none => have := h.nonil rfl; subst this; simp at hi
  | some x =>
    obtain ⟨b, o, sp⟩ := x
    obtain ⟨h0, h1, h2, h3⟩ := h.cells _ rfl i _ (List.getElem?_eq_getElem hi)
    simp only at h0 h1 h2 h3
    subst h0
    exact ⟨b, o, rfl, World.block_lt_of_cell? _ _ h1, h1, h2, h3⟩

theorem SlC.here {w : World} {b o : Nat} {l : List Cl} (h : SlC w (some ⟨b, o, none⟩) l) (i : Nat) (hi : i < l.length) : b < w.heap.size ∧
    w.cell? ⟨b, o + i * 3, none⟩ = some (.bool l[i].used) ∧ w.cell? ⟨b, o + i * 3 + 1, none⟩ = some (.string (txt l[i].key)) ∧ w.cell? ⟨b, o + i * 3 + 2, none⟩ = some (.string (txt l[i].val)) := by
  obtain ⟨b', o', e, h1⟩ := h.at i hi
  simp at e
  obtain ⟨rfl, rfl⟩ := e
  exact h1

theorem pred75 (c : Cl) (W : World) : Calls Tryd.prog 79 #[.agg (cellV c)] W fun e w' => e = .returned (.bool (isFree c)) ∧ Below W.heap.size W w' := by
  have hB := (Below.refl W.heap.size W).alloc (Nat.le_refl _) (.cells (cellV c) 55)
  simp only [cellV] at hB ⊢
  go_enter Tryd.func79, Tryd.ntmps79
  go_wp2
  go_ret
  exact ⟨by simp [isFree], hB⟩

theorem pred73 (k : List UInt8) (g : Nat) (c : Cl) (W : World) (hg : g < W.heap.size) (hc : W.cell? ⟨g, 0, none⟩ = some (.string (txt k))) :
    Calls Tryd.prog 77 #[.agg (cellV c), .pointer (some ⟨g, 0, none⟩)] W fun e w' => e = .returned (.bool (isKey k c)) ∧ Below W.heap.size W w' := by
  have hB := (Below.refl W.heap.size W).alloc (Nat.le_refl _) (.cells (cellV c) 55)
  have hne : g ≠ W.heap.size := by omega
  obtain ⟨u, key, val⟩ := c
  simp only [cellV] at hB ⊢
  cases u
  · go_enter Tryd.func77, Tryd.ntmps77
    go_wp2
    go_ret
    exact ⟨by simp [isKey], hB⟩
  · go_enter Tryd.func77, Tryd.ntmps77
    go_wp2
    go_ret
    refine ⟨?_, hB⟩
    simp [isKey, txt_toList]

end Go.Proofs.YtebchgoaelamcaaDoor

