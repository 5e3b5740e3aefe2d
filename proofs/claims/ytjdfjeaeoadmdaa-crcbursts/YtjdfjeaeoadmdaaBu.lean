/-
  The plain mathematics of CrcBursts, and rows of bytes that are turned.
-/
import Derived.Test.YtjdfjeaeoadmdaaAr
namespace Go.Proofs.Ytjdfjeaeoadmdaa
open Go.RowKit

theorem mul_xor (k x y : Nat) : 2 ^ k * (x ^^^ y) = (2 ^ k * x) ^^^ (2 ^ k * y) := by
  apply Nat.eq_of_testBit_eq
  intro i
  rw [Nat.testBit_xor, Nat.testBit_two_pow_mul, Nat.testBit_two_pow_mul, Nat.testBit_two_pow_mul, Nat.testBit_xor]
  by_cases h : k ≤ i <;> simp [h]

/-- A byte of a row turned. -/
theorem leN_set (l : List UInt8) (j : Nat) (v : UInt8) (hj : j < l.length) : leN (l.set j (l[j] ^^^ v)) = leN l ^^^ (2 ^ (8 * j) * v.toNat) := by
  induction l generalizing j with
  | nil => simp at hj
  | cons b r ih =>
    have hb := b.toNat_lt
    have hv := v.toNat_lt
    have e := add_eq_xor b.toNat (leN r) 8 (by omega)
    rw [show (2 : Nat) ^ 8 = 256 from rfl] at e
    cases j with
    | zero =>
      have hbv : (b ^^^ v).toNat < 2 ^ 8 := UInt8.toNat_lt _
      have e2 := add_eq_xor (b ^^^ v).toNat (leN r) 8 hbv
      rw [show (2 : Nat) ^ 8 = 256 from rfl] at e2
      simp only [List.set_cons_zero, List.getElem_cons_zero, leN, Nat.mul_zero, Nat.pow_zero, Nat.one_mul]
      rw [e2, e, UInt8.toNat_xor, Nat.xor_assoc, Nat.xor_comm v.toNat, ← Nat.xor_assoc]
    | succ j =>
      simp only [List.set_cons_succ, List.getElem_cons_succ, leN]
      rw [ih j (by simpa using hj)]
      have e2 := add_eq_xor b.toNat (leN r ^^^ (2 ^ (8 * j) * v.toNat)) 8 (by omega)
      have e3 := mul_xor 8 (leN r) (2 ^ (8 * j) * v.toNat)
      rw [show (2 : Nat) ^ 8 = 256 from rfl] at e2 e3
      rw [e2, e3, e, Nat.xor_assoc]
      congr 2
      rw [show (256 : Nat) = 2 ^ 8 from rfl, show 8 * (j + 1) = 8 + 8 * j by omega, Nat.pow_add, Nat.mul_assoc]

/-- One bit more of a pattern. -/
theorem bit_more (x f n k : Nat) (h : n / 2 ^ k % 2 = 1) : (x ^^^ (2 ^ f * (n % 2 ^ k))) ^^^ 2 ^ (f + k) = x ^^^ (2 ^ f * (n % 2 ^ (k + 1))) := by
  have e1 : n % 2 ^ (k + 1) = n % 2 ^ k + 2 ^ k * 1 := by rw [Nat.mod_pow_succ, h]
  have e2 := add_eq_xor (n % 2 ^ k) 1 k (Nat.mod_lt _ (Nat.pow_pos (by decide)))
  rw [e1, e2, mul_xor, ← Nat.xor_assoc, Nat.mul_one, Nat.pow_add]

theorem bit_same (n k : Nat) (h : ¬ n / 2 ^ k % 2 = 1) : n % 2 ^ (k + 1) = n % 2 ^ k := by
  rw [Nat.mod_pow_succ, show n / 2 ^ k % 2 = 0 by omega]
  simp

/-- Bytes that open have one register behind them all, whatever they are. -/
theorem crun_closed (l : List UInt8) (m : Nat) (hl : l.length = m + 4) (h : leN (l.drop m) = more 0 (l.take m)) : crun 4294967295 l = zrun 32 4294967295 := by
  have hr := crun_lt 4294967295 (l.take m) (by omega)
  have e : (l.drop m).length = 4 := by simp; omega
  conv => lhs; rw [← List.take_append_drop m l]
  rw [crun_append, crun_eq, e, h]
  unfold more
  rw [not32 _ hr, ← Nat.xor_assoc]
  simp

theorem burst_shut (l l' : List UInt8) (f n : Nat) (hn : n < 4294967296) (h0 : n ≠ 0) (hl : l'.length = (sealB l).length) (hf : f + 32 ≤ 8 * (sealB l).length) (hd : leN l' = leN (sealB l) ^^^ (2 ^ f * n)) : openB l' = ([], 6) := by
  have e4 := sealB_length l
  have hS := more_lt 0 l
  unfold openB
  rw [if_neg (by omega), if_neg]
  intro h
  have hm : l'.length - 4 = l.length := by omega
  rw [hm] at h
  have h1 := crun_closed l' l.length (by omega) h
  have h2 := crun_closed (sealB l) l.length e4 (by
    have e2 : (sealB l).take l.length = l := by unfold sealB; exact List.take_left' rfl
    have e3 : (sealB l).drop l.length = leB (more 0 l) 4 := by unfold sealB; exact List.drop_left' rfl
    rw [e2, e3, leN_leB]
    omega)
  refine burst_seen 4294967295 (sealB l) l' hl.symm f n hn h0 hf ?_ (by rw [h1, h2])
  rw [hd, ← Nat.xor_assoc, Nat.xor_self, Nat.zero_xor]

/-- A row that holds the bytes l and may be written. -/
structure RowB (w : World) (g : Nat) (l : List UInt8) : Prop where
  cell : ∀ j (hj : j < l.length), w.cell? ⟨g, j, none⟩ = some (.int .u8 ((l[j]'hj).toNat : Int))
  free : ∀ j, j < l.length → w.frozen? ⟨g, j, none⟩ = false

theorem RowB.set {w : World} {g : Nat} {l : List UInt8} (h : RowB w g l) (k : Nat) (v : UInt8) : RowB (w.setCell ⟨g, k, none⟩ (.int .u8 (v.toNat : Int))) g (l.set k v) :=
  ⟨fun j hj => by
    have hj2 : j < l.length := by simpa using hj
    by_cases e : k = j
    · subst e
      rw [World.cell?_setCell_same _ _ _ (h.cell k hj2)]
      simp
    · rw [World.cell?_setCell_other (h := by simp; try omega), h.cell j hj2]
      simp [e],
   fun j hj => by rw [World.frozen?_setCell]; exact h.free j (by simpa using hj)⟩

theorem rowB_of_own {w : World} {B g cap : Nat} {l : List UInt8} {n : Nat} (h : w.ownsRow B 5 1 (.slice (some ⟨g, 0, none⟩) n cap) n (bcells l)) (hn : n = l.length) : RowB w g l := by
  have hr := row8_of_own h hn
  subst hn
  refine ⟨fun j hj => ?_, hr.free⟩
  have := h.cells (g := g) rfl j (.int .u8 (l[j].toNat : Int)) (by simp [bcells, List.getElem?_eq_getElem hj])
  have e : (⟨g, 0, none⟩ : Addr).add j = ⟨g, j, none⟩ := by unfold Addr.add; split <;> simp_all
  rwa [e] at this

theorem RowB.slB {w : World} {g : Nat} {l : List UInt8} (h : RowB w g l) : SlB w (some ⟨g, 0, none⟩) l :=
  ⟨fun h => by simp at h, fun x hx j u hu => by
    simp at hx
    subst hx
    have hj : j < l.length := by have := (List.getElem?_eq_some_iff.1 hu).1; simpa [bcells] using this
    have e : (⟨g, 0, none⟩ : Addr).add j = ⟨g, j, none⟩ := by unfold Addr.add; split <;> simp_all
    rw [e, h.cell j hj]
    simp [bcells, List.getElem?_eq_getElem hj] at hu
    rw [hu]⟩

end Go.Proofs.Ytjdfjeaeoadmdaa
