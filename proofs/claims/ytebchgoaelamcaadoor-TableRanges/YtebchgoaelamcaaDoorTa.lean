/-
  The mathematics of a stable sort: rows that rise, and rows that have the same, key by key.
-/
import Derived.Test.YtebchgoaelamcaaDoorX4
namespace Go.Proofs.YtebchgoaelamcaaDoor
set_option maxRecDepth 100000

/-- The pairs of one key. -/
def fk (k : List UInt8) (L : List Pq) : List Pq := L.filter fun x => x.1 == k
/-- The same pairs of each key, in the same order. -/
def Stb (L M : List Pq) : Prop := ∀ k, fk k L = fk k M
/-- A row that rises. -/
def Rise (L : List Pq) : Prop := L.Pairwise fun a b => ¬ b.1 < a.1

theorem Stb.refl (L : List Pq) : Stb L L := fun _ => rfl
theorem Stb.symm {L M : List Pq} (h : Stb L M) : Stb M L := fun k => (h k).symm
theorem Stb.trans {L M N : List Pq} (h : Stb L M) (h2 : Stb M N) : Stb L N := fun k => (h k).trans (h2 k)
theorem fk_append (k : List UInt8) (L M : List Pq) : fk k (L ++ M) = fk k L ++ fk k M := List.filter_append ..
theorem Stb.append {A A' B B' : List Pq} (h : Stb A A') (h2 : Stb B B') : Stb (A ++ B) (A' ++ B') := fun k => by rw [fk_append, fk_append, h k, h2 k]
theorem mem_fk {k : List UInt8} {L : List Pq} {x : Pq} : x ∈ fk k L ↔ x ∈ L ∧ x.1 = k := by simp [fk]
theorem Stb.mem {L M : List Pq} (h : Stb L M) (x : Pq) : x ∈ L ↔ x ∈ M := by
  have e := h x.1
  constructor
  · intro hx
    have : x ∈ fk x.1 L := mem_fk.2 ⟨hx, rfl⟩
    rw [e] at this
    exact (mem_fk.1 this).1
  · intro hx
    have : x ∈ fk x.1 M := mem_fk.2 ⟨hx, rfl⟩
    rw [← e] at this
    exact (mem_fk.1 this).1
theorem fk_nil {k : List UInt8} {L : List Pq} (h : ∀ x ∈ L, x.1 ≠ k) : fk k L = [] := List.filter_eq_nil_iff.2 fun x hx => by simpa using h x hx
theorem stb_swap {X Y : List Pq} (h : ∀ x ∈ X, ∀ y ∈ Y, y.1 < x.1) : Stb (X ++ Y) (Y ++ X) := fun k => by
  rw [fk_append, fk_append]
  by_cases hx : ∃ x ∈ X, x.1 = k
  · obtain ⟨x, hx, rfl⟩ := hx
    have : fk x.1 Y = [] := fk_nil fun y hy e => by have := h x hx y hy; rw [e] at this; exact absurd this (List.lt_irrefl _)
    rw [this]
    simp
  · have : fk k X = [] := fk_nil fun x hx' e => hx ⟨x, hx', e⟩
    rw [this]
    simp
theorem lt_asymm' {a b : List UInt8} (h : a < b) : ¬ b < a := List.lt_asymm h
theorem not_lt_trans {a b c : List UInt8} (h : ¬ b < a) (h2 : ¬ c < b) : ¬ c < a := fun h3 => by
  have h' : a ≤ b := List.not_lt.1 h
  have h2' : b ≤ c := List.not_lt.1 h2
  exact (List.not_lt.2 (List.le_trans h' h2')) h3
theorem stb_nil {M : List Pq} (h : Stb [] M) : M = [] := by
  cases M with
  | nil => rfl
  | cons x M =>
    have := (h.mem x).2 (List.mem_cons_self ..)
    simp at this
/-- There is but one row that rises and has the same. -/
theorem stb_uniq : ∀ (L M : List Pq), Stb L M → Rise L → Rise M → L = M
  | [], M, h, _, _ => (stb_nil h).symm
  | x :: L, [], h, _, _ => by have := stb_nil h.symm; cases this
  | x :: L, y :: M, h, h1, h2 => by
    rw [Rise, List.pairwise_cons] at h1 h2
    have hk : x.1 = y.1 := by
      have a1 : ¬ x.1 < y.1 := by
        rcases List.mem_cons.1 ((h.mem x).1 (List.mem_cons_self ..)) with e | e
        · rw [e]; exact List.lt_irrefl _
        · exact h2.1 x e
      have a2 : ¬ y.1 < x.1 := by
        rcases List.mem_cons.1 ((h.mem y).2 (List.mem_cons_self ..)) with e | e
        · rw [e]; exact List.lt_irrefl _
        · exact h1.1 y e
      exact List.le_antisymm (List.not_lt.1 a2) (List.not_lt.1 a1)
    have e := h x.1
    have e1 : fk x.1 (x :: L) = x :: fk x.1 L := by simp [fk]
    have e2 : fk x.1 (y :: M) = y :: fk x.1 M := by simp [fk, hk]
    rw [e1, e2] at e
    injection e with exy etl
    subst exy
    have : Stb L M := fun k => by
      by_cases hk' : x.1 = k
      · subst hk'; exact etl
      · have := h k
        have f1 : fk k (x :: L) = fk k L := by simp [fk, hk']
        have f2 : fk k (x :: M) = fk k M := by simp [fk, hk']
        rw [f1, f2] at this
        exact this
    rw [stb_uniq L M this h1.2 h2.2]

theorem rise_append {A B : List Pq} : Rise (A ++ B) ↔ Rise A ∧ Rise B ∧ ∀ a ∈ A, ∀ b ∈ B, ¬ b.1 < a.1 := List.pairwise_append
/-- Put together out of two rows, as a stable merge does. -/
def Mrg (A B R : List Pq) : Prop := Rise R ∧ Stb (A ++ B) R
theorem mrg_nil_left {B : List Pq} (h : Rise B) : Mrg [] B B := ⟨h, Stb.refl _⟩
theorem mrg_nil_right {A : List Pq} (h : Rise A) : Mrg A [] A := ⟨h, by rw [List.append_nil]; exact Stb.refl _⟩
theorem Mrg.length {A B R : List Pq} (h : Mrg A B R) : R.length = A.length + B.length := by
  have hp : (A ++ B).Perm R := by
    rw [List.perm_iff_count]
    intro x
    have e := h.2 x.1
    have c1 : (A ++ B).count x = (fk x.1 (A ++ B)).count x := by rw [fk, List.count_filter (by simp)]
    have c2 : R.count x = (fk x.1 R).count x := by rw [fk, List.count_filter (by simp)]
    rw [c1, c2, e]
  have := hp.length_eq
  rw [List.length_append] at this
  exact this.symm
theorem mrg_join {A1 X Y B2 R1 R2 : List Pq} (hA : Rise (A1 ++ X)) (hB : Rise (Y ++ B2)) (hs : ∀ x ∈ X, ∀ y ∈ Y, y.1 < x.1) (hw : ∀ a ∈ A1, ∀ b ∈ B2, ¬ b.1 < a.1) (h1 : Mrg A1 Y R1) (h2 : Mrg X B2 R2) : Mrg (A1 ++ X) (Y ++ B2) (R1 ++ R2) := by
  have hA' := rise_append.1 hA
  have hB' := rise_append.1 hB
  refine ⟨rise_append.2 ⟨h1.1, h2.1, fun u hu v hv => ?_⟩, ?_⟩
  · rcases List.mem_append.1 ((h1.2.mem u).2 hu) with hu | hu <;> rcases List.mem_append.1 ((h2.2.mem v).2 hv) with hv | hv
    · exact hA'.2.2 u hu v hv
    · exact hw u hu v hv
    · exact lt_asymm' (hs v hv u hu)
    · exact hB'.2.2 u hu v hv
  · have e1 : Stb (A1 ++ X ++ (Y ++ B2)) (A1 ++ (Y ++ X) ++ B2) := by
      have : A1 ++ X ++ (Y ++ B2) = A1 ++ (X ++ Y) ++ B2 := by simp
      rw [this]
      exact ((Stb.refl A1).append (stb_swap hs)).append (Stb.refl B2)
    refine e1.trans ?_
    have : A1 ++ (Y ++ X) ++ B2 = (A1 ++ Y) ++ (X ++ B2) := by simp
    rw [this]
    exact h1.2.append h2.2
/-- A row that rises, where it is cut. -/
theorem rise_last {A : List Pq} (h : Rise A) (i : Nat) (hi : i < A.length) : (∀ x ∈ A.take (i + 1), ¬ A[i].1 < x.1) ∧ ∀ x ∈ A.drop i, ¬ x.1 < A[i].1 := by
  have h' := List.pairwise_iff_getElem.1 h
  constructor
  · intro x hx
    obtain ⟨j, hj, rfl⟩ := List.getElem_of_mem hx
    rw [List.length_take] at hj
    rw [List.getElem_take]
    by_cases e : j = i
    · subst e; exact List.lt_irrefl _
    · exact h' j i (by omega) hi (by omega)
  · intro x hx
    obtain ⟨j, hj, rfl⟩ := List.getElem_of_mem hx
    rw [List.length_drop] at hj
    rw [List.getElem_drop]
    by_cases e : j = 0
    · subst e; simp only [Nat.add_zero]; exact List.lt_irrefl _
    · exact h' i (i + j) hi (by omega) (by omega)
theorem rise_take {A : List Pq} (h : Rise A) (i : Nat) : Rise (A.take i) := List.Pairwise.sublist (List.take_sublist ..) h
theorem rise_drop {A : List Pq} (h : Rise A) (i : Nat) : Rise (A.drop i) := List.Pairwise.sublist (List.drop_sublist ..) h
theorem lt_of_lt_not {a b c : List UInt8} (h : ¬ b < a) (h2 : b < c) : a < c := by
  have h' : a ≤ b := List.not_lt.1 h
  exact Decidable.byContradiction fun hn => by
    have : c ≤ a := List.not_lt.1 hn
    exact (List.not_lt.2 (List.le_trans this h')) h2
theorem lt_of_not_lt {a b c : List UInt8} (h : a < b) (h2 : ¬ c < b) : a < c := by
  have h' : b ≤ c := List.not_lt.1 h2
  exact Decidable.byContradiction fun hn => by
    have : c ≤ a := List.not_lt.1 hn
    exact (List.not_lt.2 (List.le_trans h' this)) h

/-- The cut that symMerge finds: i of A ahead, j of B ahead. -/
theorem mrg_cut {A B R1 R2 : List Pq} (hA : Rise A) (hB : Rise B) (i j : Nat) (hi : i ≤ A.length) (hj : j ≤ B.length)
    (hs : ∀ (h1 : i < A.length) (_ : 0 < j) (h2 : j - 1 < B.length), B[j - 1].1 < A[i].1)
    (hw : ∀ (_ : 0 < i) (h1 : i - 1 < A.length) (h2 : j < B.length), ¬ B[j].1 < A[i - 1].1)
    (h1 : Mrg (A.take i) (B.take j) R1) (h2 : Mrg (A.drop i) (B.drop j) R2) : Mrg A B (R1 ++ R2) := by
  have e := mrg_join (A1 := A.take i) (X := A.drop i) (Y := B.take j) (B2 := B.drop j) (by rw [List.take_append_drop]; exact hA) (by rw [List.take_append_drop]; exact hB) (fun x hx y hy => ?_) (fun a ha b hb => ?_) h1 h2
  · rw [List.take_append_drop, List.take_append_drop] at e
    exact e
  · have l1 := List.length_pos_of_mem hx
    have l2 := List.length_pos_of_mem hy
    rw [List.length_drop] at l1
    rw [List.length_take] at l2
    have hlt := hs (by omega) (by omega) (by omega)
    have a1 := (rise_last hA i (by omega)).2 x hx
    have a2 := (rise_last hB (j - 1) (by omega)).1 y (by rw [show j - 1 + 1 = j by omega]; exact hy)
    exact lt_of_not_lt (lt_of_lt_not a2 hlt) a1
  · have l1 := List.length_pos_of_mem ha
    have l2 := List.length_pos_of_mem hb
    rw [List.length_take] at l1
    rw [List.length_drop] at l2
    have hn := hw (by omega) (by omega) (by omega)
    have a1 := (rise_last hA (i - 1) (by omega)).1 a (by rw [show i - 1 + 1 = i by omega]; exact ha)
    have a2 := (rise_last hB j (by omega)).2 b hb
    exact not_lt_trans (not_lt_trans a1 hn) a2

/-- Blocks of n, each of which rises. -/
def Blk (n : Nat) (L : List Pq) : Prop := ∀ i, Rise ((L.drop (i * n)).take n)
theorem rise_nil : Rise [] := List.Pairwise.nil
theorem blk_whole {n : Nat} {L : List Pq} (h : Blk n L) (hl : L.length ≤ n) : Rise L := by
  have := h 0
  rw [Nat.zero_mul, List.drop_zero, List.take_of_length_le hl] at this
  exact this
theorem blk_append {n : Nat} {D R : List Pq} (q : Nat) (hD : D.length = q * n) (h : Blk n D) (hR : Rise R) (hl : R.length ≤ n) : Blk n (D ++ R) := fun i => by
  by_cases hi : i < q
  · have h1 : i * n + n ≤ q * n := by
      have := Nat.mul_le_mul_right n (show i + 1 ≤ q from hi)
      rwa [Nat.add_mul, Nat.one_mul] at this
    rw [List.drop_append_of_le_length (by omega), List.take_append_of_le_length (by rw [List.length_drop]; omega)]
    exact h i
  · by_cases e : i = q
    · subst e
      rw [← hD, List.drop_left, List.take_of_length_le hl]
      exact hR
    · have h1 : (q + 1) * n ≤ i * n := Nat.mul_le_mul_right n (by omega)
      rw [Nat.add_mul, Nat.one_mul] at h1
      rw [List.drop_eq_nil_of_le (by rw [List.length_append]; omega), List.take_nil]
      exact rise_nil
theorem blk_drop {n : Nat} {L : List Pq} (h : Blk n L) (q : Nat) : Blk n (L.drop (q * n)) := fun i => by
  rw [List.drop_drop, ← Nat.add_mul]
  exact h (q + i)
theorem blk_nil (n : Nat) : Blk n [] := fun i => by simp; exact rise_nil
end Go.Proofs.YtebchgoaelamcaaDoor
