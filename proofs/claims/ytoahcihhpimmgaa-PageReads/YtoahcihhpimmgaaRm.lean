/-
  Whether a key has room: of no program.
-/
import Derived.Test.YtoahcihhpimmgaaPe
namespace Go.Proofs.Ytoahcihhpimmgaa

theorem free_le (l : List Cl) : freeL l ≤ 496 := by
  unfold freeL
  omega

theorem get_none {l : List Cl} {k : List UInt8} (h : getL l k = none) : l.findIdx? (isKey k) = none := by
  unfold getL at h
  simpa using h
theorem get_some {l : List Cl} {k : List UInt8} (h : (getL l k).isSome = true) : ∃ i, l.findIdx? (isKey k) = some i := by
  unfold getL at h
  rw [Option.isSome_map] at h
  exact Option.isSome_iff_exists.mp h

theorem ins_twice {l : List Cl} {k x : List UInt8} (hm : mayK k x = true) (h : (getL l k).isSome = true) : insL l k x = (l, 9) := by
  obtain ⟨i, hi⟩ := get_some h
  unfold insL
  rw [if_pos hm, hi]

/-- What a key that isn't there needs. -/
def needL (l : List Cl) (k x : List UInt8) : Int := 1 + (k.length : Int) + (x.length : Int) + (if l.any isFree then 0 else 4)

theorem any_free_find (l : List Cl) : l.any isFree = (l.findIdx? isFree).isSome := by
  induction l with
  | nil => rfl
  | cons c r ih => rw [List.any_cons, List.findIdx?_cons, ih]; cases isFree c <;> simp

theorem ins_room {l : List Cl} {k x : List UInt8} (hm : mayK k x = true) (hn : getL l k = none) :
    (insL l k x = (l, 7) ∧ (freeL l < needL l k x ∨ (l.any isFree = false ∧ l.length = 64))) ∨
    ((insL l k x).2 = 0 ∧ needL l k x ≤ freeL l ∧ freeL (insL l k x).1 = freeL l - needL l k x) := by
  have hf := get_none hn
  have hs : (sizeC (cellOfKV k x) : Int) = 1 + (k.length : Int) + (x.length : Int) := by simp [sizeC, cellOfKV]
  unfold insL
  rw [if_pos hm, hf]
  simp only
  cases hff : l.findIdx? isFree with
  | some i =>
    have ha : l.any isFree = true := by rw [any_free_find, hff]; rfl
    obtain ⟨hi, hu⟩ := find_some hff
    have h0 : sizeC l[i] = 0 := by
      simp [isFree] at hu
      simp [sizeC, hu]
    simp only
    unfold fillL needL
    rw [ha, List.getElem?_eq_getElem hi]
    simp only [Option.getD_some, if_true]
    split
    · rename_i hgt
      exact .inl ⟨rfl, .inl (by omega)⟩
    · rename_i hgt
      refine .inr ⟨rfl, by omega, ?_⟩
      have := sumC_set l i (cellOfKV k x) hi
      unfold freeL
      simp only [List.length_set]
      omega
  | none =>
    have ha : l.any isFree = false := by rw [any_free_find, hff]; rfl
    simp only
    unfold addL needL
    rw [ha]
    simp only [Bool.false_eq_true, if_false]
    split
    · rename_i hgt
      refine .inl ⟨rfl, ?_⟩
      rcases hgt with h | h
      · exact .inr ⟨trivial, h⟩
      · exact .inl (by omega)
    · rename_i hgt
      refine .inr ⟨rfl, by omega, ?_⟩
      unfold freeL
      simp [sumC_append, sumC]
      omega

theorem any_take (l : List Cl) (j : Nat) (hj : j < l.length) : (l.take (j + 1)).any isFree = ((l.take j).any isFree || isFree l[j]) := by
  rw [List.take_add_one, List.getElem?_eq_getElem hj, List.any_append]
  simp

end Go.Proofs.Ytoahcihhpimmgaa
