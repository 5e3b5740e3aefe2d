/-
  A page and a list of pairs that go with one another (for PageKeeps).
-/
import Derived.Test.YtoahcihhpimmgaaMr
namespace Go.Proofs.Ytoahcihhpimmgaa
open Go.RowKit

/-- Where a key stands among the first j pairs. -/
def AtOk (k : List UInt8) (M : List Pq) (j : Nat) : Option Nat → Prop
  | none => ∀ i (hi : i < M.length), i < j → M[i].1 ≠ k
  | some i => ∃ hi : i < M.length, i < j ∧ M[i].1 = k

theorem at_zero (k : List UInt8) (M : List Pq) : AtOk k M 0 none := fun _ _ h => by omega
theorem at_hit {k : List UInt8} {M : List Pq} {j : Nat} (hj : j < M.length) (e : M[j].1 = k) : AtOk k M (j + 1) (some j) := ⟨hj, by omega, e⟩
theorem at_miss {k : List UInt8} {M : List Pq} {j : Nat} {o : Option Nat} (h : AtOk k M j o) (hj : j < M.length) (e : M[j].1 ≠ k) : AtOk k M (j + 1) o := by
  cases o with
  | none =>
    intro i hi hij
    by_cases q : i = j
    · subst q; exact e
    · exact h i hi (by omega)
  | some i => obtain ⟨h1, h2, h3⟩ := h; exact ⟨h1, by omega, h3⟩

theorem mem_get {l : List Cl} (h : GoodL l) {x : Pq} (hx : x ∈ prsL l) : getL l x.1 = some x.2 := by
  obtain ⟨i, hi, hu, hk, hv⟩ := mem_prs hx
  have := (get_at h i hi hu).2
  rw [hk, hv] at this
  exact this
theorem get_mem {l : List Cl} {k x : List UInt8} (h : getL l k = some x) : (k, x) ∈ prsL l := by
  obtain ⟨i, hi, _, hu, hk, hv⟩ := get_some' h
  simp only [prsL, List.mem_filterMap]
  exact ⟨l[i], List.getElem_mem hi, by rw [prC_used hu, hk, hv]⟩
theorem at_none {l : List Cl} {M : List Pq} (hp : M.Perm (prsL l)) {k : List UInt8} (ha : AtOk k M M.length none) : getL l k = none := by
  cases hg : getL l k with
  | none => rfl
  | some x =>
    exfalso
    obtain ⟨i, hi, e⟩ := List.getElem_of_mem (hp.mem_iff.2 (get_mem hg))
    exact ha i hi hi (by rw [e])
theorem at_some {l : List Cl} (h : GoodL l) {M : List Pq} (hp : M.Perm (prsL l)) {k : List UInt8} {i : Nat} (ha : AtOk k M M.length (some i)) : ∃ hi : i < M.length, M[i] = (k, M[i].2) ∧ getL l k = some M[i].2 := by
  obtain ⟨hi, _, e⟩ := ha
  refine ⟨hi, by rw [← e], ?_⟩
  have := mem_get h (hp.mem_iff.1 (List.getElem_mem hi))
  rw [e] at this
  exact this
theorem find_get {l : List Cl} {k : List UInt8} (h : getL l k = none) : l.findIdx? (isKey k) = none := by
  unfold getL at h
  cases hc : l.findIdx? (isKey k) with
  | none => rfl
  | some i => rw [hc] at h; simp at h

/-- Laid: OK just where the key isn't there; twice just where it is. -/
theorem ins_at_none {l : List Cl} (h : GoodL l) {M : List Pq} (hp : M.Perm (prsL l)) {k x : List UInt8} {o : Option Nat} (ha : AtOk k M M.length o) (ho : (insL l k x).2 = 0) : o = none ∧ (M ++ [(k, x)]).Perm (prsL (insL l k x).1) := by
  refine ⟨?_, (List.perm_append_comm.trans (List.Perm.cons _ hp)).trans (ins_prs ho).symm⟩
  cases o with
  | none => rfl
  | some i =>
    exfalso
    obtain ⟨hi, _, hg⟩ := at_some h hp ha
    obtain ⟨j, hj, hf, _⟩ := get_some' hg
    rw [(ins_at ho).2.1] at hf
    simp at hf
theorem ins_nine {l : List Cl} {M : List Pq} (hp : M.Perm (prsL l)) {k x : List UInt8} {o : Option Nat} (ha : AtOk k M M.length o) (ho : (insL l k x).2 = 9) : o ≠ none := by
  rintro rfl
  have hf := find_get (at_none hp ha)
  unfold insL at ho
  split at ho
  · rw [hf] at ho
    dsimp only at ho
    split at ho
    · unfold fillL at ho; split at ho <;> simp at ho
    · unfold addL at ho; split at ho <;> simp at ho
  · simp at ho
theorem perm_erase (M : List Pq) (i : Nat) (hi : i < M.length) : M.Perm (M[i] :: (M.take i ++ M.drop (i + 1))) := by
  have e : M = M.take i ++ (M[i] :: M.drop (i + 1)) := by rw [List.getElem_cons_drop, List.take_append_drop]
  exact (List.Perm.of_eq e).trans List.perm_middle
theorem perm_put (M : List Pq) (i : Nat) (hi : i < M.length) (x : Pq) : (M.set i x).Perm (x :: (M.take i ++ M.drop (i + 1))) := by
  rw [List.set_eq_take_append_cons_drop, if_pos hi]
  exact List.perm_middle
/-- Changed: OK just where the key is there. -/
theorem upd_at_some {l : List Cl} (h : GoodL l) {M : List Pq} (hp : M.Perm (prsL l)) {k x : List UInt8} {o : Option Nat} (ha : AtOk k M M.length o) (ho : (updL l k x).2 = 0) : ∃ i, o = some i ∧ i < M.length ∧ (M.set i (k, x)).Perm (prsL (updL l k x).1) := by
  obtain ⟨i, hi, hf, _, e⟩ := upd_at ho
  cases o with
  | none =>
    exfalso
    have := find_get (at_none hp ha)
    rw [hf] at this
    simp at this
  | some j =>
    obtain ⟨hj, hMj, hg⟩ := at_some h hp ha
    obtain ⟨i', hi', hf', hu, hk, hv⟩ := get_some' hg
    obtain rfl : i = i' := by rw [hf] at hf'; simpa using hf'
    refine ⟨j, rfl, hj, ?_⟩
    rw [e]
    have h1 := prs_at l i hi
    rw [prC_used hu, hk, hv] at h1
    have h2 := prs_set l i hi (cellOfKV k x)
    rw [prC_used rfl] at h2
    have h3 : ((k, M[j].2) :: (M.take j ++ M.drop (j + 1))).Perm ((k, M[j].2) :: restL l i) := by
      rw [← hMj]
      have := (perm_erase M j hj).symm.trans (hp.trans h1)
      rw [← hMj] at this
      exact this
    exact (perm_put M j hj (k, x)).trans ((List.Perm.cons _ ((List.perm_cons _).1 h3)).trans h2.symm)
theorem upd_eight {l : List Cl} (h : GoodL l) {M : List Pq} (hp : M.Perm (prsL l)) {k x : List UInt8} {o : Option Nat} (ha : AtOk k M M.length o) (ho : (updL l k x).2 = 8) : o = none := by
  cases o with
  | none => rfl
  | some i =>
    exfalso
    obtain ⟨hi, _, hg⟩ := at_some h hp ha
    obtain ⟨j, hj, hf, _⟩ := get_some' hg
    unfold updL at ho
    split at ho
    · rw [hf] at ho
      dsimp only at ho
      unfold fillL at ho
      split at ho <;> simp at ho
    · simp at ho
/-- Taken away: OK just where the key is there. -/
theorem del_at_some {l : List Cl} (h : GoodL l) {M : List Pq} (hp : M.Perm (prsL l)) {k : List UInt8} {i : Nat} (ha : AtOk k M M.length (some i)) : (delL l k).2 = 0 ∧ i < M.length ∧ (M.take i ++ M.drop (i + 1)).Perm (prsL (delL l k).1) := by
  obtain ⟨hj, hMj, hg⟩ := at_some h hp ha
  obtain ⟨i', hi', hf', hc, e⟩ := del_at hg
  rw [e]
  refine ⟨rfl, hj, ?_⟩
  rw [prs_trim]
  have h1 := prs_at l i' hi'
  rw [hc, prC_used rfl] at h1
  have h2 := prs_set l i' hi' Cl.none
  rw [prC_free rfl] at h2
  have h3 := (perm_erase M i hj).symm.trans (hp.trans h1)
  rw [hMj] at h3
  exact ((List.perm_cons _).1 h3).trans h2.symm
theorem del_at_none {l : List Cl} {M : List Pq} (hp : M.Perm (prsL l)) {k : List UInt8} (ha : AtOk k M M.length none) : delL l k = (l, 8) := by
  unfold delL
  rw [find_get (at_none hp ha)]

end Go.Proofs.Ytoahcihhpimmgaa
