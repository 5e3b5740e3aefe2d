/-
  Pairs of slots; a change that was done is taken back.
-/
import Derived.Test.YtebchgoaelamcaaDoorAc
namespace Go.Proofs.YtebchgoaelamcaaDoor
open Go.RowKit
set_option maxRecDepth 100000

/-- A key and its value. -/
abbrev Pq := List UInt8 × List UInt8
def prC (c : Cl) : Option Pq := if c.used then some (c.key, c.val) else none
def prsL (l : List Cl) : List Pq := l.filterMap prC

theorem prs_append (l m : List Cl) : prsL (l ++ m) = prsL l ++ prsL m := List.filterMap_append
theorem prs_free {p : List Cl} (h : ∀ c ∈ p, c.used = false) : prsL p = [] := by
  induction p with
  | nil => rfl
  | cons c r ih =>
    have h1 := h c (List.mem_cons_self ..)
    have h2 := ih fun x hx => h x (List.mem_cons_of_mem _ hx)
    simp only [prsL] at h2 ⊢
    rw [List.filterMap_cons, prC, h1]
    exact h2
theorem prs_trim (l : List Cl) : prsL (trimL l) = prsL l := by
  obtain ⟨p, hp, hf⟩ := trimL_prefix l
  have := congrArg prsL hp
  rw [prs_append, prs_free hf, List.append_nil] at this
  exact this.symm
def restL (l : List Cl) (i : Nat) : List Pq := prsL (l.take i) ++ prsL (l.drop (i + 1))
theorem prs_cons (c : Cl) (l : List Cl) : prsL (c :: l) = (prC c).toList ++ prsL l := by
  simp only [prsL, List.filterMap_cons]
  cases prC c <;> rfl
theorem perm_mid (a b c : List Pq) : (a ++ (b ++ c)).Perm (b ++ (a ++ c)) := by
  rw [← List.append_assoc, ← List.append_assoc]
  exact List.Perm.append_right c List.perm_append_comm
theorem prs_at (l : List Cl) (i : Nat) (hi : i < l.length) : (prsL l).Perm ((prC l[i]).toList ++ restL l i) := by
  have e : l = l.take i ++ (l[i] :: l.drop (i + 1)) := by
    rw [List.getElem_cons_drop, List.take_append_drop]
  have h := congrArg prsL e
  rw [prs_append, prs_cons] at h
  rw [h]
  exact perm_mid _ _ _
theorem prs_set (l : List Cl) (i : Nat) (hi : i < l.length) (c : Cl) : (prsL (l.set i c)).Perm ((prC c).toList ++ restL l i) := by
  rw [List.set_eq_take_append_cons_drop, if_pos hi, prs_append, prs_cons]
  exact perm_mid _ _ _
theorem prC_used {c : Cl} (h : c.used = true) : prC c = some (c.key, c.val) := by unfold prC; rw [h]; rfl
theorem prC_free {c : Cl} (h : c.used = false) : prC c = none := by unfold prC; rw [h]; rfl
theorem mem_prs {l : List Cl} {x : Pq} (h : x ∈ prsL l) : ∃ i, ∃ hi : i < l.length, l[i].used = true ∧ l[i].key = x.1 ∧ l[i].val = x.2 := by
  simp only [prsL, List.mem_filterMap] at h
  obtain ⟨c, hc, e⟩ := h
  obtain ⟨i, hi, rfl⟩ := List.getElem_of_mem hc
  by_cases hu : l[i].used = true
  · rw [prC_used hu] at e
    simp at e
    subst e
    exact ⟨i, hi, hu, rfl, rfl⟩
  · rw [prC_free (by simpa using hu)] at e
    simp at e
theorem prs_uniq {l : List Cl} (h : GoodL l) (x y : Pq) (hx : x ∈ prsL l) (hy : y ∈ prsL l) (e : x.1 = y.1) : x = y := by
  obtain ⟨i, hi, u1, k1, v1⟩ := mem_prs hx
  obtain ⟨j, hj, u2, k2, v2⟩ := mem_prs hy
  have := h.once i j hi hj u1 u2 (by rw [k1, k2, e])
  subst this
  exact Prod.ext e (by rw [← v1, ← v2])
theorem get_at {l : List Cl} (h : GoodL l) (j : Nat) (hj : j < l.length) (hu : l[j].used = true) : l.findIdx? (isKey l[j].key) = some j ∧ getL l l[j].key = some l[j].val := by
  have hf : l.findIdx? (isKey l[j].key) = some j := by
    cases hc : l.findIdx? (isKey l[j].key) with
    | none => have := find_none hc j hj; simp [isKey, hu] at this
    | some i =>
      obtain ⟨hi, hp⟩ := find_some hc
      simp [isKey] at hp
      rw [h.once i j hi hj hp.1 hu hp.2]
  refine ⟨hf, ?_⟩
  unfold getL
  rw [hf]
  simp [hj]
theorem get_some' {l : List Cl} {k x : List UInt8} (h : getL l k = some x) : ∃ i, ∃ hi : i < l.length, l.findIdx? (isKey k) = some i ∧ l[i].used = true ∧ l[i].key = k ∧ l[i].val = x := by
  unfold getL at h
  cases hc : l.findIdx? (isKey k) with
  | none => rw [hc] at h; simp at h
  | some i =>
    obtain ⟨hi, hp⟩ := find_some hc
    rw [hc] at h
    simp [isKey] at hp
    simp [hi] at h
    exact ⟨i, hi, rfl, hp.1, hp.2, h⟩
theorem why_zero {l : List Cl} {k x : List UInt8} : whyL l k x = 0 ↔ getL l k = some x := by
  unfold whyL
  cases getL l k with
  | none => simp
  | some v => by_cases e : v = x <;> simp [e]

/-- A key that was laid. -/
theorem ins_at {l : List Cl} {k v : List UInt8} (ho : (insL l k v).2 = 0) : mayK k v = true ∧ l.findIdx? (isKey k) = none ∧ ((∃ j, ∃ hj : j < l.length, l[j].used = false ∧ (insL l k v).1 = l.set j (cellOfKV k v)) ∨ (insL l k v).1 = l ++ [cellOfKV k v]) := by
  unfold insL at ho ⊢
  split at ho
  · rename_i hm
    rw [if_pos hm]
    refine ⟨hm, ?_⟩
    split at ho
    · simp at ho
    · rename_i hn
      refine ⟨hn, ?_⟩
      split at ho
      · rename_i j hj
        obtain ⟨hjl, hp⟩ := find_some hj
        simp [isFree] at hp
        unfold fillL at ho ⊢
        split at ho
        · simp at ho
        · rename_i hc
          try rw [hj]
          try dsimp only
          rw [if_neg hc]
          exact .inl ⟨j, hjl, hp, rfl⟩
      · rename_i hj
        unfold addL at ho ⊢
        split at ho
        · simp at ho
        · rename_i hc
          try rw [hj]
          try dsimp only
          rw [if_neg hc]
          exact .inr rfl
  · simp at ho
theorem ins_prs {l : List Cl} {k v : List UInt8} (ho : (insL l k v).2 = 0) : (prsL (insL l k v).1).Perm ((k, v) :: prsL l) := by
  obtain ⟨_, _, ⟨j, hj, hu, e⟩ | e⟩ := ins_at ho
  · rw [e]
    refine (prs_set l j hj _).trans ?_
    have h1 := prs_at l j hj
    rw [prC_free hu] at h1
    exact List.Perm.cons _ h1.symm
  · rw [e, prs_append]
    exact List.perm_append_comm
theorem ins_get {l : List Cl} (h : GoodL l) {k v : List UInt8} (ho : (insL l k v).2 = 0) : getL (insL l k v).1 k = some v := by
  have hg := ins_good h k v
  obtain ⟨_, _, ⟨j, hj, hu, e⟩ | e⟩ := ins_at ho
  · rw [e] at hg ⊢
    have hj2 : j < (l.set j (cellOfKV k v)).length := by rw [List.length_set]; exact hj
    have hx : (l.set j (cellOfKV k v))[j] = cellOfKV k v := List.getElem_set_self hj2
    have := (get_at hg j hj2 (by rw [hx]; rfl)).2
    rw [hx] at this
    exact this
  · rw [e] at hg ⊢
    have hj2 : l.length < (l ++ [cellOfKV k v]).length := by simp
    have hx : (l ++ [cellOfKV k v])[l.length] = cellOfKV k v := by simp
    have := (get_at hg l.length hj2 (by rw [hx]; rfl)).2
    rw [hx] at this
    exact this

end Go.Proofs.YtebchgoaelamcaaDoor
