/-
  The plain mathematics of pages that are dirty.
-/
import Derived.Test.YticnkppnpfgceaaFCj
namespace Go.Proofs.Yticnkppnpfgceaa.Mg
open Go.RowKit

/-- The LSN of the first change of a page. -/
def firstL : List Rc → Int → Option Nat
  | [], _ => none
  | r :: l, p => if chg r = true ∧ r.page = p then some r.lsn else firstL l p
theorem firstL_drop {l : List Rc} {i : Nat} (h : i < l.length) (p : Int) : firstL (l.drop i) p = if chg l[i] = true ∧ l[i].page = p then some l[i].lsn else firstL (l.drop (i + 1)) p := by
  rw [List.drop_eq_getElem_cons h, firstL]
theorem look_step {x : Lf} (h : x.Ok) (r : Rc) (p : Int) : look (stepL x r).d p = (look x.d p).or (if chg r = true ∧ r.page = p then some r.lsn else none) := by
  simp only [stepL]
  cases hc : chg r
  · simp
  · simp only [if_true, true_and]
    unfold soilL
    by_cases e : r.page = p
    · subst e
      cases hk : look x.d r.page with
      | none => simp [look_putL h.d]
      | some n => simp [hk]
    · cases hk : look x.d r.page with
      | none => simp [look_putL h.d, e, show ¬ p = r.page from fun h => e h.symm]
      | some n => simp [e]
theorem look_over {x : Lf} (h : x.Ok) (l : List Rc) (p : Int) : look (overL x l).d p = (look x.d p).or (firstL l p) := by
  induction l generalizing x with
  | nil => simp [overL, firstL]
  | cons r l ih =>
    show look (overL (stepL x r) l).d p = _
    rw [ih (h.step r), look_step h, firstL]
    by_cases e : chg r = true ∧ r.page = p
    · rw [if_pos e, if_pos e]; cases look x.d p <;> simp
    · rw [if_neg e, if_neg e]; cases look x.d p <;> simp
/-- The rows of the pages below a number. -/
def dirsL (l : List Rc) (m : Nat) : List (Int × Nat) := (List.range m).filterMap fun p : Nat => (firstL l (p : Int)).map fun n => ((p : Int), n)
theorem dirsL_succ (l : List Rc) (m : Nat) : dirsL l (m + 1) = dirsL l m ++ ((firstL l m).map fun n => ((m : Int), n)).toList := by
  unfold dirsL
  rw [List.range_succ, List.filterMap_append]
  congr 1
theorem dirsL_low (l : List Rc) (m : Nat) : ∀ p, p ∈ dirsL l m → 0 ≤ p.1 ∧ p.1 < m := fun p hp => by
  unfold dirsL at hp
  obtain ⟨q, hq, e⟩ := List.mem_filterMap.1 hp
  rw [List.mem_range] at hq
  cases hf : firstL l q with
  | none => rw [hf] at e; simp at e
  | some n => rw [hf] at e; simp at e; rw [← e]; simp; omega
theorem dirsL_ris (l : List Rc) (m : Nat) : Ris (dirsL l m) := by
  induction m with
  | zero => simp [dirsL, Ris]
  | succ m ih =>
    rw [dirsL_succ]
    unfold Ris
    rw [List.map_append, List.pairwise_append]
    refine ⟨ih, ?_, fun a ha b hb => ?_⟩
    · cases firstL l m <;> simp
    · obtain ⟨p, hp, rfl⟩ := List.mem_map.1 ha
      have h1 := dirsL_low l m p hp
      cases hf : firstL l m with
      | none => rw [hf] at hb; simp at hb
      | some n => rw [hf] at hb; simp at hb; omega
theorem look_append {l m : List (Int × Nat)} {x : Int} : look (l ++ m) x = (look l x).or (look m x) := by
  induction l with
  | nil => simp [look]
  | cons p r ih =>
    obtain ⟨k, u⟩ := p
    simp only [List.cons_append, look]
    split
    · simp
    · exact ih
theorem look_dirs (l : List Rc) (m : Nat) (x : Int) : look (dirsL l m) x = if 0 ≤ x ∧ x < m then firstL l x else none := by
  induction m with
  | zero => rw [if_neg (by omega)]; rfl
  | succ m ih =>
    rw [dirsL_succ, look_append, ih]
    by_cases e : x = m
    · subst e
      rw [if_neg (by omega), if_pos (by omega)]
      cases firstL l m <;> simp [look]
    · have h2 : look (((firstL l m).map fun n => ((m : Int), n)).toList) x = none := by
        cases firstL l m with
        | none => rfl
        | some n => simp [look]; omega
      rw [h2]
      by_cases h3 : 0 ≤ x ∧ x < m
      · rw [if_pos h3, if_pos (by omega)]; simp
      · rw [if_neg h3, if_neg (by omega)]; rfl
theorem firstL_page {l : List Rc} {p : Int} {n : Nat} (h : firstL l p = some n) : ∃ r, r ∈ l ∧ r.page = p ∧ r.lsn = n := by
  induction l with
  | nil => simp [firstL] at h
  | cons r l ih =>
    rw [firstL] at h
    split at h
    · rename_i e; simp at h; exact ⟨r, by simp, e.2, h⟩
    · obtain ⟨q, hq, h1⟩ := ih h; exact ⟨q, by simp [hq], h1⟩
theorem dirs_all {l : List Rc} (h : logB l = true) : (allX l).d = dirsL l 16 := by
  have hm : ∀ r, r ∈ l → mayB r = true := fun r hr => by
    unfold logB at h
    rw [Bool.and_eq_true] at h
    exact List.all_eq_true.1 h.1 r hr
  have e : allX l = overL Lf.nil l := by simp [allX, h]
  rw [e]
  refine ris_uniq (Lf.Ok.nil.over l).d (dirsL_ris l 16) fun x => ?_
  rw [look_over Lf.Ok.nil, look_dirs]
  show (look [] x).or _ = _
  rw [show look ([] : List (Int × Nat)) x = none from rfl]
  by_cases h3 : 0 ≤ x ∧ x < (16 : Nat)
  · rw [if_pos h3]; simp
  · rw [if_neg h3]
    cases hf : firstL l x with
    | none => rfl
    | some n =>
      obtain ⟨r, hr, hp, _⟩ := firstL_page hf
      have := may_page_ok (hm r hr)
      omega
theorem first_pos {l : List Rc} (h : logB l = true) {p : Int} {n : Nat} (hf : firstL l p = some n) : 16 ≤ n := by
  obtain ⟨r, hr, _, e⟩ := firstL_page hf
  have := ((log_down h).1 r hr).1
  omega
theorem dirs_get {l : List Rc} {m : Nat} (hm : m < 16) {n : Nat} (hf : firstL l m = some n) : ∃ h : (dirsL l m).length < (dirsL l 16).length, (dirsL l 16)[(dirsL l m).length] = ((m : Int), n) := by
  have key : ∀ j, m + 1 ≤ j → ∃ t, dirsL l j = dirsL l (m + 1) ++ t := by
    intro j hj
    induction j with
    | zero => omega
    | succ j ih =>
      by_cases e : m = j
      · subst e; exact ⟨[], by simp⟩
      · obtain ⟨t, ht⟩ := ih (by omega)
        exact ⟨_, by rw [dirsL_succ, ht, List.append_assoc]⟩
  obtain ⟨t, ht⟩ := key 16 (by omega)
  have h2 : dirsL l (m + 1) = dirsL l m ++ [((m : Int), n)] := by rw [dirsL_succ, hf]; rfl
  rw [h2] at ht
  have hl : (dirsL l m).length < (dirsL l 16).length := by rw [ht]; simp
  refine ⟨hl, ?_⟩
  have : (dirsL l 16)[(dirsL l m).length]? = some ((m : Int), n) := by rw [ht]; simp
  rw [List.getElem?_eq_getElem hl] at this
  exact Option.some.inj this
end Go.Proofs.Yticnkppnpfgceaa.Mg
