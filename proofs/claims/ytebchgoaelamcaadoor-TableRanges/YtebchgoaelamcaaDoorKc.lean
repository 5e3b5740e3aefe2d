/-
  What is planned is done: the mathematics.
-/
import Derived.Test.YtebchgoaelamcaaDoorKb
import Derived.Test.YtebchgoaelamcaaDoorSt
namespace Go.Proofs.YtebchgoaelamcaaDoor
open Go.RowKit
set_option maxRecDepth 100000

def wo (k : List UInt8) (L : List Pq) : List Pq := L.filter fun x => !(x.1 == k)

theorem get_mem {l : List Cl} (h : GoodL l) (k v : List UInt8) : getL l k = some v ↔ (k, v) ∈ prsL l := by
  constructor
  · intro e
    obtain ⟨i, hi, _, hu, hk, hv⟩ := get_some' e
    rw [prsL, List.mem_filterMap]
    exact ⟨l[i], List.getElem_mem hi, by rw [prC_used hu, hk, hv]⟩
  · intro e
    obtain ⟨i, hi, hu, hk, hv⟩ := mem_prs e
    have := (get_at h i hi hu).2
    rw [hk, hv] at this
    exact this
theorem rest_ne {l : List Cl} (h : GoodL l) {i : Nat} (hi : i < l.length) (hu : l[i].used = true) : ∀ x ∈ restL l i, x.1 ≠ l[i].key := by
  intro x hx e
  rw [restL, List.mem_append] at hx
  rcases hx with hx | hx
  · obtain ⟨j, hj, u2, k2, _⟩ := mem_prs hx
    rw [List.length_take] at hj
    rw [List.getElem_take] at u2 k2
    have := h.once i j hi (by omega) hu u2 (by rw [k2, e])
    omega
  · obtain ⟨j, hj, u2, k2, _⟩ := mem_prs hx
    rw [List.length_drop] at hj
    rw [List.getElem_drop] at u2 k2
    have := h.once i (i + 1 + j) hi (by omega) hu u2 (by rw [k2, e])
    omega
theorem wo_ne {k : List UInt8} {L : List Pq} (h : ∀ x ∈ L, x.1 ≠ k) : wo k L = L := List.filter_eq_self.2 fun x hx => by simpa using h x hx
theorem wo_self (k v : List UInt8) (L : List Pq) : wo k ((k, v) :: L) = wo k L := by simp [wo]
theorem wo_perm {k : List UInt8} {L M : List Pq} (h : L.Perm M) : (wo k L).Perm (wo k M) := h.filter _
theorem sortP_iff (L : List Pq) : SortP L ↔ L.Pairwise fun a b => ¬ b.1 < a.1 := by
  rw [List.pairwise_iff_getElem]
  exact ⟨fun h i j hi hj hij => h i j hi hj hij, fun h i j hi hj hij => h i j hi hj hij⟩
theorem wo_sort {k : List UInt8} {L : List Pq} (h : SortP L) : SortP (wo k L) := (sortP_iff _).2 (((sortP_iff _).1 h).filter _)

theorem may_parts {key val : List UInt8} (h : actB 1 key [] val = true) : 1 ≤ key.length ∧ key.length ≤ 16 ∧ val.length ≤ 32 := by
  simp [actB] at h
  omega

/-- What is told with ReplyOK. -/
structure Planned (l : List Cl) (k : Int) (key val : List UInt8) (x : Ac) : Prop where
  ok : (doL l x).2 = 0
  get : tgetL (doL l x).1 key = if k = 5 then ([], 4) else (val, 2)
  rest : (wo key (prsL l)).Perm (wo key (prsL (doL l x).1))

theorem ins_planned {l : List Cl} (h : GoodL l) {k : Int} {key val : List UInt8} (h5 : k ≠ 5) (ho : (doL l ⟨1, key, [], val⟩).2 = 0) : Planned l k key val ⟨1, key, [], val⟩ := by
  have hg := do_good h ⟨1, key, [], val⟩
  rcases do_kinds ho with ⟨_, _, hd⟩ | ⟨e, _⟩ | ⟨e, _⟩
  · simp only at hd
    have ho' : (insL l key val).2 = 0 := by rw [← hd]; exact ho
    refine ⟨ho, ?_, ?_⟩
    · rw [hd, tgetL, ins_get h ho', if_neg h5]
    · rw [hd]
      have := wo_perm (k := key) (ins_prs ho')
      rw [wo_self] at this
      exact this.symm
  · cases e
  · cases e
theorem upd_planned {l : List Cl} (h : GoodL l) {k : Int} {key val x : List UInt8} (h5 : k ≠ 5) (ho : (doL l ⟨2, key, x, val⟩).2 = 0) : Planned l k key val ⟨2, key, x, val⟩ := by
  rcases do_kinds ho with ⟨e, _⟩ | ⟨_, hx, hd⟩ | ⟨e, _⟩
  · cases e
  · simp only at hd hx
    have ho' : (updL l key val).2 = 0 := by rw [← hd]; exact ho
    obtain ⟨i, hi, hf, _, he⟩ := upd_at ho'
    obtain ⟨j, hj, hf2, hu, hk, _⟩ := get_some' hx
    obtain rfl : i = j := by rw [hf] at hf2; simpa using hf2
    refine ⟨ho, ?_, ?_⟩
    · rw [hd, tgetL, (upd_back h hx ho').1, if_neg h5]
    · rw [hd, he]
      have hr := rest_ne h hi hu
      rw [hk] at hr
      have p1 := wo_perm (k := key) (prs_at l i hi)
      have p2 := wo_perm (k := key) (prs_set l i hi (cellOfKV key val))
      rw [prC_used hu, hk] at p1
      rw [show prC (cellOfKV key val) = some (key, val) from rfl] at p2
      simp only [Option.toList_some, List.cons_append, List.nil_append, wo_self] at p1 p2
      exact p1.trans p2.symm
  · cases e
theorem del_planned {l : List Cl} (h : GoodL l) {key val x : List UInt8} (hm : actB 1 key [] [] = true) (hx : getL l key = some x) : Planned l 5 key val ⟨3, key, x, []⟩ := by
  have hmp := may_parts hm
  obtain ⟨i, hi, hf, he, hd⟩ := del_at hx
  obtain ⟨j, hj, hf2, hu, hk, hv⟩ := get_some' hx
  obtain rfl : i = j := by rw [hf] at hf2; simpa using hf2
  have hxl : x.length ≤ 32 := by
    have := h.cells l[i] (List.getElem_mem hi)
    unfold goodC at this
    rw [if_pos hu, hv] at this
    exact this.2.2
  have hmay : mayA ⟨3, key, x, []⟩ = true := by simp [mayA, actB]; omega
  have hw : whyL l key x = 0 := why_zero.2 hx
  have hdo : doL l ⟨3, key, x, []⟩ = (trimL (l.set i Cl.none), 0) := by
    unfold doL
    rw [if_neg (by rw [hmay]; simp), if_neg (by simp), if_neg (by simp [hw]), if_neg (by simp)]
    exact hd
  have hg := do_good h ⟨3, key, x, []⟩
  rw [hdo] at hg
  have hr := rest_ne h hi hu
  rw [hk] at hr
  have p2 : (prsL (trimL (l.set i Cl.none))).Perm (restL l i) := by
    rw [prs_trim]
    exact prs_set l i hi Cl.none
  refine ⟨by rw [hdo], ?_, ?_⟩
  · rw [hdo, if_pos rfl, tgetL]
    cases hq : getL (trimL (l.set i Cl.none)) key with
    | none => rfl
    | some v =>
      exact absurd rfl (hr _ (p2.mem_iff.1 ((get_mem hg key v).1 hq)))
  · rw [hdo]
    have p1 := wo_perm (k := key) (prs_at l i hi)
    rw [prC_used hu, hk] at p1
    simp only [Option.toList_some, List.cons_append, List.nil_append, wo_self] at p1
    exact p1.trans (wo_perm p2).symm
theorem fit_ok {l : List Cl} {a x : Ac} (h : fitL l a = (x, 1)) : x = a ∧ (doL l a).2 = 0 := by
  unfold fitL at h
  split at h
  · rename_i h0
    simp at h
    exact ⟨h.symm, h0⟩
  · simp at h
theorem fit_no {l : List Cl} {a : Ac} (h : (fitL l a).2 ≠ 1) : (fitL l a).1 = ⟨0, [], [], []⟩ := by
  unfold fitL at *
  split at h
  · exact absurd rfl h
  · rename_i h0
    rw [if_neg h0]
theorem plan_cases (l : List Cl) (k : Int) (key val : List UInt8) :
    (∃ r, r ≠ 1 ∧ planL l k key val = (⟨0, [], [], []⟩, r)) ∨ (k = 5 ∧ actB 1 key [] [] = true ∧ ∃ x, getL l key = some x ∧ planL l k key val = (⟨3, key, x, []⟩, 1)) ∨
    (k ≠ 5 ∧ planL l k key val = fitL l ⟨1, key, [], val⟩) ∨ (k ≠ 5 ∧ ∃ x, planL l k key val = fitL l ⟨2, key, x, val⟩) := by
  by_cases h5 : k = 5
  · subst h5
    cases hm : actB 1 key [] []
    · exact .inl ⟨11, by decide, by simp [planL, hm]⟩
    · cases hq : getL l key with
      | none => exact .inl ⟨4, by decide, by simp [planL, hm, hq]⟩
      | some x => exact .inr (.inl ⟨rfl, rfl, x, rfl, by simp [planL, hm, hq]⟩)
  · cases hm : actB 1 key [] val
    · exact .inl ⟨11, by decide, by simp [planL, h5, hm]⟩
    · by_cases h4 : k = 4
      · subst h4
        cases hq : getL l key with
        | none => exact .inr (.inr (.inl ⟨h5, by simp [planL, hm, hq]⟩))
        | some x => exact .inl ⟨5, by decide, by simp [planL, hm, hq]⟩
      · by_cases h3 : k = 3
        · subst h3
          cases hq : getL l key with
          | none => exact .inr (.inr (.inl ⟨h5, by simp [planL, hm, hq]⟩))
          | some x => exact .inr (.inr (.inr ⟨h5, x, by simp [planL, hm, hq]⟩))
        · exact .inl ⟨11, by decide, by simp [planL, h5, h4, h3]⟩
theorem plan_ok {l : List Cl} (h : GoodL l) {k : Int} {key val : List UInt8} (ho : (planL l k key val).2 = 1) : Planned l k key val (planL l k key val).1 := by
  rcases plan_cases l k key val with ⟨r, hr, e⟩ | ⟨rfl, hm, x, hq, e⟩ | ⟨h5, e⟩ | ⟨h5, x, e⟩
  · rw [e] at ho
    exact absurd ho hr
  · rw [e]
    exact del_planned h hm hq
  all_goals
    rw [e] at ho ⊢
    obtain ⟨e1, h0⟩ := fit_ok (x := (fitL l _).1) (Prod.ext rfl ho)
    rw [e1]
    first | exact ins_planned h h5 h0 | exact upd_planned h h5 h0
theorem plan_no {l : List Cl} {k : Int} {key val : List UInt8} (ho : (planL l k key val).2 ≠ 1) : (planL l k key val).1 = ⟨0, [], [], []⟩ := by
  rcases plan_cases l k key val with ⟨r, hr, e⟩ | ⟨rfl, hm, x, hq, e⟩ | ⟨h5, e⟩ | ⟨h5, x, e⟩
  · rw [e]
  · rw [e] at ho
    exact absurd rfl ho
  all_goals
    rw [e] at ho ⊢
    exact fit_no ho
/-- The others have what they had: two sorted rows, without one key. -/
theorem rest_same {l m : List Cl} (h : GoodL l) {key : List UInt8} {L M : List Pq} (h1 : L.Perm (prsL l)) (h2 : M.Perm (prsL m)) (s1 : SortP L) (s2 : SortP M) (hp : (wo key (prsL l)).Perm (wo key (prsL m))) : wo key L = wo key M :=
  sort_uniq _ _ ((wo_perm h1).trans (hp.trans (wo_perm h2).symm)) (wo_sort s1) (wo_sort s2) fun x y hx hy e => prs_uniq h x y (h1.mem_iff.1 ((List.mem_filter.1 hx).1)) (h1.mem_iff.1 ((List.mem_filter.1 hy).1)) e
end Go.Proofs.YtebchgoaelamcaaDoor
