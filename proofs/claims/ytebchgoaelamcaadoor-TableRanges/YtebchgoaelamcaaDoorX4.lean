/-
  Texts put together: Mq Mr Sp.
-/
import Derived.Test.YtebchgoaelamcaaDoorX3
import Derived.Shelf.SlSortCmp.WholeK
import Derived.Shelf.Lay
import Derived.Ground.SlsfProg
import Derived.Sort.Walk0
namespace Go.Proofs.YtebchgoaelamcaaDoor
open Go.RowKit
set_option maxRecDepth 100000

/-- A key and its value. -/
abbrev Pq := List UInt8 × List UInt8
def prC (c : Cl) : Option Pq := if c.used then some (c.key, c.val) else none
def prsL (l : List Cl) : List Pq := l.filterMap prC

theorem prs_append (l m : List Cl) : prsL (l ++ m) = prsL l ++ prsL m := List.filterMap_append
theorem prs_free {p : List Cl} (h : ∀ c ∈ p, c.used = false) : prsL p = [] := by
  induction p with
  | nil => rfl
  | cons c r ih =>
    have h1 := h c (List.mem_cons_self ..)
    have h2 := ih fun x hx => h x (List.mem_cons_of_mem _ hx)
    simp only [prsL] at h2 ⊢
    rw [List.filterMap_cons, prC, h1]
    exact h2
theorem prs_trim (l : List Cl) : prsL (trimL l) = prsL l := by
  obtain ⟨p, hp, hf⟩ := trimL_prefix l
  have := congrArg prsL hp
  rw [prs_append, prs_free hf, List.append_nil] at this
  exact this.symm
def restL (l : List Cl) (i : Nat) : List Pq := prsL (l.take i) ++ prsL (l.drop (i + 1))
theorem prs_cons (c : Cl) (l : List Cl) : prsL (c :: l) = (prC c).toList ++ prsL l := by
  simp only [prsL, List.filterMap_cons]
  cases prC c <;> rfl
theorem perm_mid (a b c : List Pq) : (a ++ (b ++ c)).Perm (b ++ (a ++ c)) := by
  rw [← List.append_assoc, ← List.append_assoc]
  exact List.Perm.append_right c List.perm_append_comm
theorem prs_at (l : List Cl) (i : Nat) (hi : i < l.length) : (prsL l).Perm ((prC l[i]).toList ++ restL l i) := by
  have e : l = l.take i ++ (l[i] :: l.drop (i + 1)) := by
    rw [List.getElem_cons_drop, List.take_append_drop]
  have h := congrArg prsL e
  rw [prs_append, prs_cons] at h
  rw [h]
  exact perm_mid _ _ _
theorem prs_set (l : List Cl) (i : Nat) (hi : i < l.length) (c : Cl) : (prsL (l.set i c)).Perm ((prC c).toList ++ restL l i) := by
  rw [List.set_eq_take_append_cons_drop, if_pos hi, prs_append, prs_cons]
  exact perm_mid _ _ _
theorem prC_used {c : Cl} (h : c.used = true) : prC c = some (c.key, c.val) := by unfold prC; rw [h]; rfl
theorem prC_free {c : Cl} (h : c.used = false) : prC c = none := by unfold prC; rw [h]; rfl
theorem mem_prs {l : List Cl} {x : Pq} (h : x ∈ prsL l) : ∃ i, ∃ hi : i < l.length, l[i].used = true ∧ l[i].key = x.1 ∧ l[i].val = x.2 := by
  simp only [prsL, List.mem_filterMap] at h
  obtain ⟨c, hc, e⟩ := h
  obtain ⟨i, hi, rfl⟩ := List.getElem_of_mem hc
  by_cases hu : l[i].used = true
  · rw [prC_used hu] at e
    simp at e
    subst e
    exact ⟨i, hi, hu, rfl, rfl⟩
  · rw [prC_free (by simpa using hu)] at e
    simp at e
theorem prs_uniq {l : List Cl} (h : GoodL l) (x y : Pq) (hx : x ∈ prsL l) (hy : y ∈ prsL l) (e : x.1 = y.1) : x = y := by
  obtain ⟨i, hi, u1, k1, v1⟩ := mem_prs hx
  obtain ⟨j, hj, u2, k2, v2⟩ := mem_prs hy
  have := h.once i j hi hj u1 u2 (by rw [k1, k2, e])
  subst this
  exact Prod.ext e (by rw [← v1, ← v2])
theorem get_at {l : List Cl} (h : GoodL l) (j : Nat) (hj : j < l.length) (hu : l[j].used = true) : l.findIdx? (isKey l[j].key) = some j ∧ getL l l[j].key = some l[j].val := by
  have hf : l.findIdx? (isKey l[j].key) = some j := by
    cases hc : l.findIdx? (isKey l[j].key) with
    | none => have := find_none hc j hj; simp [isKey, hu] at this
    | some i =>
      obtain ⟨hi, hp⟩ := find_some hc
      simp [isKey] at hp
      rw [h.once i j hi hj hp.1 hu hp.2]
  refine ⟨hf, ?_⟩
  unfold getL
  rw [hf]
  simp [hj]
theorem get_some' {l : List Cl} {k x : List UInt8} (h : getL l k = some x) : ∃ i, ∃ hi : i < l.length, l.findIdx? (isKey k) = some i ∧ l[i].used = true ∧ l[i].key = k ∧ l[i].val = x := by
  unfold getL at h
  cases hc : l.findIdx? (isKey k) with
  | none => rw [hc] at h; simp at h
  | some i =>
    obtain ⟨hi, hp⟩ := find_some hc
    rw [hc] at h
    simp [isKey] at hp
    simp [hi] at h
    exact ⟨i, hi, rfl, hp.1, hp.2, h⟩
theorem why_zero {l : List Cl} {k x : List UInt8} : whyL l k x = 0 ↔ getL l k = some x := by
  unfold whyL
  cases getL l k with
  | none => simp
  | some v => by_cases e : v = x <;> simp [e]

/-- A key that was laid. -/
theorem ins_at {l : List Cl} {k v : List UInt8} (ho : (insL l k v).2 = 0) : mayK k v = true ∧ l.findIdx? (isKey k) = none ∧ ((∃ j, ∃ hj : j < l.length, l[j].used = false ∧ (insL l k v).1 = l.set j (cellOfKV k v)) ∨ (insL l k v).1 = l ++ [cellOfKV k v]) := by
  unfold insL at ho ⊢
  split at ho
  · rename_i hm
    rw [if_pos hm]
    refine ⟨hm, ?_⟩
    split at ho
    · simp at ho
    · rename_i hn
      refine ⟨hn, ?_⟩
      split at ho
      · rename_i j hj
        obtain ⟨hjl, hp⟩ := find_some hj
        simp [isFree] at hp
        unfold fillL at ho ⊢
        split at ho
        · simp at ho
        · rename_i hc
          try rw [hj]
          try dsimp only
          rw [if_neg hc]
          exact .inl ⟨j, hjl, hp, rfl⟩
      · rename_i hj
        unfold addL at ho ⊢
        split at ho
        · simp at ho
        · rename_i hc
          try rw [hj]
          try dsimp only
          rw [if_neg hc]
          exact .inr rfl
  · simp at ho
theorem ins_prs {l : List Cl} {k v : List UInt8} (ho : (insL l k v).2 = 0) : (prsL (insL l k v).1).Perm ((k, v) :: prsL l) := by
  obtain ⟨_, _, ⟨j, hj, hu, e⟩ | e⟩ := ins_at ho
  · rw [e]
    refine (prs_set l j hj _).trans ?_
    have h1 := prs_at l j hj
    rw [prC_free hu] at h1
    exact List.Perm.cons _ h1.symm
  · rw [e, prs_append]
    exact List.perm_append_comm
theorem ins_get {l : List Cl} (h : GoodL l) {k v : List UInt8} (ho : (insL l k v).2 = 0) : getL (insL l k v).1 k = some v := by
  have hg := ins_good h k v
  obtain ⟨_, _, ⟨j, hj, hu, e⟩ | e⟩ := ins_at ho
  · rw [e] at hg ⊢
    have hj2 : j < (l.set j (cellOfKV k v)).length := by rw [List.length_set]; exact hj
    have hx : (l.set j (cellOfKV k v))[j] = cellOfKV k v := List.getElem_set_self hj2
    have := (get_at hg j hj2 (by rw [hx]; rfl)).2
    rw [hx] at this
    exact this
  · rw [e] at hg ⊢
    have hj2 : l.length < (l ++ [cellOfKV k v]).length := by simp
    have hx : (l ++ [cellOfKV k v])[l.length] = cellOfKV k v := by simp
    have := (get_at hg l.length hj2 (by rw [hx]; rfl)).2
    rw [hx] at this
    exact this

end Go.Proofs.YtebchgoaelamcaaDoor

namespace Go.Proofs.YtebchgoaelamcaaDoor
open Go.RowKit
set_option maxRecDepth 100000

theorem upd_at {l : List Cl} {k v : List UInt8} (ho : (updL l k v).2 = 0) : ∃ i, i < l.length ∧ l.findIdx? (isKey k) = some i ∧ mayK k v = true ∧ (updL l k v).1 = l.set i (cellOfKV k v) := by
  unfold updL at ho ⊢
  split at ho
  · rename_i hm
    rw [if_pos hm]
    split at ho
    · rename_i i hi
      unfold fillL at ho ⊢
      split at ho
      · simp at ho
      · rename_i hc
        obtain ⟨hil, _⟩ := find_some hi
        try rw [hi]
        try dsimp only
        rw [if_neg hc]
        exact ⟨i, hil, rfl, hm, rfl⟩
    · simp at ho
  · simp at ho
theorem cell_eta {l : List Cl} {i : Nat} (hi : i < l.length) (hu : l[i].used = true) : l[i] = cellOfKV l[i].key l[i].val := by
  cases h : l[i] with
  | mk u k v => rw [h] at hu; simp at hu; subst hu; rfl
theorem free_put (l : List Cl) (i : Nat) (hi : i < l.length) (c : Cl) : freeL (l.set i c) + sizeC c = freeL l + sizeC l[i] := by
  have := sumC_set l i c hi
  unfold freeL
  rw [List.length_set]
  omega
/-- An update is taken back by the elder value. -/
theorem upd_back {l : List Cl} (h : GoodL l) {k v x : List UInt8} (hx : getL l k = some x) (ho : (updL l k v).2 = 0) : getL (updL l k v).1 k = some v ∧ updL (updL l k v).1 k x = (l, 0) := by
  have hg := upd_good h k v
  obtain ⟨i, hi, hf, hm, e⟩ := upd_at ho
  obtain ⟨i', hi', hf', hu, hk, hv⟩ := get_some' hx
  obtain rfl : i = i' := by rw [hf] at hf'; simpa using hf'
  rw [e] at hg ⊢
  have hj2 : i < (l.set i (cellOfKV k v)).length := by rw [List.length_set]; exact hi
  have hs : (l.set i (cellOfKV k v))[i] = cellOfKV k v := List.getElem_set_self hj2
  have hga := get_at hg i hj2 (by rw [hs]; rfl)
  rw [hs] at hga
  have hga1 : (l.set i (cellOfKV k v)).findIdx? (isKey k) = some i := hga.1
  refine ⟨hga.2, ?_⟩
  have hcell : l[i] = cellOfKV k x := by rw [cell_eta hi hu, hk, hv]
  have hmx : mayK k x = true := by
    have := h.cells l[i] (List.getElem_mem hi)
    simp [goodC, hu, hk, hv] at this
    simp [mayK]
    omega
  unfold updL
  rw [if_pos hmx, hga1]
  unfold fillL
  dsimp only
  have hfr := free_put l i hi (cellOfKV k v)
  have hr := h.room
  have hgd : ((l.set i (cellOfKV k v))[i]?.getD Cl.none) = cellOfKV k v := by rw [List.getElem?_eq_getElem hj2, hs]; rfl
  rw [hgd]
  rw [hcell] at hfr
  rw [if_neg (by omega), List.set_set, ← hcell, List.set_getElem_self]
theorem del_at {l : List Cl} {k x : List UInt8} (hx : getL l k = some x) : ∃ i, ∃ hi : i < l.length, l.findIdx? (isKey k) = some i ∧ l[i] = cellOfKV k x ∧ delL l k = (trimL (l.set i Cl.none), 0) := by
  obtain ⟨i, hi, hf, hu, hk, hv⟩ := get_some' hx
  refine ⟨i, hi, hf, by rw [cell_eta hi hu, hk, hv], ?_⟩
  unfold delL
  rw [hf]
/-- What was taken away can be laid again. -/
theorem del_back {l : List Cl} (h : GoodL l) {k x : List UInt8} (hx : getL l k = some x) : (insL (delL l k).1 k x).2 = 0 ∧ (prsL (insL (delL l k).1 k x).1).Perm (prsL l) := by
  have hg := del_good h k
  obtain ⟨i, hi, hf, hc, e⟩ := del_at hx
  rw [e] at hg ⊢
  dsimp only at hg ⊢
  have hcu : l[i].used = true := by rw [hc]; rfl
  have hck : l[i].key = k := by rw [hc]; rfl
  have hmx : mayK k x = true := by
    have := h.cells l[i] (List.getElem_mem hi)
    rw [hc] at this
    simp [goodC, cellOfKV] at this
    simp [mayK]
    omega
  obtain ⟨p, hp, hpf⟩ := trimL_prefix (l.set i Cl.none)
  have hnone : (trimL (l.set i Cl.none)).findIdx? (isKey k) = none := by
    cases hq : (trimL (l.set i Cl.none)).findIdx? (isKey k) with
    | none => rfl
    | some j =>
      exfalso
      obtain ⟨hj, hpj⟩ := find_some hq
      simp [isKey] at hpj
      have hj2 : j < (l.set i Cl.none).length := by have := trimL_free (l.set i Cl.none); omega
      have hjx : (l.set i Cl.none)[j] = (trimL (l.set i Cl.none))[j] := by
        have e1 : (l.set i Cl.none)[j]? = (trimL (l.set i Cl.none) ++ p)[j]? := by rw [← hp]
        rw [List.getElem?_append_left hj, List.getElem?_eq_getElem hj2, List.getElem?_eq_getElem hj] at e1
        simpa using e1
      rw [← hjx] at hpj
      by_cases hij : i = j
      · subst hij
        rw [List.getElem_set_self hj2] at hpj
        simp [Cl.none] at hpj
      · rw [List.getElem_set_ne hij] at hpj
        rw [List.length_set] at hj2
        exact hij (h.once i j hi hj2 hcu hpj.1 (by rw [hck, hpj.2]))
  have hfr := free_put l i hi Cl.none
  have htf := trimL_free (l.set i Cl.none)
  have hr := h.room
  have hok : (insL (trimL (l.set i Cl.none)) k x).2 = 0 := by
    unfold insL
    rw [if_pos hmx, hnone]
    dsimp only
    cases hq : (trimL (l.set i Cl.none)).findIdx? isFree with
    | some j =>
      dsimp only
      obtain ⟨hj, hpj⟩ := find_some hq
      simp [isFree] at hpj
      unfold fillL
      rw [if_neg]
      rw [List.getElem?_eq_getElem hj]
      have : sizeC (trimL (l.set i Cl.none))[j] = 0 := by simp [sizeC, hpj]
      rw [hc, sizeC_none] at hfr
      simp only [Option.getD_some, this]
      omega
    | none =>
      dsimp only
      have hlt : (trimL (l.set i Cl.none)).length < l.length := by
        rcases Nat.lt_or_eq_of_le htf.2 with hlt | heq
        · rw [List.length_set] at hlt
          exact hlt
        · exfalso
          have hp0 : p = [] := by
            have := congrArg List.length hp
            rw [List.length_append] at this
            exact List.eq_nil_of_length_eq_zero (by omega)
          rw [hp0, List.append_nil] at hp
          have hi2 : i < (trimL (l.set i Cl.none)).length := by rw [heq, List.length_set]; exact hi
          have := find_none hq i hi2
          have hx2 : (trimL (l.set i Cl.none))[i] = Cl.none := by
            have e1 : (l.set i Cl.none)[i]? = (trimL (l.set i Cl.none))[i]? := by rw [← hp]
            rw [List.getElem?_eq_getElem hi2, List.getElem?_set_self hi] at e1
            simpa using e1.symm
          rw [hx2] at this
          simp [isFree, Cl.none] at this
      have hf4 : freeL (l.set i Cl.none) + 4 ≤ freeL (trimL (l.set i Cl.none)) := by
        have e1 := congrArg sumC hp
        rw [sumC_append, sumC_free p hpf] at e1
        unfold freeL
        rw [List.length_set]
        omega
      unfold addL
      rw [if_neg]
      rw [hc, sizeC_none] at hfr
      have := h.few
      omega
  refine ⟨hok, (ins_prs hok).trans ?_⟩
  rw [prs_trim]
  have h1 := prs_set l i hi Cl.none
  rw [prC_free rfl] at h1
  have h2 := prs_at l i hi
  rw [hc, prC_used rfl] at h2
  exact (List.Perm.cons _ h1).trans h2.symm

theorem do_may {l : List Cl} {a : Ac} (ho : (doL l a).2 = 0) : mayA a = true := by
  by_cases h : mayA a = true
  · exact h
  · unfold doL at ho
    rw [if_pos (by simpa using h)] at ho
    simp at ho
theorem do_kinds {l : List Cl} {a : Ac} (ho : (doL l a).2 = 0) :
    (a.kind = 1 ∧ a.old = [] ∧ doL l a = insL l a.key a.new) ∨ (a.kind = 2 ∧ getL l a.key = some a.old ∧ doL l a = updL l a.key a.new) ∨ (a.kind = 3 ∧ a.new = [] ∧ getL l a.key = some a.old ∧ doL l a = delL l a.key) := by
  have hm := do_may ho
  have hmm := hm
  simp only [mayA, actB, Bool.and_eq_true, decide_eq_true_eq] at hmm
  obtain ⟨⟨k0, k1⟩, h2, h3, _⟩ := hmm
  unfold doL at ho ⊢
  rw [if_neg (by rw [hm]; decide)] at ho ⊢
  by_cases e1 : a.kind = 1
  · rw [if_pos e1]
    exact .inl ⟨e1, by rcases h2 with h | h; exact h; exact absurd e1 h, rfl⟩
  · rw [if_neg e1] at ho ⊢
    by_cases hw : whyL l a.key a.old = 0
    · rw [if_neg (by simpa using hw)] at ho ⊢
      by_cases e2 : a.kind = 2
      · rw [if_pos e2]
        exact .inr (.inl ⟨e2, why_zero.1 hw, rfl⟩)
      · rw [if_neg e2]
        have e3 : a.kind = 3 := by omega
        exact .inr (.inr ⟨e3, by rcases h3 with h | h; exact h; exact absurd e3 h, why_zero.1 hw, rfl⟩)
    · rw [if_pos hw] at ho
      exact absurd ho hw
theorem turn_eq {a : Ac} (h : mayA a = true) : turnA a = ⟨turnK a.kind, a.key, a.new, a.old⟩ := if_pos h
/-- A change that was done is taken back by what it is turned round. -/
theorem do_back {l : List Cl} (h : GoodL l) {a : Ac} (ho : (doL l a).2 = 0) : (doL (doL l a).1 (turnA a)).2 = 0 ∧ (prsL (doL (doL l a).1 (turnA a)).1).Perm (prsL l) := by
  have hm := do_may ho
  have ht := turn_may a hm
  have key : ∀ L x, doL L (turnA a) = x → (x.2 = 0 ∧ (prsL x.1).Perm (prsL l)) → (doL L (turnA a)).2 = 0 ∧ (prsL (doL L (turnA a)).1).Perm (prsL l) := fun L x e hx => by rw [e]; exact hx
  rcases do_kinds ho with ⟨e, hold, hd⟩ | ⟨e, hx, hd⟩ | ⟨e, hnew, hx, hd⟩
  · rw [hd] at ho ⊢
    refine key _ (l, 0) ?_ ⟨rfl, List.Perm.refl _⟩
    rw [turn_eq hm]
    unfold doL
    rw [if_neg (by rw [ht]; decide), if_neg (by simp [turnK, e]), if_neg (by simp [why_zero, ins_get h ho]), if_neg (by simp [turnK, e])]
    exact ins_del h _ _ ho
  · rw [hd] at ho ⊢
    obtain ⟨h1, h2⟩ := upd_back h hx ho
    refine key _ (l, 0) ?_ ⟨rfl, List.Perm.refl _⟩
    rw [turn_eq hm]
    unfold doL
    rw [if_neg (by rw [ht]; decide), if_neg (by simp [turnK, e]), if_neg (by simp [why_zero, h1]), if_pos (by simp [turnK, e])]
    exact h2
  · rw [hd]
    refine key _ (insL (delL l a.key).1 a.key a.old) ?_ (del_back h hx)
    rw [turn_eq hm]
    unfold doL
    rw [if_neg (by rw [ht]; decide), if_pos (by simp [turnK, e])]
/-- Whether a change that was done leaves other pairs. -/
theorem do_other {l : List Cl} (h : GoodL l) {a : Ac} (ho : (doL l a).2 = 0) : (prsL l).Perm (prsL (doL l a).1) ↔ (a.kind = 2 ∧ a.old = a.new) := by
  rcases do_kinds ho with ⟨e, hold, hd⟩ | ⟨e, hx, hd⟩ | ⟨e, hnew, hx, hd⟩
  · rw [hd] at ho ⊢
    refine ⟨fun hp => ?_, fun hk => by omega⟩
    have := (hp.trans (ins_prs ho)).length_eq
    simp at this
  · rw [hd] at ho ⊢
    obtain ⟨i, hi, hf, hm, e2⟩ := upd_at ho
    obtain ⟨i', hi', hf', hu, hk, hv⟩ := get_some' hx
    obtain rfl : i = i' := by rw [hf] at hf'; simpa using hf'
    rw [e2]
    have hcell : l[i] = cellOfKV a.key a.old := by rw [cell_eta hi hu, hk, hv]
    refine ⟨fun hp => ⟨e, ?_⟩, fun hk2 => ?_⟩
    · have h1 := prs_set l i hi (cellOfKV a.key a.new)
      rw [prC_used rfl] at h1
      have hmem : (a.key, a.new) ∈ prsL l := hp.mem_iff.2 (h1.mem_iff.2 (List.mem_cons_self ..))
      have h2 := prs_at l i hi
      rw [hcell, prC_used rfl] at h2
      have hmem2 : (a.key, a.old) ∈ prsL l := h2.mem_iff.2 (List.mem_cons_self ..)
      have := prs_uniq h _ _ hmem2 hmem rfl
      exact (Prod.ext_iff.1 this).2
    · rw [← hk2.2, ← hcell, List.set_getElem_self]
  · rw [hd]
    refine ⟨fun hp => ?_, fun hk => by omega⟩
    have hb := del_back h hx
    have h2 := ins_prs hb.1
    have := ((hp.symm.trans hb.2.symm).trans h2).length_eq
    simp at this

end Go.Proofs.YtebchgoaelamcaaDoor

namespace Go.Proofs.YtebchgoaelamcaaDoor
open Go.Shelf Go.RowKit Go.Lib Go.Sort
set_option maxRecDepth 100000

shelf_lay_g SlLaysF0.n6 Slsf 6 at Tryd 49 as sortPr

def encP (x : Pq) : List Value := [.string (txt x.1), .string (txt x.2)]
def cfP (x y : Pq) : Int := if x.1 < y.1 then -1 else if x.1 = y.1 then 0 else 1
theorem ltP (x y : Pq) : ltOf cfP x y = decide (x.1 < y.1) := by
  unfold ltOf cfP
  by_cases h1 : x.1 < y.1
  · simp [h1]
  · rw [if_neg h1]
    by_cases h2 : x.1 = y.1 <;> simp [h1, h2]
theorem swoP : SWO (ltOf cfP) where
  irrefl x := by rw [ltP]; simp
  trans x y z h1 h2 := by
    rw [ltP] at *
    simp at *
    exact List.lt_trans h1 h2
  ntrans x y z h1 h2 := by
    rw [ltP] at *
    simp at *
    exact List.le_trans h2 h1

set_option maxHeartbeats 1000000 in
theorem nan_any (x : ByteArray) (w : World) : Calls Tryd.prog 71 #[.string x] w fun e w' => e = .returned (.bool false) ∧ w' = w := by
  go_enter Tryd.func71, Tryd.ntmps71
  go_wp2
  go_ret
  exact ⟨rfl, rfl⟩

theorem toList_txt (l : List UInt8) : (txt l).toList = l := by rw [Lib.toList_data]; simp [txt]

set_option maxHeartbeats 1000000 in
theorem cmp_any (x y : Pq) (w : World) : Calls Tryd.prog 51 #[.string (txt x.1), .string (txt y.1)] w fun e w' => e = .returned (.int .i64 (cfP x y)) ∧ w' = w := by
  obtain ⟨b, hb⟩ : ∃ b, Op.bytesLess (txt x.1).toList (txt y.1).toList = b := ⟨_, rfl⟩
  obtain ⟨q, hq⟩ : ∃ q, ((txt x.1).toList == (txt y.1).toList) = q := ⟨_, rfl⟩
  have HV : Hid (cfP x y = if b then -1 else if q then 0 else 1) := by
    show _ = _
    rw [← hb, ← hq, toList_txt, toList_txt, bytesLess_eq]
    unfold cfP
    simp
  cases b
  · cases q
    all_goals
      go_enter Tryd.func51, Tryd.ntmps51
      go_wp2_with (go_at_call 71; refine (nan_any _ _).mono ?_; rintro e w' ⟨rfl, rfl⟩)
      go_ret
      exact ⟨by rw [HV.out]; rfl, rfl⟩
  · go_enter Tryd.func51, Tryd.ntmps51
    go_wp2_with (go_at_call 71; refine (nan_any _ _).mono ?_; rintro e w' ⟨rfl, rfl⟩)
    go_ret
    exact ⟨by rw [HV.out]; rfl, rfl⟩

set_option maxHeartbeats 1000000 in
theorem closure44 (x y : Pq) (W : World) : Calls Tryd.prog 50 #[.agg #[.string (txt x.1), .string (txt x.2)], .agg #[.string (txt y.1), .string (txt y.2)]] W fun e w' => e = .returned (.int .i64 (cfP x y)) ∧ ∃ q os', w' = grow (W.drewN q) os' := by
  have hcon := fun W' => cmp_any x y W'
  generalize cfP x y = r at hcon ⊢
  go_enter Tryd.func50, Tryd.ntmps50
  go_wp2_with (go_at_call 51; refine (hcon _).mono ?_; rintro e w' ⟨rfl, rfl⟩)
  go_ret
  exact ⟨rfl, 0, _, by rw [alloc_eq_grow, alloc_eq_grow, grow_grow]; rfl⟩

theorem cmpLays44 (blk off size : Nat) (w : World) : CmpLays Tryd.prog 50 #[] encP 2 cfP blk off size w :=
  fun _ _ _ _ x y => closure44 x y _

end Go.Proofs.YtebchgoaelamcaaDoor

