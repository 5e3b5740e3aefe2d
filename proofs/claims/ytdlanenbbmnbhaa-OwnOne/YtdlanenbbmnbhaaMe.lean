/-
  Of no program: who was called, and hands over: what is called stands in the row of orders, till it is come to; and the row ends.
-/
import Derived.Test.YtdlanenbbmnbhaaMb
namespace Go.Proofs.Ytdlanenbbmnbhaa

/-- Each who was called stands in the row, from a place on. -/
def Pend (l : List Lf) (C : List Od) (i : Nat) : Prop := ∀ (pg : Nat) (h : pg < l.length), l[pg].called = true → ∃ j, ∃ hj : j < C.length, i ≤ j ∧ C[j].kind = 2 ∧ C[j].page = (pg : Int) ∧ C[j].frm = l[pg].owner
/-- The orders are of pages and instances that there are. -/
def OdOk (m : Nat) (o : Od) : Prop := o.kind = 2 → 0 ≤ o.page ∧ o.page < (m : Int) ∧ 1 ≤ o.frm ∧ o.frm ≤ 8
def sumW (l : List Lf) : Nat := (l.map fun x => x.ws.length).sum

theorem serve_call {x : Lf} (i : Int) (h : LfPre x) (hc : (serveF i x).1.called = true) : (x.called = true ∧ (serveF i x).1.owner = x.owner) ∨ ∃ t f, (⟨2, i, (serveF i x).1.owner, t, f⟩ : Od) ∈ (serveF i x).2 := by
  cases hcx : x.called
  · right
    revert hc
    unfold serveF
    have hg : (giveF i x).1.called = false := by
      unfold giveF
      split
      · exact hcx
      · split <;> exact hcx
    generalize (giveF i x).1 = y at hg
    simp only
    unfold callF
    split
    · intro hc
      simp only at hc
      rw [hg] at hc
      simp at hc
    · split
      · intro hc
        simp only at hc
        rw [hg] at hc
        simp at hc
      · intro _
        exact ⟨_, _, List.mem_append_right _ (List.mem_singleton.2 rfl)⟩
  · left
    have ho := h.called hcx
    have hg : giveF i x = (x, []) := by unfold giveF; rw [if_pos (.inr ho)]
    refine ⟨rfl, ?_⟩
    unfold serveF
    rw [hg]
    simp only
    unfold callF
    rw [if_pos (.inr hcx)]
theorem serve_od {x : Lf} {m : Nat} (i : Nat) (hi : i < m) (h : LfPre x) : ∀ o ∈ (serveF (i : Int) x).2, OdOk m o := by
  have hg := give_pre (i : Int) h
  intro o ho
  unfold serveF at ho
  rcases List.mem_append.1 ho with ho | ho
  · unfold giveF at ho
    split at ho
    · simp at ho
    · split at ho
      · simp at ho
      · simp at ho
        subst ho
        exact fun e => absurd e (by simp)
  · generalize (giveF (i : Int) x).1 = y at ho hg
    unfold callF at ho
    split at ho
    · simp at ho
    · rename_i hn
      split at ho
      · simp at ho
      · simp at ho
        subst ho
        have h1 := hg.own0
        have h2 := hg.own8
        have h3 : y.owner ≠ 0 := fun e => hn (.inl e)
        exact fun _ => ⟨by simp, by simp only; omega, by simp only; omega, h2⟩
theorem serve_lost {x : Lf} (i : Int) : (serveF i x).1.lost = x.lost := by
  unfold serveF
  have hg : (giveF i x).1.lost = x.lost := by
    unfold giveF
    split
    · rfl
    · split <;> rfl
  generalize (giveF i x).1 = y at hg
  simp only
  unfold callF
  split
  · exact hg
  · split
    · exact hg
    · exact hg
theorem serve_two {x : Lf} (i : Int) : (serveF i x).2.length ≤ 2 := by
  have h1 : (giveF i x).2.length ≤ 1 := by unfold giveF; split; simp; split <;> simp
  have h2 : (callF i (giveF i x).1).2.length ≤ 1 := by unfold callF; split; simp; split <;> simp
  unfold serveF
  simp only [List.length_append]
  omega
theorem back_less {x : Lf} (i : Int) (h : LfOk x) : (serveF i (leaveF false x)).2.length + 2 * (serveF i (leaveF false x)).1.ws.length ≤ 2 * x.ws.length := by
  cases hw : x.ws with
  | nil => rw [back_none i hw]; simp
  | cons a r =>
    rw [back_turn i h hw false rfl]
    have := nextO_len i a r x.fast
    simp
    omega

theorem sumW_set : ∀ (l : List Lf) (i : Nat) (hi : i < l.length) (y : Lf), sumW (l.set i y) + l[i].ws.length = sumW l + y.ws.length
  | a :: r, 0, _, y => by simp [sumW]; omega
  | a :: r, i + 1, hi, y => by
    have := sumW_set r i (by simpa using hi) y
    simp [sumW] at this ⊢
    omega
theorem sumW_le : ∀ (l : List Lf), BkOk l → sumW l ≤ 8 * l.length
  | [], _ => by simp [sumW]
  | a :: r, h => by
    have h1 := (h a (by simp)).len
    have h2 := sumW_le r (fun x hx => h x (by simp [hx]))
    simp [sumW] at h2 ⊢
    omega

theorem Pend.start {l : List Lf} (h : ∀ x ∈ l, x.called = false) (C : List Od) (i : Nat) : Pend l C i := fun pg hp hc => by rw [h _ (List.getElem_mem hp)] at hc; simp at hc
/-- A page is served: the others stay. -/
theorem Pend.serve {l : List Lf} {C : List Od} {i : Nat} (h : Pend l C i) (hi : i ≤ C.length) (p : Nat) (hp : p < l.length) (x : Lf) (hx : LfPre x) (hc : x.called = true → l[p].called = true ∧ x.owner = l[p].owner) :
    Pend (l.set p (serveF (p : Int) x).1) (C ++ (serveF (p : Int) x).2) i := by
  intro pg hpg hcl
  simp only [List.length_set] at hpg
  have keep : ∀ (o : Int), (∃ j, ∃ hj : j < C.length, i ≤ j ∧ C[j].kind = 2 ∧ C[j].page = (pg : Int) ∧ C[j].frm = o) → ∃ j, ∃ hj : j < (C ++ (serveF (p : Int) x).2).length, i ≤ j ∧ (C ++ (serveF (p : Int) x).2)[j].kind = 2 ∧ (C ++ (serveF (p : Int) x).2)[j].page = (pg : Int) ∧ (C ++ (serveF (p : Int) x).2)[j].frm = o := fun o ⟨j, hj, h1, h2⟩ =>
    ⟨j, by rw [List.length_append]; omega, h1, by rw [List.getElem_append_left hj]; exact h2⟩
  by_cases e : p = pg
  · subst e
    simp only [List.getElem_set_self] at hcl ⊢
    rcases serve_call (p : Int) hx hcl with ⟨h1, h2⟩ | ⟨t, f, h1⟩
    · rw [h2, (hc h1).2]
      exact keep _ (h p hp (hc h1).1)
    · obtain ⟨j, hj, ej⟩ := List.getElem_of_mem h1
      refine ⟨C.length + j, by rw [List.length_append]; omega, by omega, ?_⟩
      have : (C ++ (serveF (p : Int) x).2)[C.length + j]'(by rw [List.length_append]; omega) = (serveF (p : Int) x).2[j] := by
        rw [List.getElem_append_right (by omega)]
        simp
      rw [this, ej]
      exact ⟨rfl, rfl, rfl⟩
  · rw [List.getElem_set_ne e] at hcl ⊢
    exact keep _ (h pg hpg hcl)
theorem Pend.none {l : List Lf} {C : List Od} {i : Nat} (h : Pend l C i) : Pend l (C ++ []) i := by rw [List.append_nil]; exact h
theorem Pend.need {l : List Lf} {C : List Od} (hok : BkOk l) (h : Pend l C 0) (p k : Int) : Pend (needL l p k).1 (C ++ (needL l p k).2.1) 0 := by
  by_cases h1 : pageB l p = true ∧ instB k = true
  · obtain ⟨i, rfl, hi⟩ := (page_cases l p).resolve_left (by rw [h1.1]; simp)
    by_cases h2 : l[i].owner = k ∨ k ∈ l[i].ws
    · rw [need_twice hi h1.2 h2]; exact h.none
    · rw [need_good hi h1.2 h2]
      exact h.serve (Nat.zero_le _) i hi _ (with_pre (hok.at hi) (inst_iff.1 h1.2) (fun e => h2 (.inl e)) (fun e => h2 (.inr e))) (fun e => ⟨e, rfl⟩)
  · rw [need_arg h1]; exact h.none
theorem Pend.back {l : List Lf} {C : List Od} (hok : BkOk l) (h : Pend l C 0) (p k : Int) : Pend (backL l p k).1 (C ++ (backL l p k).2.1) 0 := by
  by_cases h1 : pageB l p = true ∧ instB k = true
  · obtain ⟨i, rfl, hi⟩ := (page_cases l p).resolve_left (by rw [h1.1]; simp)
    by_cases h2 : l[i].owner = k
    · rw [back_good hi h1.2 h2]
      exact h.serve (Nat.zero_le _) i hi _ (leave_pre (hok.at hi) false) (fun e => by simp [leaveF] at e)
    · rw [back_state hi h1.2 h2]; exact h.none
  · rw [back_arg h1]; exact h.none
theorem Pend.mend {l : List Lf} {C : List Od} (hok : BkOk l) (h : Pend l C 0) (p : Int) : Pend (mendL l p).1 (C ++ (mendL l p).2.1) 0 := by
  by_cases h1 : pageB l p = true
  · obtain ⟨i, rfl, hi⟩ := (page_cases l p).resolve_left (by rw [h1]; simp)
    cases h2 : l[i].lost
    · rw [mend_state hi h2]; exact h.none
    · rw [mend_good hi h2]
      exact h.serve (Nat.zero_le _) i hi _ (leave_pre (hok.at hi) false) (fun e => by simp [leaveF] at e)
  · rw [mend_arg h1]; exact h.none
theorem Pend.fail {l : List Lf} {C : List Od} (h : Pend l C 0) (k : Int) : Pend (failL l k) C 0 := by
  unfold failL
  split
  · intro pg hp hc
    simp only [List.length_map] at hp
    rw [List.getElem_map] at hc ⊢
    unfold failF at hc ⊢
    split at hc
    · simp [quitF, leaveF] at hc
    · rename_i hno
      rw [if_neg hno]
      exact h pg hp hc
  · exact h
def AllOd (m : Nat) (C : List Od) : Prop := ∀ o ∈ C, OdOk m o
theorem AllOd.append {m : Nat} {C D : List Od} (h : AllOd m C) (h2 : AllOd m D) : AllOd m (C ++ D) := fun o ho => (List.mem_append.1 ho).elim (h o) (h2 o)
theorem need_od {l : List Lf} (hok : BkOk l) (p k : Int) : AllOd l.length (needL l p k).2.1 ∧ (needL l p k).2.1.length ≤ 2 := by
  by_cases h1 : pageB l p = true ∧ instB k = true
  · obtain ⟨i, rfl, hi⟩ := (page_cases l p).resolve_left (by rw [h1.1]; simp)
    by_cases h2 : l[i].owner = k ∨ k ∈ l[i].ws
    · rw [need_twice hi h1.2 h2]; exact ⟨fun o ho => by simp at ho, by simp⟩
    · rw [need_good hi h1.2 h2]
      exact ⟨serve_od i hi (with_pre (hok.at hi) (inst_iff.1 h1.2) (fun e => h2 (.inl e)) (fun e => h2 (.inr e))), serve_two _⟩
  · rw [need_arg h1]; exact ⟨fun o ho => by simp at ho, by simp⟩
theorem back_od {l : List Lf} (hok : BkOk l) (p k : Int) : AllOd l.length (backL l p k).2.1 ∧ (backL l p k).2.1.length ≤ 2 := by
  by_cases h1 : pageB l p = true ∧ instB k = true
  · obtain ⟨i, rfl, hi⟩ := (page_cases l p).resolve_left (by rw [h1.1]; simp)
    by_cases h2 : l[i].owner = k
    · rw [back_good hi h1.2 h2]
      exact ⟨serve_od i hi (leave_pre (hok.at hi) false), serve_two _⟩
    · rw [back_state hi h1.2 h2]; exact ⟨fun o ho => by simp at ho, by simp⟩
  · rw [back_arg h1]; exact ⟨fun o ho => by simp at ho, by simp⟩
theorem mend_od {l : List Lf} (hok : BkOk l) (p : Int) : AllOd l.length (mendL l p).2.1 ∧ (mendL l p).2.1.length ≤ 2 := by
  by_cases h1 : pageB l p = true
  · obtain ⟨i, rfl, hi⟩ := (page_cases l p).resolve_left (by rw [h1]; simp)
    cases h2 : l[i].lost
    · rw [mend_state hi h2]; exact ⟨fun o ho => by simp at ho, by simp⟩
    · rw [mend_good hi h2]
      exact ⟨serve_od i hi (leave_pre (hok.at hi) false), serve_two _⟩
  · rw [mend_arg h1]; exact ⟨fun o ho => by simp at ho, by simp⟩

/-- One whole state: the book and the row of orders. -/
structure Run (m : Nat) (l : List Lf) (C : List Od) : Prop where
  len : l.length = m
  ok : BkOk l
  pend : Pend l C 0
  od : AllOd m C
theorem Run.need {m : Nat} {l : List Lf} {C : List Od} (h : Run m l C) (p k : Int) : Run m (needL l p k).1 (C ++ (needL l p k).2.1) :=
  ⟨by rw [need_len]; exact h.len, need_ok h.ok p k, h.pend.need h.ok p k, h.od.append (by have := (need_od h.ok p k).1; rwa [h.len] at this)⟩
theorem Run.back {m : Nat} {l : List Lf} {C : List Od} (h : Run m l C) (p k : Int) : Run m (backL l p k).1 (C ++ (backL l p k).2.1) :=
  ⟨by rw [back_len]; exact h.len, back_ok h.ok p k, h.pend.back h.ok p k, h.od.append (by have := (back_od h.ok p k).1; rwa [h.len] at this)⟩
theorem Run.mend {m : Nat} {l : List Lf} {C : List Od} (h : Run m l C) (p : Int) : Run m (mendL l p).1 (C ++ (mendL l p).2.1) :=
  ⟨by rw [mend_len]; exact h.len, mend_ok h.ok p, h.pend.mend h.ok p, h.od.append (by have := (mend_od h.ok p).1; rwa [h.len] at this)⟩
theorem Run.fail {m : Nat} {l : List Lf} {C : List Od} (h : Run m l C) (k : Int) : Run m (failL l k) C :=
  ⟨by rw [fail_len]; exact h.len, fail_ok h.ok k, h.pend.fail k, h.od⟩
theorem Run.start (m : Nat) : Run m (newL m []) [] :=
  ⟨new_len m [], new_ok m [], Pend.start (fun x hx => by simp only [newL, List.mem_map] at hx; obtain ⟨i, -, rfl⟩ := hx; rfl) _ _, fun o ho => by simp at ho⟩

/-- The last loop: who is called hands over. -/
structure Last (m : Nat) (l : List Lf) (C : List Od) (i : Nat) : Prop where
  len : l.length = m
  ok : BkOk l
  pend : Pend l C i
  od : AllOd m C
  lost : ∀ x ∈ l, x.lost = false
  few : C.length + 2 * sumW l ≤ 600
  le : i ≤ C.length
/-- What stands there is no call of one who has it: on. -/
theorem Last.skip {m : Nat} {l : List Lf} {C : List Od} {i : Nat} (h : Last m l C i) (hi : i < C.length) (hn : ¬ (C[i].kind = 2 ∧ (lfAt l C[i].page).owner = C[i].frm)) : Last m l C (i + 1) :=
  ⟨h.len, h.ok, fun pg hp hc => by
    obtain ⟨j, hj, h1, h2, h3, h4⟩ := h.pend pg hp hc
    refine ⟨j, hj, ?_, h2, h3, h4⟩
    by_cases e : j = i
    · subst e
      exact absurd ⟨h2, by rw [h3, lfAt_yes hp, h4]⟩ hn
    · omega, h.od, h.lost, h.few, hi⟩
theorem Last.go {m : Nat} {l : List Lf} {C : List Od} {i : Nat} (h : Last m l C i) (hi : i < C.length) (hk : C[i].kind = 2) (hn : (lfAt l C[i].page).owner = C[i].frm) :
    (backL l C[i].page C[i].frm).2.2 = 0 ∧ Last m (backL l C[i].page C[i].frm).1 (C ++ (backL l C[i].page C[i].frm).2.1) (i + 1) := by
  obtain ⟨p0, p1, f0, f1⟩ := h.od _ (List.getElem_mem hi) hk
  have hcp : pageB l C[i].page = true := page_iff.2 ⟨p0, by rw [h.len]; exact p1⟩
  obtain ⟨p, ep, hp⟩ := (page_cases l C[i].page).resolve_left (by rw [hcp]; simp)
  have hki : instB C[i].frm = true := inst_iff.2 ⟨f0, f1⟩
  have hod := back_od h.ok C[i].page C[i].frm
  have hok := back_ok h.ok C[i].page C[i].frm
  have hln := back_len l C[i].page C[i].frm
  rw [ep] at hn hod hok hln ⊢
  rw [lfAt_yes hp] at hn
  rw [back_good hp hki hn] at hod hok hln ⊢
  simp only at hod hok hln ⊢
  have hless := back_less (p : Int) (h.ok.at hp)
  have hsum := sumW_set l p hp (serveF (p : Int) (leaveF false l[p])).1
  refine ⟨trivial, by rw [hln]; exact h.len, hok, ?_, h.od.append (by rw [← h.len]; exact hod.1), fun x hx => ?_, ?_, ?_⟩
  · -- the page that was handed over is served anew; the others have their calls behind
    have hp2 : Pend (l.set p (leaveF false l[p])) C (i + 1) := by
      intro pg hpg hcg
      simp only [List.length_set] at hpg
      by_cases e : p = pg
      · subst e
        simp [leaveF] at hcg
      · rw [List.getElem_set_ne e] at hcg ⊢
        obtain ⟨j, hj, h1, h2, h3, h4⟩ := h.pend pg hpg hcg
        refine ⟨j, hj, ?_, h2, h3, h4⟩
        by_cases ej : j = i
        · subst ej; rw [ep] at h3; omega
        · omega
    have := hp2.serve hi p (by simpa using hp) (leaveF false l[p]) (leave_pre (h.ok.at hp) false) (fun e => by simp [leaveF] at e)
    simpa only [List.set_set] using this
  · rcases List.mem_or_eq_of_mem_set hx with e | e
    · exact h.lost x e
    · subst e
      rw [serve_lost]
      rfl
  · have := h.few
    simp only [List.length_append]
    omega
  · simp only [List.length_append]; omega
theorem Last.done {m : Nat} {l : List Lf} {C : List Od} {i : Nat} (h : Last m l C i) (hi : C.length ≤ i) : ∀ x ∈ l, x.ws = [] ∧ x.lost = false := fun x hx => by
  have hl := h.lost x hx
  refine ⟨?_, hl⟩
  refine Classical.byContradiction fun hw => ?_
  have hc := ((h.ok x hx).waits hw hl).2
  obtain ⟨p, hp, e⟩ := List.getElem_of_mem hx
  subst e
  obtain ⟨j, hj, h1, -⟩ := h.pend p hp hc
  omega
theorem Run.last {m : Nat} {l : List Lf} {C : List Od} (h : Run m l C) (hm : m ≤ 16) (hl : ∀ x ∈ l, x.lost = false) (hc : C.length ≤ 200) : Last m l C 0 :=
  ⟨h.len, h.ok, h.pend, h.od, hl, by have := sumW_le l h.ok; rw [h.len] at this; omega, Nat.zero_le _⟩
end Go.Proofs.Ytdlanenbbmnbhaa
