/-
  NetPlays: what the program has and what the document has, kept in step.
-/
import Derived.Test.YtfdpmffoajjchaaPe
namespace Go.Proofs.Ytfdpmffoajjchaa
open Go.RowKit Go.Conc

/-- The messages of row k among the items. -/
def at_ (n k : Nat) (x : It) : Bool := decide (rix n x.frm x.tow = some k)
def rowI (n : Nat) (l : List It) (k : Nat) : List Ms := (l.filter (at_ n k)).map It.m
def Val (n : Nat) (l : List It) : Prop := ∀ x, x ∈ l → (rix n x.frm x.tow).isSome = true

theorem pk_row {n k : Nat} {f t : Int} (h : rix n f t = some k) (l : List It) : pkM l f t = rowI n l k := by
  unfold pkM rowI
  congr 1
  apply List.filter_congr
  intro x _
  unfold hit at_
  by_cases e : x.frm = f ∧ x.tow = t
  · rw [decide_eq_true e, decide_eq_true (by rw [e.1, e.2]; exact h)]
  · rw [decide_eq_false e, decide_eq_false (fun q => e (rix_inj q h))]
theorem pk_none {n : Nat} {f t : Int} (h : rix n f t = none) {l : List It} (hv : Val n l) : pkM l f t = [] := by
  unfold pkM
  rw [List.map_eq_nil_iff, List.filter_eq_nil_iff]
  intro x hx e
  have := hv x hx
  simp only [hit, decide_eq_true_eq] at e
  rw [e.1, e.2, h] at this
  simp at this
theorem rowI_send (n : Nat) (l : List It) (x : It) (j : Nat) : rowI n (l ++ [x]) j = rowI n l j ++ (if rix n x.frm x.tow = some j then [x.m] else []) := by
  unfold rowI
  rw [List.filter_append, List.map_append]
  congr 1
  by_cases e : rix n x.frm x.tow = some j
  · simp [at_, e]
  · simp [at_, e]
theorem split_at {l : List It} {i : Nat} (hi : i < l.length) : l = l.take i ++ l[i] :: l.drop (i + 1) := by
  rw [← List.drop_eq_getElem_cons hi, List.take_append_drop]
theorem rowI_take {n k : Nat} {l : List It} {i : Nat} {f t : Int} (hi : i < l.length) (h : rix n f t = some k) (hh : l[i].frm = f ∧ l[i].tow = t) (hno : ∀ (q : Nat) (hq : q < l.length), q < i → ¬ (l[q].frm = f ∧ l[q].tow = t)) :
    rowI n l k = l[i].m :: rowI n (l.take i ++ l.drop (i + 1)) k ∧ ∀ j, j ≠ k → rowI n (l.take i ++ l.drop (i + 1)) j = rowI n l j := by
  have hx : rix n l[i].frm l[i].tow = some k := by rw [hh.1, hh.2]; exact h
  have hz : (l.take i).filter (at_ n k) = [] := by
    rw [List.filter_eq_nil_iff]
    intro x hx e
    obtain ⟨q, hq, rfl⟩ := List.mem_iff_getElem.1 hx
    rw [List.length_take] at hq
    simp only [at_, decide_eq_true_eq, List.getElem_take] at e
    exact hno q (by omega) (by omega) (rix_inj e h)
  refine ⟨?_, fun j hj => ?_⟩
  · unfold rowI
    conv => lhs; rw [split_at hi]
    rw [List.filter_append, List.filter_append, hz, List.filter_cons]
    simp [at_, hx]
  · unfold rowI
    conv => rhs; rw [split_at hi]
    rw [List.filter_append, List.filter_append, List.filter_cons]
    have : at_ n j l[i] = false := by simp only [at_]; exact decide_eq_false (fun e => hj (by rw [hx] at e; injection e with e; exact e.symm))
    rw [this]
    simp
theorem rix_cut {n j : Nat} {p : Int} {x : It} (hp : 1 ≤ p ∧ p ≤ n) (h : rix n x.frm x.tow = some j) : (x.frm = p ↔ j = p.toNat - 1 ∧ x.tow = 0) ∧ (x.tow = p ↔ j = n + (p.toNat - 1)) ∧ (j = p.toNat - 1 → x.frm = p) := by
  unfold rix at h
  repeat (split at h <;> try (simp at h))
  all_goals (refine ⟨⟨fun e => ⟨by omega, by omega⟩, fun e => by omega⟩, ⟨fun e => by omega, fun e => by omega⟩, fun e => by omega⟩)
theorem far_iff {n j : Nat} {p : Int} {x : It} (hp : 1 ≤ p ∧ p ≤ n) (h : rix n x.frm x.tow = some j) : far p x = true ↔ j ≠ p.toNat - 1 ∧ j ≠ n + (p.toNat - 1) := by
  obtain ⟨h1, h2, h3⟩ := rix_cut hp h
  simp only [far, decide_eq_true_eq]
  constructor
  · intro e
    exact ⟨fun q => e.1 (h3 q), fun q => e.2 (h2.2 q)⟩
  · intro e
    exact ⟨fun q => e.1 (h1.1 q).1, fun q => e.2 (h2.1 q)⟩
theorem rowI_cut {n : Nat} {p : Int} {l : List It} (hp : 1 ≤ p ∧ p ≤ n) (j : Nat) : rowI n (cutL l p) j = if j = p.toNat - 1 ∨ j = n + (p.toNat - 1) then [] else rowI n l j := by
  unfold rowI cutL
  rw [List.filter_filter]
  split
  · rename_i hj
    rw [List.map_eq_nil_iff, List.filter_eq_nil_iff]
    intro x hx e
    simp only [Bool.and_eq_true, at_, decide_eq_true_eq] at e
    have := (far_iff hp e.1).1 e.2
    rcases hj with hj | hj
    · exact this.1 hj
    · exact this.2 hj
  · rename_i hj
    congr 1
    apply List.filter_congr
    intro x hx
    by_cases e : rix n x.frm x.tow = some j
    · have := (far_iff hp e).2 ⟨fun q => hj (.inl q), fun q => hj (.inr q)⟩
      simp [at_, e, this]
    · simp [at_, e]
theorem cut_count {n : Nat} {p : Int} (hp : 1 ≤ p ∧ p ≤ n) : ∀ (l : List It), Val n l → (cutL l p).length + ((rowI n l (p.toNat - 1)).length + (rowI n l (n + (p.toNat - 1))).length) = l.length
  | [], _ => by simp [cutL, rowI]
  | x :: l, hv => by
    have ih := cut_count hp l (fun y hy => hv y (List.mem_cons_of_mem _ hy))
    have hx := hv x (List.mem_cons_self ..)
    cases hr : rix n x.frm x.tow with
    | none => rw [hr] at hx; simp at hx
    | some j =>
      have hf := far_iff hp hr
      simp only [cutL, rowI, List.length_map] at ih ⊢
      rw [List.filter_cons, List.filter_cons, List.filter_cons]
      simp only [at_, hr, Option.some.injEq, decide_eq_true_eq] at ih ⊢
      by_cases e1 : j = p.toNat - 1
      · have hff : far p x = false := by cases hq : far p x; rfl; exact absurd e1 (hf.1 hq).1
        have e2 : ¬ j = n + (p.toNat - 1) := by omega
        rw [hff, if_pos e1, if_neg e2]
        simp only [Bool.false_eq_true, if_false, List.length_cons]
        omega
      · by_cases e2 : j = n + (p.toNat - 1)
        · have hff : far p x = false := by cases hq : far p x; rfl; exact absurd e2 (hf.1 hq).2
          rw [hff, if_neg e1, if_pos e2]
          simp only [Bool.false_eq_true, if_false, List.length_cons]
          omega
        · have hff : far p x = true := hf.2 ⟨e1, e2⟩
          rw [hff, if_neg e1, if_neg e2]
          simp only [if_true, List.length_cons]
          omega

structure Sim (w W : World) (s n : Nat) (R : Nat → List Nat) (MM : Nat → Ms) (PL : Nat → Pl) (v : Value) (its : List It) : Prop where
  net : NetOk W s n R
  bel : Below w.heap.size w W
  hs : w.heap.size ≤ s
  msg : ∀ j, j < 2 * n → ∀ b, b ∈ R j → W.heap[b]? = some (.cells (msC (MM b) (PL b)) 31) ∧ Own W w.heap.size (MM b) (PL b) ∧ Lim (MM b)
  d1 : ∀ (j j' i i' b b' : Nat), j < 2 * n → j' < 2 * n → (R j)[i]? = some b → (R j')[i']? = some b' → ¬ (j = j' ∧ i = i') → Disj (PL b) (PL b')
  row : W.ownsRow w.heap.size 82 11 v its.length (itsC its)
  ito : ∀ x, x ∈ its → Own W w.heap.size x.m x.p ∧ Lim x.m
  val : Val n its
  d2 : ∀ j, j < 2 * n → ∀ b, b ∈ R j → ∀ x, x ∈ its → Disj (PL b) x.p
  corr : ∀ k, k < 2 * n → (R k).map MM = rowI n its k
  cnt : sumR n R n = its.length

section
variable {w W W' : World} {s n : Nat} {R : Nat → List Nat} {MM : Nat → Ms} {PL : Nat → Pl} {v : Value} {its : List It}
theorem Sim.below (h : Sim w W s n R MM PL v its) (hb : Below W.heap.size W W') : Sim w W' s n R MM PL v its := by
  have hk := KeepC.below hb
  exact ⟨h.net.below hb, h.bel.trans (hb.mono h.bel.size), h.hs, fun j hj b hm => let ⟨h1, h2, h3⟩ := h.msg j hj b hm; ⟨hk _ _ _ _ h1, h2.keep hk, h3⟩, h.d1, own_keep h.row hk, fun x hx => let ⟨h1, h2⟩ := h.ito x hx; ⟨h1.keep hk, h2⟩, h.val, h.d2, h.corr, h.cnt⟩
/-- The net is used, and nothing changes in it. -/
theorem Sim.same (h : Sim w W s n R MM PL v its) (hN : NetOk W' s n R) (hT : Tn s n W W') : Sim w W' s n R MM PL v its := by
  have hk := hT.keepC h.net
  exact ⟨hN, hT.to h.bel h.hs h.bel.size, h.hs, fun j hj b hm => let ⟨h1, h2, h3⟩ := h.msg j hj b hm; ⟨hk _ _ _ _ h1, h2.keep hk, h3⟩, h.d1, own_keep h.row hk, fun x hx => let ⟨h1, h2⟩ := h.ito x hx; ⟨h1.keep hk, h2⟩, h.val, h.d2, h.corr, h.cnt⟩
/-- Other lists are written over. -/
theorem Sim.spo (h : Sim w W s n R MM PL v its) {C : Nat} {m' : Ms} {q : Pl} (hq : Own W C m' q) (hC : w.heap.size ≤ C) (hs : Spo q W W') (hd : ∀ j, j < 2 * n → ∀ b, b ∈ R j → Disj (PL b) q) (hd' : ∀ x, x ∈ its → Disj x.p q) : Sim w W' s n R MM PL v its := by
  have hfr := own_from hq
  refine ⟨hs.net hq h.net, h.bel.trans ⟨hs.os, hs.tape, hs.output, hs.size, fun k hk => hs.keep k (by have := h.bel.size; omega) (fun x hx e => by have := hfr.1 x hx; omega) (fun x hx e => by have := hfr.2 x hx; omega)⟩, h.hs, fun j hj b hm => ?_, h.d1, ?_, fun x hx => ?_, h.val, h.d2, h.corr, h.cnt⟩
  · obtain ⟨h1, h2, h3⟩ := h.msg j hj b hm
    exact ⟨hs.other hq h1 (by decide) (by decide), h2.spo hq hs (hd j hj b hm), h3⟩
  · exact own_stay h.row (fun k c _ hc => by rw [hc]; exact hs.other hq hc (by decide) (by decide))
  · obtain ⟨h1, h2⟩ := h.ito x hx
    exact ⟨h1.spo hq hs (hd' x hx), h2⟩
theorem Sim.lt (h : Sim w W s n R MM PL v its) {j b : Nat} (hj : j < 2 * n) (hb : b ∈ R j) : b < W.heap.size := (Array.getElem?_eq_some_iff.1 (h.msg j hj b hb).1).1
theorem Sim.len_le (h : Sim w W s n R MM PL v its) : its.length ≤ 4096 := by
  rw [← h.cnt]
  have := sumR_le h.net.len n (Nat.le_refl _)
  have := h.net.n8
  omega
theorem Sim.lens (h : Sim w W s n R MM PL v its) (f t : Int) : lenO R (rix n f t) = (pkM its f t).length := by
  cases hr : rix n f t with
  | none => rw [pk_none hr h.val]; rfl
  | some k =>
    rw [pk_row hr, ← h.corr k (rix_lt hr)]
    simp [lenO]
end

def setM {α : Type} (F : Nat → α) (b : Nat) (x : α) : Nat → α := fun c => if c = b then x else F c
theorem setM_same {α : Type} (F : Nat → α) (b : Nat) (x : α) : setM F b x b = x := by simp [setM]
theorem setM_other {α : Type} (F : Nat → α) (b c : Nat) (x : α) (h : c ≠ b) : setM F b x c = F c := by simp [setM, h]

theorem Sim.send {w W W3 W4 : World} {s n k b : Nat} {R : Nat → List Nat} {MM : Nat → Ms} {PL : Nat → Pl} {v v' : Value} {its : List It} {f t : Int} {m : Ms} {p3 p4 : Pl} {C : Nat} (h : Sim w W s n R MM PL v its) (hr : rix n f t = some k) (hL : Lim m)
    (hb3 : Below W.heap.size W W3) (hrow : W3.ownsRow w.heap.size 82 11 v' (its.length + 1) (itsC (its ++ [⟨f, t, m, p3⟩]))) (ho3 : Own W3 C m p3) (hC : W.heap.size ≤ C)
    (hN : NetOk W4 s n (upd R k (R k ++ [b]))) (hM : W4.heap[b]? = some (.cells (msC m p4) 31)) (ho4 : Own W4 W3.heap.size m p4) (hb : W3.heap.size ≤ b) (hT : Tn s n W3 W4) :
    Sim w W4 s n (upd R k (R k ++ [b])) (setM MM b m) (setM PL b p4) v' (its ++ [⟨f, t, m, p3⟩]) := by
  have hs3 := h.below hb3
  have hk := rix_lt hr
  have hkc := hT.keepC hs3.net
  have hne : ∀ j, j < 2 * n → ∀ c, c ∈ R j → c ≠ b := fun j hj c hc e => by have := h.lt hj hc; have := hb3.size; omega
  have hold : ∀ j, j < 2 * n → ∀ c, c ∈ R j → Till W.heap.size (PL c) := fun j hj c hc => own_till (h.msg j hj c hc).2.1
  have hwz := h.bel.size
  have hz3 := hb3.size
  -- what stands in a row now
  have hmem : ∀ j, ∀ c, c ∈ upd R k (R k ++ [b]) j → (c ∈ R j) ∨ (c = b) := by
    intro j c hc
    by_cases e : j = k
    · subst e
      rw [upd_same] at hc
      rcases List.mem_append.1 hc with q | q
      · exact .inl q
      · exact .inr (by simpa using q)
    · rw [upd_other _ _ _ _ e] at hc
      exact .inl hc
  refine ⟨hN, hT.to hs3.bel hs3.hs hs3.bel.size, h.hs, fun j hj c hc => ?_, ?_, own_keep (by rw [List.length_append]; exact hrow) hkc, fun x hx => ?_, fun x hx => ?_, fun j hj c hc x hx => ?_, fun j hj => ?_, ?_⟩
  · rcases hmem j c hc with q | q
    · rw [setM_other _ _ _ _ (hne j hj c q), setM_other _ _ _ _ (hne j hj c q)]
      obtain ⟨h1, h2, h3⟩ := hs3.msg j hj c q
      exact ⟨hkc _ _ _ _ h1, h2.keep hkc, h3⟩
    · subst q
      rw [setM_same, setM_same]
      exact ⟨hM, ho4.low (by omega), hL⟩
  · intro j j' i i' c c' hj hj' hc hc' hne'
    have pos : ∀ (j i c : Nat), j < 2 * n → (upd R k (R k ++ [b]) j)[i]? = some c → ((R j)[i]? = some c ∧ c ≠ b) ∨ (c = b ∧ j = k ∧ i = (R k).length) := by
      intro j i c hj hc
      by_cases e : j = k
      · subst e
        rw [upd_same] at hc
        by_cases q : i < (R j).length
        · rw [List.getElem?_append_left q] at hc
          exact .inl ⟨hc, hne j hj c (List.mem_iff_getElem?.2 ⟨i, hc⟩)⟩
        · rw [List.getElem?_append_right (by omega)] at hc
          have e1 : i - (R j).length = 0 := by
            have := (List.getElem?_eq_some_iff.1 hc).1
            simp at this
            omega
          rw [e1] at hc
          simp at hc
          exact .inr ⟨hc.symm, rfl, by omega⟩
      · rw [upd_other _ _ _ _ e] at hc
        exact .inl ⟨hc, hne j hj c (List.mem_iff_getElem?.2 ⟨i, hc⟩)⟩
    rcases pos j i c hj hc with ⟨q1, q2⟩ | ⟨q1, q2, q3⟩
    · rcases pos j' i' c' hj' hc' with ⟨r1, r2⟩ | ⟨r1, r2, r3⟩
      · rw [setM_other _ _ _ _ q2, setM_other _ _ _ _ r2]
        exact h.d1 j j' i i' c c' hj hj' q1 r1 hne'
      · subst r1
        rw [setM_other _ _ _ _ q2, setM_same]
        exact disj_of ((hold j hj c (List.mem_iff_getElem?.2 ⟨i, q1⟩)).mono hz3) (own_from ho4)
    · rcases pos j' i' c' hj' hc' with ⟨r1, r2⟩ | ⟨r1, r2, r3⟩
      · subst q1
        rw [setM_other _ _ _ _ r2, setM_same]
        exact (disj_of ((hold j' hj' c' (List.mem_iff_getElem?.2 ⟨i', r1⟩)).mono hz3) (own_from ho4)).symm
      · exact absurd ⟨q2.trans r2.symm, q3.trans r3.symm⟩ hne'
  · rcases List.mem_append.1 hx with q | q
    · obtain ⟨h1, h2⟩ := hs3.ito x q
      exact ⟨h1.keep hkc, h2⟩
    · simp at q
      subst q
      exact ⟨(ho3.low (by omega)).keep hkc, hL⟩
  · rcases List.mem_append.1 hx with q | q
    · exact h.val x q
    · simp at q
      subst q
      show (rix n f t).isSome = true
      rw [hr]
      rfl
  · have hx3 : x ∈ its ∨ x = ⟨f, t, m, p3⟩ := by rcases List.mem_append.1 hx with q | q; exact .inl q; exact .inr (by simpa using q)
    rcases hmem j c hc with q | q
    · rw [setM_other _ _ _ _ (hne j hj c q)]
      rcases hx3 with r | r
      · exact h.d2 j hj c q x r
      · subst r
        exact disj_of ((hold j hj c q).mono hC) (own_from ho3)
    · subst q
      rw [setM_same]
      rcases hx3 with r | r
      · exact (disj_of ((own_till (hs3.ito x r).1)) (own_from ho4)).symm
      · subst r
        exact (disj_of (own_till ho3) (own_from ho4)).symm
  · rw [rowI_send]
    by_cases e : j = k
    · subst e
      rw [upd_same, List.map_append]
      have hr' : rix n (It.mk f t m p3).frm (It.mk f t m p3).tow = some j := hr
      rw [if_pos hr', ← h.corr j hj]
      congr 1
      · apply List.map_congr_left
        intro c hc
        exact setM_other _ _ _ _ (hne j hj c hc)
      · simp [setM_same]
    · rw [upd_other _ _ _ _ e]
      have hr' : ¬ rix n (It.mk f t m p3).frm (It.mk f t m p3).tow = some j := by
        show ¬ rix n f t = some j
        rw [hr]
        intro q
        injection q with q
        exact e q.symm
      rw [if_neg hr', List.append_nil, ← h.corr j hj]
      apply List.map_congr_left
      intro c hc
      exact setM_other _ _ _ _ (hne j hj c hc)
  · have := sumR_set (n := n) (R := R) (k := k) (l := R k ++ [b]) hk
    have h2 := h.cnt
    simp only [List.length_append, List.length_cons, List.length_nil] at this ⊢
    omega

theorem Sim.take {w W W3 W4 : World} {s n k b : Nat} {l : List Nat} {R : Nat → List Nat} {MM : Nat → Ms} {PL : Nat → Pl} {v v' : Value} {its : List It} {f t : Int} {i : Nat} (h : Sim w W s n R MM PL v its) (hr : rix n f t = some k) (hR : R k = b :: l)
    (hi : i < its.length) (hh : its[i].frm = f ∧ its[i].tow = t) (hno : ∀ (q : Nat) (hq : q < its.length), q < i → ¬ (its[q].frm = f ∧ its[q].tow = t))
    (hb3 : Below W.heap.size W W3) (hrow : W3.ownsRow w.heap.size 82 11 v' (i + (its.length - (i + 1))) (itsC (its.take i ++ its.drop (i + 1))))
    (hN : NetOk W4 s n (upd R k l)) (hT : Tn s n W3 W4) :
    Sim w W4 s n (upd R k l) MM PL v' (its.take i ++ its.drop (i + 1)) ∧ its[i].m = MM b ∧ (∀ j, j < 2 * n → ∀ c, c ∈ upd R k l j → Disj (PL c) (PL b)) ∧ (∀ x, x ∈ its.take i ++ its.drop (i + 1) → Disj x.p (PL b)) := by
  have hs3 := h.below hb3
  have hk := rix_lt hr
  have hkc := hT.keepC hs3.net
  obtain ⟨r1, r2⟩ := rowI_take hi hr hh hno
  have hck := h.corr k hk
  rw [hR, r1] at hck
  simp only [List.map_cons, List.cons.injEq] at hck
  have hsub : ∀ x, x ∈ its.take i ++ its.drop (i + 1) → x ∈ its := by
    intro x hx
    rcases List.mem_append.1 hx with q | q
    · exact List.mem_of_mem_take q
    · exact List.mem_of_mem_drop q
  have pos : ∀ (j i c : Nat), (upd R k l j)[i]? = some c → (j = k ∧ (R j)[i + 1]? = some c) ∨ (j ≠ k ∧ (R j)[i]? = some c) := by
    intro j i c hc
    by_cases e : j = k
    · subst e
      rw [upd_same] at hc
      exact .inl ⟨rfl, by rw [hR]; simpa using hc⟩
    · rw [upd_other _ _ _ _ e] at hc
      exact .inr ⟨e, hc⟩
  have hmem : ∀ j, ∀ c, c ∈ upd R k l j → c ∈ R j := by
    intro j c hc
    obtain ⟨i, hi⟩ := List.mem_iff_getElem?.1 hc
    rcases pos j i c hi with ⟨_, q⟩ | ⟨_, q⟩
    · exact List.mem_iff_getElem?.2 ⟨_, q⟩
    · exact List.mem_iff_getElem?.2 ⟨_, q⟩
  have hlen : (its.take i ++ its.drop (i + 1)).length = i + (its.length - (i + 1)) := by
    rw [List.length_append, List.length_take, List.length_drop, Nat.min_eq_left (by omega)]
  have hbm : b ∈ R k := by rw [hR]; exact List.mem_cons_self ..
  refine ⟨⟨hN, hT.to hs3.bel hs3.hs hs3.bel.size, h.hs, fun j hj c hc => ?_, ?_, own_keep (by rw [hlen]; exact hrow) hkc, fun x hx => ?_, fun x hx => h.val x (hsub x hx), fun j hj c hc x hx => h.d2 j hj c (hmem j c hc) x (hsub x hx), fun j hj => ?_, ?_⟩, hck.1.symm, fun j hj c hc => ?_, fun x hx => (h.d2 k hk b hbm x (hsub x hx)).symm⟩
  · obtain ⟨h1, h2, h3⟩ := hs3.msg j hj c (hmem j c hc)
    exact ⟨hkc _ _ _ _ h1, h2.keep hkc, h3⟩
  · intro j j' q q' c c' hj hj' hc hc' hne
    rcases pos j q c hc with ⟨a1, a2⟩ | ⟨a1, a2⟩
    · rcases pos j' q' c' hc' with ⟨b1, b2⟩ | ⟨b1, b2⟩
      · exact h.d1 j j' _ _ c c' hj hj' a2 b2 (fun e => hne ⟨e.1, by omega⟩)
      · exact h.d1 j j' _ _ c c' hj hj' a2 b2 (fun e => b1 (e.1 ▸ a1))
    · rcases pos j' q' c' hc' with ⟨b1, b2⟩ | ⟨b1, b2⟩
      · exact h.d1 j j' _ _ c c' hj hj' a2 b2 (fun e => a1 (e.1.trans b1))
      · exact h.d1 j j' _ _ c c' hj hj' a2 b2 hne
  · obtain ⟨h1, h2⟩ := hs3.ito x (hsub x hx)
    exact ⟨h1.keep hkc, h2⟩
  · by_cases e : j = k
    · subst e
      rw [upd_same]
      exact hck.2
    · rw [upd_other _ _ _ _ e, r2 j e]
      exact h.corr j hj
  · have h1 := sumR_set (n := n) (R := R) (k := k) (l := l) hk
    rw [hR] at h1
    have h2 := h.cnt
    rw [hlen]
    simp at h1
    omega
  · obtain ⟨q, hq⟩ := List.mem_iff_getElem?.1 hc
    rcases pos j q c hq with ⟨a1, a2⟩ | ⟨a1, a2⟩
    · exact h.d1 j k (q + 1) 0 c b hj hk a2 (by rw [hR]; rfl) (fun e => by have := e.2; omega)
    · exact h.d1 j k q 0 c b hj hk a2 (by rw [hR]; rfl) (fun e => a1 e.1)

theorem Sim.cut {w W W3 W4 : World} {s n : Nat} {R : Nat → List Nat} {MM : Nat → Ms} {PL : Nat → Pl} {v v' : Value} {its : List It} {p : Int} (h : Sim w W s n R MM PL v its) (hp : 1 ≤ p ∧ p ≤ n)
    (hb3 : Below W.heap.size W W3) (hrow : W3.ownsRow w.heap.size 82 11 v' (cutL its p).length (itsC (cutL its p))) (hN : NetOk W4 s n (cutR n R p)) (hT : Tn s n W3 W4) :
    Sim w W4 s n (cutR n R p) MM PL v' (cutL its p) ∧ its.length - (cutL its p).length = cutN n R p := by
  have hs3 := h.below hb3
  have hkc := hT.keepC hs3.net
  have hsub : ∀ x, x ∈ cutL its p → x ∈ its := fun x hx => (List.mem_filter.1 hx).1
  have pos : ∀ (j i c : Nat), (cutR n R p j)[i]? = some c → (R j)[i]? = some c := by
    intro j i c hc
    unfold cutR at hc
    rw [if_pos hp] at hc
    unfold upd at hc
    split at hc
    · simp at hc
    · split at hc
      · simp at hc
      · exact hc
  have hmem : ∀ j, ∀ c, c ∈ cutR n R p j → c ∈ R j := by
    intro j c hc
    obtain ⟨i, hi⟩ := List.mem_iff_getElem?.1 hc
    exact List.mem_iff_getElem?.2 ⟨i, pos j i c hi⟩
  have hcc := cut_count hp its h.val
  have k1 : p.toNat - 1 < 2 * n := by omega
  have k2 : n + (p.toNat - 1) < 2 * n := by omega
  rw [← h.corr _ k1, ← h.corr _ k2, List.length_map, List.length_map] at hcc
  have hcn : cutN n R p = (R (p.toNat - 1)).length + (R (n + (p.toNat - 1))).length := by unfold cutN; rw [if_pos hp]
  refine ⟨⟨hN, hT.to hs3.bel hs3.hs hs3.bel.size, h.hs, fun j hj c hc => ?_, fun j j' i i' c c' hj hj' hc hc' hne => h.d1 j j' i i' c c' hj hj' (pos _ _ _ hc) (pos _ _ _ hc') hne, own_keep hrow hkc, fun x hx => ?_, fun x hx => h.val x (hsub x hx), fun j hj c hc x hx => h.d2 j hj c (hmem j c hc) x (hsub x hx), fun j hj => ?_, ?_⟩, by omega⟩
  · obtain ⟨h1, h2, h3⟩ := hs3.msg j hj c (hmem j c hc)
    exact ⟨hkc _ _ _ _ h1, h2.keep hkc, h3⟩
  · obtain ⟨h1, h2⟩ := hs3.ito x (hsub x hx)
    exact ⟨h1.keep hkc, h2⟩
  · rw [rowI_cut hp]
    unfold cutR
    rw [if_pos hp]
    by_cases e1 : j = n + (p.toNat - 1)
    · subst e1
      rw [upd_same, if_pos (.inr rfl)]
      rfl
    · rw [upd_other _ _ _ _ e1]
      by_cases e2 : j = p.toNat - 1
      · subst e2
        rw [upd_same, if_pos (.inl rfl)]
        rfl
      · rw [upd_other _ _ _ _ e2, if_neg (fun q => by rcases q with q | q; exact e2 q; exact e1 q)]
        exact h.corr j hj
  · have e1 := sumR_set (n := n) (R := R) (k := p.toNat - 1) (l := []) k1
    have e2 := sumR_set (n := n) (R := upd R (p.toNat - 1) []) (k := n + (p.toNat - 1)) (l := []) k2
    rw [upd_other _ _ _ _ (by omega)] at e2
    simp only [List.length_nil, Nat.add_zero] at e1 e2
    unfold cutR
    rw [if_pos hp]
    have := h.cnt
    omega

end Go.Proofs.Ytfdpmffoajjchaa
