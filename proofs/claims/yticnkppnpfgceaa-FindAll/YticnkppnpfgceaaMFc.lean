/-
  The plain mathematics of Chain.
-/
import Derived.Test.YticnkppnpfgceaaMFb
namespace Go.Proofs.Yticnkppnpfgceaa.Mg
open Go.RowKit

/-- The record with an LSN. -/
def findL (l : List Rc) (at_ : Nat) : Option Rc := l.find? fun r => decide (r.lsn = at_)
/-- Records, and what comes behind them. -/
def comb (acc : List Rc) (x : List Rc × Int) : List Rc × Int := if x.2 = 0 then (acc ++ x.1, 0) else ([], x.2)
def chainF (l : List Rc) : Nat → Nat → List Rc × Int
  | 0, _ => ([], 0)
  | f + 1, at_ => if at_ = 0 then ([], 0) else match findL l at_ with
    | none => ([], 8)
    | some r => if at_ ≤ r.prev then ([], 1) else comb [r] (chainF l f r.prev)
def chainL (l : List Rc) (at_ : Nat) : List Rc × Int := chainF l (at_ + 1) at_
/-- What Chain should tell. -/
def chainR (l : List Rc) (at_ : Nat) : List Rc × Int := if risB l = true then chainL l at_ else ([], 1)

theorem chainF_any (l : List Rc) : ∀ f g at_, at_ < f → at_ < g → chainF l f at_ = chainF l g at_ := by
  intro f
  induction f with
  | zero => intro g at_ h; omega
  | succ f ih =>
    intro g at_ h1 h2
    cases g with
    | zero => omega
    | succ g =>
      simp only [chainF]
      by_cases h0 : at_ = 0
      · rw [if_pos h0, if_pos h0]
      · rw [if_neg h0, if_neg h0]
        cases findL l at_ with
        | none => rfl
        | some r =>
          simp only
          by_cases hp : at_ ≤ r.prev
          · rw [if_pos hp, if_pos hp]
          · rw [if_neg hp, if_neg hp, ih g r.prev (by omega) (by omega)]
theorem chainL_zero (l : List Rc) : chainL l 0 = ([], 0) := by simp [chainL, chainF]
theorem chainL_none {l : List Rc} {at_ : Nat} (h0 : at_ ≠ 0) (h : findL l at_ = none) : chainL l at_ = ([], 8) := by simp [chainL, chainF, h0, h]
theorem chainL_bad {l : List Rc} {at_ : Nat} {r : Rc} (h0 : at_ ≠ 0) (h : findL l at_ = some r) (hp : at_ ≤ r.prev) : chainL l at_ = ([], 1) := by simp [chainL, chainF, h0, h, hp]
theorem chainL_some {l : List Rc} {at_ : Nat} {r : Rc} (h0 : at_ ≠ 0) (h : findL l at_ = some r) (hp : ¬ at_ ≤ r.prev) : chainL l at_ = comb [r] (chainL l r.prev) := by
  have : chainL l at_ = comb [r] (chainF l at_ r.prev) := by simp [chainL, chainF, h0, h, hp]
  rw [this, chainF_any l at_ (r.prev + 1) r.prev (by omega) (by omega)]
  rfl
theorem comb_nil (x : List Rc × Int) (h : x.2 ≠ 0 → x.1 = []) : comb [] x = x := by
  unfold comb
  obtain ⟨o, e⟩ := x
  by_cases he : e = 0
  · simp [he]
  · have := h he
    simp at this
    simp [he, this]
theorem comb_comb (a b : List Rc) (x : List Rc × Int) : comb a (comb b x) = comb (a ++ b) x := by
  unfold comb
  by_cases he : x.2 = 0
  · simp [he]
  · simp [he]
theorem chain_err (l : List Rc) : ∀ f at_, (chainF l f at_).2 ≠ 0 → (chainF l f at_).1 = [] := by
  intro f
  induction f with
  | zero => intro at_ h; rfl
  | succ f ih =>
    intro at_ h
    simp only [chainF] at h ⊢
    by_cases h0 : at_ = 0
    · rw [if_pos h0]
    · rw [if_neg h0] at h ⊢
      cases hf : findL l at_ with
      | none => rfl
      | some r =>
        rw [hf] at h
        simp only at h ⊢
        by_cases hp : at_ ≤ r.prev
        · rw [if_pos hp]
        · rw [if_neg hp] at h ⊢
          unfold comb at h ⊢
          by_cases he : (chainF l f r.prev).2 = 0
          · rw [if_pos he] at h; simp at h
          · rw [if_neg he]

/-- How many stand at or below. -/
def cnt (l : List Rc) (x : Nat) : Nat := l.countP fun r => decide (r.lsn ≤ x)
theorem cnt_add (l : List Rc) {p c : Nat} (h : p < c) : cnt l p + l.countP (fun r => decide (r.lsn = c)) ≤ cnt l c := by
  unfold cnt
  induction l with
  | nil => simp
  | cons a r ih =>
    simp only [List.countP_cons]
    have h1 : (if decide (a.lsn ≤ p) = true then 1 else 0) + (if decide (a.lsn = c) = true then 1 else 0) ≤ (if decide (a.lsn ≤ c) = true then 1 else 0) := by
      simp only [decide_eq_true_eq]
      split <;> split <;> split <;> omega
    omega
theorem cnt_lt {l : List Rc} {r : Rc} (hr : r ∈ l) {p : Nat} (h : p < r.lsn) : cnt l p + 1 ≤ cnt l r.lsn := by
  have h1 := cnt_add l h
  have h2 : 0 < l.countP (fun x => decide (x.lsn = r.lsn)) := List.countP_pos_iff.2 ⟨r, hr, by simp⟩
  omega
theorem cnt_le (l : List Rc) (x : Nat) : cnt l x ≤ l.length := List.countP_le_length

theorem plc_find {l : List Rc} {at_ k : Nat} (h : Plc l at_ k) (hk : k < l.length) (he : l[k].lsn = at_) : findL l at_ = some l[k] := by
  unfold findL
  rw [List.find?_eq_some_iff_getElem]
  refine ⟨by simp [he], k, hk, rfl, fun j hj => ?_⟩
  have := h.low j (by omega) hj
  simp
  omega
theorem plc_none {l : List Rc} {at_ k : Nat} (hr : RisL l) (h : Plc l at_ k) (he : ∀ hk : k < l.length, l[k].lsn ≠ at_) : findL l at_ = none := by
  unfold findL
  rw [List.find?_eq_none]
  intro r hrm
  obtain ⟨j, hj, rfl⟩ := List.getElem_of_mem hrm
  simp
  intro e
  by_cases hjk : j < k
  · have := h.low j hj hjk; omega
  · have hkl : k < l.length := by omega
    have h1 := h.high k hkl (Nat.le_refl _)
    have h2 := he hkl
    by_cases e2 : j = k
    · subst e2; exact h2 e
    · have := ris_mono hr k j hj (by omega); omega

end Go.Proofs.Yticnkppnpfgceaa.Mg
