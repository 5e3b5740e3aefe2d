/-
  The plain mathematics of who goes on behind a log.
-/
import Derived.Test.YticnkppnpfgceaaFCj
namespace Go.Proofs.Yticnkppnpfgceaa.Mg
open Go.RowKit

/-- The last record of a transaction that goes on; 0: it doesn't. -/
def lastF (id : Int) (n : Nat) (r : Rc) : Nat := if r.txn ≠ id ∨ r.kind = 7 ∨ r.kind = 8 then n else if r.kind = 3 ∨ r.kind = 5 then 0 else r.lsn
def lastL (l : List Rc) (id : Int) : Nat := l.foldl (lastF id) 0
theorem lastL_snoc (l : List Rc) (id : Int) (r : Rc) : lastL (l ++ [r]) id = lastF id (lastL l id) r := by unfold lastL; rw [List.foldl_append]; rfl
/-- What a row's last record is. -/
def lastO (o : Option Gt) : Nat := match o with
  | some g => g.last
  | none => 0
theorem look_note {t : List (Int × Gt)} (h : Ris t) (r : Rc) (id : Int) : lastO (look (noteL t r) id) = lastF id (lastO (look t id)) r := by
  unfold noteL lastF
  by_cases h7 : r.kind = 7 ∨ r.kind = 8
  · rw [if_pos h7, if_pos (.inr h7)]
  · rw [if_neg h7]
    by_cases e : r.txn = id
    · rw [if_neg (show ¬ (r.txn ≠ id ∨ r.kind = 7 ∨ r.kind = 8) from by rintro (h | h); exact h e; exact h7 h)]
      by_cases h3 : r.kind = 3 ∨ r.kind = 5
      · rw [if_pos h3, if_pos h3, look_goneL h, if_pos e.symm]; rfl
      · rw [if_neg h3, if_neg h3, look_putL h, if_pos e.symm]; rfl
    · rw [if_pos (show r.txn ≠ id ∨ r.kind = 7 ∨ r.kind = 8 from .inl e)]
      by_cases h3 : r.kind = 3 ∨ r.kind = 5
      · rw [if_pos h3, look_goneL h, if_neg (fun h => e h.symm)]
      · rw [if_neg h3, look_putL h, if_neg (fun h => e h.symm)]
theorem look_over_t {x : Lf} (h : x.Ok) (l : List Rc) (id : Int) : lastO (look (overL x l).t id) = l.foldl (lastF id) (lastO (look x.t id)) := by
  induction l generalizing x with
  | nil => rfl
  | cons r l ih =>
    show lastO (look (overL (stepL x r) l).t id) = _
    rw [ih (h.step r), List.foldl_cons, ← look_note h.t r id]
    rfl
theorem last_all {l : List Rc} (h : logB l = true) (id : Int) : lastO (look (allX l).t id) = lastL l id := by
  have e : allX l = overL Lf.nil l := by simp [allX, h]
  rw [e, look_over_t Lf.Ok.nil]
  rfl
theorem all_ok (l : List Rc) : (allX l).Ok := by
  unfold allX
  split
  · exact Lf.Ok.nil.over l
  · exact Lf.Ok.nil
/-- What a search through rows finds. -/
def foundF (id : Int) (n : Nat) (p : Int × Gt) : Nat := if p.1 = id then p.2.last else n
def foundL (t : List (Int × Gt)) (id : Int) : Nat := t.foldl (foundF id) 0
theorem foundL_snoc (t : List (Int × Gt)) (id : Int) (p : Int × Gt) : foundL (t ++ [p]) id = foundF id (foundL t id) p := by unfold foundL; rw [List.foldl_append]; rfl
theorem found_none {t : List (Int × Gt)} {id : Int} {n : Nat} (h : ∀ p, p ∈ t → p.1 ≠ id) : t.foldl (foundF id) n = n := by
  induction t generalizing n with
  | nil => rfl
  | cons p t ih =>
    rw [List.foldl_cons, show foundF id n p = n from if_neg (h p (by simp)), ih fun q hq => h q (by simp [hq])]
theorem found_look {t : List (Int × Gt)} (h : Ris t) (id : Int) (n : Nat) : t.foldl (foundF id) n = match look t id with | some g => g.last | none => n := by
  induction t generalizing n with
  | nil => rfl
  | cons p t ih =>
    obtain ⟨k, g⟩ := p
    rw [List.foldl_cons, look]
    by_cases e : k = id
    · subst e
      rw [if_pos rfl, show foundF k n (k, g) = g.last from if_pos rfl]
      exact found_none fun q hq => by have := h.low q hq; omega
    · rw [if_neg e, show foundF id n (k, g) = n from if_neg e]
      exact ih h.tail n
theorem found_all {l : List Rc} (h : logB l = true) (id : Int) : foundL (allX l).t id = lastL l id := by
  unfold foundL
  rw [found_look (all_ok l).t, ← last_all h]
  cases look (allX l).t id <;> rfl
end Go.Proofs.Yticnkppnpfgceaa.Mg
