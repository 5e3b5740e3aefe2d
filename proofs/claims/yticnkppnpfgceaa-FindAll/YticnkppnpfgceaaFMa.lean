/-
  The plain mathematics of what a log leaves: rows by rising key.
-/
import Derived.Test.YticnkppnpfgceaaMFc
namespace Go.Proofs.Yticnkppnpfgceaa.Mg
open Go.RowKit

/-- A transaction that goes on. -/
structure Gt where
  st : Int
  last : Nat
  next : Nat
deriving DecidableEq

section
variable {β : Type}
/-- What stands at a key. -/
def look : List (Int × β) → Int → Option β
  | [], _ => none
  | (k, v) :: r, x => if k = x then some v else look r x
/-- Keys rise. -/
def Ris (l : List (Int × β)) : Prop := (l.map Prod.fst).Pairwise (· < ·)
/-- A row laid, or put in another's place. -/
def putL : List (Int × β) → Int → β → List (Int × β)
  | [], x, v => [(x, v)]
  | (k, u) :: r, x, v => if k < x then (k, u) :: putL r x v else if k = x then (x, v) :: r else (x, v) :: (k, u) :: r
def goneL : List (Int × β) → Int → List (Int × β)
  | [], _ => []
  | (k, u) :: r, x => if k = x then r else (k, u) :: goneL r x
theorem Ris.tail {p : Int × β} {l : List (Int × β)} (h : Ris (p :: l)) : Ris l := (List.pairwise_cons.1 h).2
theorem Ris.low {k : Int} {u : β} {l : List (Int × β)} (h : Ris ((k, u) :: l)) : ∀ p, p ∈ l → k < p.1 := fun p hp => (List.pairwise_cons.1 h).1 p.1 (List.mem_map.2 ⟨p, hp, rfl⟩)
theorem look_none {l : List (Int × β)} {x : Int} (h : ∀ p, p ∈ l → p.1 ≠ x) : look l x = none := by
  induction l with
  | nil => rfl
  | cons p r ih => obtain ⟨k, u⟩ := p; rw [look, if_neg (h (k, u) (by simp)), ih fun q hq => h q (by simp [hq])]
theorem look_some {l : List (Int × β)} {x : Int} {v : β} (h : look l x = some v) : (x, v) ∈ l := by
  induction l with
  | nil => simp [look] at h
  | cons p r ih =>
    obtain ⟨k, u⟩ := p
    rw [look] at h
    by_cases e : k = x
    · rw [if_pos e] at h; simp at h; subst h; subst e; simp
    · rw [if_neg e] at h; simp [ih h]
theorem look_mem {l : List (Int × β)} (h : Ris l) {x : Int} {v : β} (hm : (x, v) ∈ l) : look l x = some v := by
  induction l with
  | nil => simp at hm
  | cons p r ih =>
    obtain ⟨k, u⟩ := p
    rw [look]
    rcases List.mem_cons.1 hm with e | e
    · injection e with e1 e2; subst e1; subst e2; simp
    · have := h.low _ e; rw [if_neg (by simp at this; omega)]; exact ih h.tail e
theorem putL_mem {l : List (Int × β)} {x : Int} {v : β} {p : Int × β} (h : p ∈ putL l x v) : p = (x, v) ∨ p ∈ l := by
  induction l with
  | nil => simp [putL] at h; exact .inl h
  | cons q r ih =>
    obtain ⟨k, u⟩ := q
    rw [putL] at h
    split at h
    · rcases List.mem_cons.1 h with e | e
      · exact .inr (by simp [e])
      · rcases ih e with e | e
        · exact .inl e
        · exact .inr (by simp [e])
    · split at h
      · rcases List.mem_cons.1 h with e | e
        · exact .inl e
        · exact .inr (by simp [e])
      · rcases List.mem_cons.1 h with e | e
        · exact .inl e
        · exact .inr e
theorem putL_ris {l : List (Int × β)} {x : Int} {v : β} (h : Ris l) : Ris (putL l x v) := by
  induction l with
  | nil => simp [putL, Ris]
  | cons q r ih =>
    obtain ⟨k, u⟩ := q
    rw [putL]
    split
    · rename_i hk
      refine List.pairwise_cons.2 ⟨fun y hy => ?_, ih h.tail⟩
      obtain ⟨p, hp, rfl⟩ := List.mem_map.1 hy
      rcases putL_mem hp with e | e
      · rw [e]; exact hk
      · exact h.low p e
    · split
      · rename_i hk e
        subst e
        exact List.pairwise_cons.2 ⟨fun y hy => (List.pairwise_cons.1 h).1 y hy, h.tail⟩
      · rename_i hk e
        refine List.pairwise_cons.2 ⟨fun y hy => ?_, h⟩
        obtain ⟨p, hp, rfl⟩ := List.mem_map.1 hy
        rcases List.mem_cons.1 hp with e2 | e2
        · rw [e2]; simp; omega
        · have := h.low p e2; simp at this ⊢; omega
theorem look_putL {l : List (Int × β)} {x : Int} {v : β} (h : Ris l) (y : Int) : look (putL l x v) y = if y = x then some v else look l y := by
  induction l with
  | nil =>
    simp only [putL, look]
    by_cases e : x = y
    · rw [if_pos e, if_pos e.symm]
    · rw [if_neg e, if_neg (fun h => e h.symm)]
  | cons q r ih =>
    obtain ⟨k, u⟩ := q
    rw [putL]
    split
    · rename_i hk
      rw [look, look, ih h.tail]
      by_cases e : k = y
      · rw [if_pos e, if_pos e, if_neg (by omega)]
      · rw [if_neg e, if_neg e]
    · split
      · rename_i hk e
        subst e
        rw [look, look]
        by_cases e : k = y
        · rw [if_pos e, if_pos e.symm]
        · rw [if_neg e, if_neg (fun h => e h.symm), if_neg e]
      · rename_i hk e
        rw [look]
        by_cases e : x = y
        · rw [if_pos e, if_pos e.symm]
        · rw [if_neg e, if_neg (fun h => e h.symm)]
theorem goneL_mem {l : List (Int × β)} {x : Int} {p : Int × β} (h : p ∈ goneL l x) : p ∈ l := by
  induction l with
  | nil => exact h
  | cons q r ih =>
    obtain ⟨k, u⟩ := q
    rw [goneL] at h
    split at h
    · simp [h]
    · rcases List.mem_cons.1 h with e | e
      · simp [e]
      · simp [ih e]
theorem goneL_ris {l : List (Int × β)} {x : Int} (h : Ris l) : Ris (goneL l x) := by
  induction l with
  | nil => exact h
  | cons q r ih =>
    obtain ⟨k, u⟩ := q
    rw [goneL]
    split
    · exact h.tail
    · refine List.pairwise_cons.2 ⟨fun y hy => ?_, ih h.tail⟩
      obtain ⟨p, hp, rfl⟩ := List.mem_map.1 hy
      exact h.low p (goneL_mem hp)
theorem look_goneL {l : List (Int × β)} {x : Int} (h : Ris l) (y : Int) : look (goneL l x) y = if y = x then none else look l y := by
  induction l with
  | nil => simp [goneL, look]
  | cons q r ih =>
    obtain ⟨k, u⟩ := q
    rw [goneL]
    split
    · rename_i e
      subst e
      rw [look]
      by_cases e : k = y
      · rw [if_pos e.symm]; exact look_none fun p hp => by have := h.low p hp; omega
      · rw [if_neg (fun h => e h.symm), if_neg e]
    · rename_i hk
      rw [look, look, ih h.tail]
      by_cases e : k = y
      · rw [if_pos e, if_pos e, if_neg (by omega)]
      · rw [if_neg e, if_neg e]
theorem goneL_none {l : List (Int × β)} {x : Int} (h : look l x = none) : goneL l x = l := by
  induction l with
  | nil => rfl
  | cons q r ih =>
    obtain ⟨k, u⟩ := q
    rw [look] at h
    rw [goneL]
    by_cases e : k = x
    · rw [if_pos e] at h; cases h
    · rw [if_neg e] at h; rw [if_neg e, ih h]
theorem putL_len (l : List (Int × β)) (x : Int) (v : β) : (putL l x v).length ≤ l.length + 1 := by
  induction l with
  | nil => simp [putL]
  | cons q r ih =>
    obtain ⟨k, u⟩ := q
    rw [putL]
    split
    · simp; omega
    · split <;> simp
theorem goneL_len (l : List (Int × β)) (x : Int) : (goneL l x).length ≤ l.length := by
  induction l with
  | nil => simp [goneL]
  | cons q r ih =>
    obtain ⟨k, u⟩ := q
    rw [goneL]
    split
    · simp
    · simp; omega
/-- Rows that rise are told by what stands at each key. -/
theorem ris_uniq {l m : List (Int × β)} (hl : Ris l) (hm : Ris m) (h : ∀ x, look l x = look m x) : l = m := by
  induction l generalizing m with
  | nil =>
    cases m with
    | nil => rfl
    | cons q r => obtain ⟨k, u⟩ := q; have := h k; simp [look] at this
  | cons p l ih =>
    obtain ⟨k, u⟩ := p
    cases m with
    | nil => have := h k; simp [look] at this
    | cons q m =>
      obtain ⟨j, v⟩ := q
      have e : k = j := by
        have h1 := h k
        have h2 := h j
        rw [look, if_pos rfl] at h1
        rw [look, look, if_pos rfl] at h2
        have a1 := look_some h1.symm
        by_cases e : k = j
        · exact e
        · rw [if_neg e] at h2
          have a2 := look_some h2
          have b2 := hl.low _ a2
          rcases List.mem_cons.1 a1 with c | c
          · injection c
          · have := hm.low _ c; simp at this b2; omega
      subst e
      have h3 := h k
      rw [look, look, if_pos rfl, if_pos rfl] at h3
      injection h3 with h3
      subst h3
      rw [ih hl.tail hm.tail fun x => ?_]
      by_cases e : k = x
      · subst e
        rw [look_none fun p hp => by have := hl.low p hp; omega, look_none fun p hp => by have := hm.low p hp; omega]
      · have := h x
        rw [look, look, if_neg e, if_neg e] at this
        exact this
theorem look_keys {l : List (Int × β)} {x : Int} : look l x ≠ none ↔ x ∈ l.map Prod.fst := by
  induction l with
  | nil => simp [look]
  | cons p r ih =>
    obtain ⟨k, u⟩ := p
    rw [look]
    by_cases e : k = x
    · subst e; simp
    · rw [if_neg e, ih]; simp [show ¬ x = k from fun h => e h.symm]
end

/-- What a log leaves. -/
structure Lf where
  t : List (Int × Gt)
  d : List (Int × Nat)
def Lf.nil : Lf := ⟨[], []⟩
def chg (r : Rc) : Bool := decide (r.kind = 1 ∨ r.kind = 2)
def tellN (r : Rc) : Nat := if r.kind = 2 then r.undo else r.lsn
/-- A page is dirty from an LSN on, if it isn't yet. -/
def soilL (d : List (Int × Nat)) (p : Int) (n : Nat) : List (Int × Nat) := if (look d p).isSome then d else putL d p n
def gt0 : Gt := ⟨0, 0, 0⟩
def behG (g : Gt) (r : Rc) : Gt := ⟨if r.kind = 4 then 2 else g.st, r.lsn, if chg r then tellN r else g.next⟩
def noteL (t : List (Int × Gt)) (r : Rc) : List (Int × Gt) :=
  if r.kind = 7 ∨ r.kind = 8 then t else if r.kind = 3 ∨ r.kind = 5 then goneL t r.txn else putL t r.txn (behG ((look t r.txn).getD gt0) r)
def stepL (x : Lf) (r : Rc) : Lf := ⟨noteL x.t r, if chg r then soilL x.d r.page r.lsn else x.d⟩
def overL (x : Lf) (l : List Rc) : Lf := l.foldl stepL x
/-- The least of the LSNs. -/
def redoL (d : List (Int × Nat)) : Nat := d.foldl (fun n p => if n = 0 ∨ p.2 < n then p.2 else n) 0
/-- Are records a log? -/
def logB (l : List Rc) : Bool := l.all mayB && risB l
structure Lf.Ok (x : Lf) : Prop where
  t : Ris x.t
  d : Ris x.d
theorem Lf.Ok.nil : Lf.nil.Ok := ⟨by simp [Lf.nil, Ris], by simp [Lf.nil, Ris]⟩
theorem soil_ris {d : List (Int × Nat)} {p : Int} {n : Nat} (h : Ris d) : Ris (soilL d p n) := by
  unfold soilL
  split
  · exact h
  · exact putL_ris h
theorem note_ris {t : List (Int × Gt)} {r : Rc} (h : Ris t) : Ris (noteL t r) := by
  unfold noteL
  split
  · exact h
  · split
    · exact goneL_ris h
    · exact putL_ris h
theorem Lf.Ok.step {x : Lf} (h : x.Ok) (r : Rc) : (stepL x r).Ok := by
  refine ⟨note_ris h.t, ?_⟩
  simp only [stepL]
  split
  · exact soil_ris h.d
  · exact h.d
theorem Lf.Ok.over {x : Lf} (h : x.Ok) (l : List Rc) : (overL x l).Ok := by
  induction l generalizing x with
  | nil => exact h
  | cons r l ih => exact ih (h.step r)
theorem overL_snoc (x : Lf) (l : List Rc) (r : Rc) : overL x (l ++ [r]) = stepL (overL x l) r := by simp [overL]
theorem overL_app (x : Lf) (l m : List Rc) : overL x (l ++ m) = overL (overL x l) m := by simp [overL]
theorem soil_len (d : List (Int × Nat)) (p : Int) (n : Nat) : (soilL d p n).length ≤ d.length + 1 := by
  unfold soilL
  split
  · omega
  · exact putL_len _ _ _
theorem note_len (t : List (Int × Gt)) (r : Rc) : (noteL t r).length ≤ t.length + 1 := by
  unfold noteL
  split
  · omega
  · split
    · have := goneL_len t r.txn; omega
    · exact putL_len _ _ _
theorem step_len (x : Lf) (r : Rc) : (stepL x r).t.length ≤ x.t.length + 1 ∧ (stepL x r).d.length ≤ x.d.length + 1 := by
  refine ⟨note_len _ _, ?_⟩
  simp only [stepL]
  split
  · exact soil_len _ _ _
  · omega
theorem over_len (x : Lf) (l : List Rc) : (overL x l).t.length ≤ x.t.length + l.length ∧ (overL x l).d.length ≤ x.d.length + l.length := by
  induction l generalizing x with
  | nil => simp [overL]
  | cons r l ih =>
    have h1 := ih (stepL x r)
    have h2 := step_len x r
    simp only [overL, List.foldl_cons, List.length_cons] at h1 ⊢
    omega
end Go.Proofs.Yticnkppnpfgceaa.Mg
