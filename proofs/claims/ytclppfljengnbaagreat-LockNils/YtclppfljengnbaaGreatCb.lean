/-
  Cells of a table in memory; single stores; rows of those who wait, linked both ways.
-/
import Derived.Test.YtclppfljengnbaaGreatMm
namespace Go.Proofs.YtclppfljengnbaaGreat
open Go.RowKit Go.Maps

theorem upd_self {α β : Type} (f : α → β) (k : α) : upd f k (f k) = f := by
  funext x
  by_cases e : x = k
  · subst e; rw [upd_same]
  · rw [upd_other _ _ e]
theorem upd_self' {α β : Type} {f : α → β} {k : α} {v : β} (h : f k = v) : upd f k v = f := by rw [← h, upd_self]

theorem bnext {a b c : World} (h : Below a.heap.size a b) (k : Below b.heap.size b c) : Below a.heap.size a c := h.trans (k.mono h.size)
theorem lt_of_heap {w : World} {b : Nat} {o : Obj} (h : w.heap[b]? = some o) : b < w.heap.size := (Array.getElem?_eq_some_iff.1 h).1

theorem WaitOk.cells {w : World} {b : Nat} {x : Nd} {a c : Option Nat} (h : WaitOk w b x a c) : w.cell? ⟨b, 0, none⟩ = some (.int .i64 x.t) ∧ w.cell? ⟨b, 1, none⟩ = some (nmV x.n) ∧ w.cell? ⟨b, 2, none⟩ = some (.int .i64 ((x.m : Nat) : Int)) ∧
    w.cell? ⟨b, 3, none⟩ = some (.int .i64 ((x.had : Nat) : Int)) ∧ w.cell? ⟨b, 4, none⟩ = some (ptr a) ∧ w.cell? ⟨b, 5, none⟩ = some (ptr c) ∧ w.frozen? ⟨b, 4, none⟩ = false ∧ w.frozen? ⟨b, 5, none⟩ = false := by
  unfold WaitOk at h
  simp [World.cell?, World.frozen?, h]
theorem PartyOk.cells {KN : List Lit} {w : World} {own : Nat → Tag} {t : Int} {b pm : Nat} {pw : Option Nat} {ph : Name → Nat} (h : PartyOk KN w own t b pm pw ph) : w.cell? ⟨b, 0, none⟩ = some (.map (some pm)) ∧ w.cell? ⟨b, 1, none⟩ = some (ptr pw) ∧ w.frozen? ⟨b, 1, none⟩ = false := by
  have := h.blk
  simp [World.cell?, World.frozen?, this]
theorem LockOk.cells {KT : List Lit} {w : World} {own : Nat → Tag} {n : Name} {b : Nat} {lm : Nat → Option Nat} {lh : Nat → Int → Bool} {eb ls : Nat} (h : LockOk KT w own n b lm lh eb ls) :
    w.cell? ⟨b, 0, none⟩ = some (nmV n) ∧ w.cell? ⟨b, 1, none⟩ = some (.map (lm 0)) ∧ w.cell? ⟨b, 2, none⟩ = some (.map (lm 1)) ∧ w.cell? ⟨b, 3, none⟩ = some (.map (lm 2)) ∧ w.cell? ⟨b, 4, none⟩ = some (.map (lm 3)) ∧ w.cell? ⟨b, 5, none⟩ = some (.map (lm 4)) ∧
    w.cell? ⟨b, 6, none⟩ = some (.map (lm 5)) ∧ w.cell? ⟨b, 7, none⟩ = some (ptr (some eb)) ∧ w.cell? ⟨b, 8, none⟩ = some (ptr (some ls)) := by
  have := h.blk
  simp [World.cell?, this]
theorem LockOk.free {KT : List Lit} {w : World} {own : Nat → Tag} {n : Name} {b : Nat} {lm : Nat → Option Nat} {lh : Nat → Int → Bool} {eb ls : Nat} (h : LockOk KT w own n b lm lh eb ls) (i : Nat) : w.frozen? ⟨b, i, none⟩ = false := by
  have := h.blk
  simp [World.frozen?, this]
theorem Mem.cellsT {KT KN : List Lit} {w : World} {σ : Sg} (h : Mem KT KN w σ) : w.cell? ⟨σ.T, 0, none⟩ = some (.map (some σ.A)) ∧ w.cell? ⟨σ.T, 1, none⟩ = some (.map (some σ.B)) := by
  have := h.hT
  simp [World.cell?, this]

section
variable {KT KN : List Lit} {w w' : World} {σ : Sg}

theorem Mem.setAh {b : Nat} (h : Mem KT KN w σ) (hb : IsW (σ.own b)) (v : Option Nat) : Mem KT KN (w.setCell ⟨b, 4, none⟩ (ptr v)) { σ with ah := upd σ.ah b v } := by
  have := h.chW hb (Turn.setCell w ⟨b, 4, none⟩ (ptr v)) (a := v) (c := σ.bh b) (by
    have h1 := h.hW b hb
    unfold WaitOk at h1 ⊢
    rw [heap_setCell_same w b 4 _ _ _ h1]
    simp)
  rw [upd_self] at this
  exact this
theorem Mem.setBh {b : Nat} (h : Mem KT KN w σ) (hb : IsW (σ.own b)) (v : Option Nat) : Mem KT KN (w.setCell ⟨b, 5, none⟩ (ptr v)) { σ with bh := upd σ.bh b v } := by
  have := h.chW hb (Turn.setCell w ⟨b, 5, none⟩ (ptr v)) (a := σ.ah b) (c := v) (by
    have h1 := h.hW b hb
    unfold WaitOk at h1 ⊢
    rw [heap_setCell_same w b 5 _ _ _ h1]
    simp)
  rw [upd_self] at this
  exact this
theorem Mem.setPw {b : Nat} {q : Int} (h : Mem KT KN w σ) (hb : σ.pb q = some b) (v : Option Nat) : Mem KT KN (w.setCell ⟨b, 1, none⟩ (ptr v)) { σ with pw := upd σ.pw q v } :=
  h.chP hb (Turn.setCell w ⟨b, 1, none⟩ (ptr v)) (by
    rw [heap_setCell_same w b 1 _ _ _ (h.hP q b hb).blk]
    simp)
theorem Mem.setLs {b : Nat} {n : Name} (h : Mem KT KN w σ) (hb : σ.lb n = some b) (x : Nat) : Mem KT KN (w.setCell ⟨b, 8, none⟩ (ptr (some x))) { σ with ls := upd σ.ls n x } :=
  h.chLs hb (Turn.setCell w ⟨b, 8, none⟩ (ptr (some x))) (by
    rw [heap_setCell_same w b 8 _ _ _ (h.hL n b hb).blk]
    simp)

/-- A lock's block is turned. -/
theorem Mem.chL {b : Nat} {n : Name} (h : Mem KT KN w σ) (hb : σ.lb n = some b) (t : Turn (fun i => i = b) w w') {lm : Nat → Option Nat} {lh : Nat → Int → Bool} {eb ls : Nat}
    (hw : LockOk KT w' σ.own n b lm lh eb ls) : Mem KT KN w' { σ with lm := upd σ.lm n lm, lh := upd σ.lh n lh, eb := upd σ.eb n eb, ls := upd σ.ls n ls } := by
  have hp := h.hL n b hb
  have e : ∀ i x, σ.own i = x → x ≠ .L n → x ≠ .no → w'.heap[i]? = w.heap[i]? := fun i x hi hx h0 => t.block i (h.lt i (by rw [hi]; exact h0)) (tag_ne hi hp.tag hx)
  refine ⟨h.kt, h.kn, fun b hb => Nat.lt_of_lt_of_le (h.lt b hb) t.size, h.tT, h.tA, h.tB, (e _ _ h.tT (by simp) (by simp)).trans h.hT, h.hA.at (e _ _ h.tA (by simp) (by simp)), h.hB.at (e _ _ h.tB (by simp) (by simp)),
    fun q' c hc => (h.hP q' c hc).at rfl rfl (e _ _ (h.hP q' c hc).tag (by simp) (by simp)) (e _ _ (h.hP q' c hc).tagm (by simp) (by simp)),
    fun n' c hc => ?_,
    fun i hi => (e i _ rfl (fun e1 => by have hi : IsW (σ.own i) := hi; rw [e1] at hi; exact hi) (fun e1 => by have hi : IsW (σ.own i) := hi; rw [e1] at hi; exact hi)).trans (h.hW i hi)⟩
  have hc : σ.lb n' = some c := hc
  show LockOk KT w' σ.own n' c (upd σ.lm n lm n') (upd σ.lh n lh n') (upd σ.eb n eb n') (upd σ.ls n ls n')
  by_cases eq : n' = n
  · subst eq
    obtain rfl : c = b := by rw [hc] at hb; exact Option.some.inj hb
    rw [upd_same, upd_same, upd_same, upd_same]
    exact hw
  · rw [upd_other _ _ eq, upd_other _ _ eq, upd_other _ _ eq, upd_other _ _ eq]
    exact (h.hL n' c hc).at (fun _ _ => rfl) (fun i hi => by
      rcases hi with hi | ⟨m, hi⟩
      · exact e i _ hi (fun e1 => eq (by injection e1)) (by simp)
      · exact e i _ hi (by simp) (by simp))

theorem Step.set {i : Nat} (hi : σ.own i ≠ .no) {k : Nat} {v : Value} {σ' : Sg} (ho : σ'.own = σ.own) (ht : σ'.T = σ.T) : Step w σ (w.setCell ⟨i, k, none⟩ v) σ' :=
  ⟨(Turn.setCell w ⟨i, k, none⟩ v).mono fun j hj => .inl (by rw [hj]; exact hi), fun j hj => .inl (by rw [← ho]; exact hj), ht, fun j _ => by rw [ho]⟩
theorem Step.of_turn {i : Nat} (hi : σ.own i ≠ .no) (t : Turn (fun j => j = i) w w') {σ' : Sg} (ho : σ'.own = σ.own) (ht : σ'.T = σ.T) : Step w σ w' σ' :=
  ⟨t.mono fun j hj => .inl (by rw [hj]; exact hi), fun j hj => .inl (by rw [← ho]; exact hj), ht, fun j _ => by rw [ho]⟩
end

/-- Linked both ways, one behind the other. -/
def Lk (ah bh : Nat → Option Nat) : List Nat → Prop
  | x :: y :: r => bh x = some y ∧ ah y = some x ∧ Lk ah bh (y :: r)
  | _ => True
theorem Lk.upd {ah bh ah' bh' : Nat → Option Nat} : ∀ {l : List Nat}, Lk ah bh l → (∀ x, x ∈ l.dropLast → bh' x = bh x) → (∀ y, y ∈ l.tail → ah' y = ah y) → Lk ah' bh' l
  | [], _, _, _ => trivial
  | [_], _, _, _ => trivial
  | x :: y :: r, ⟨h1, h2, h3⟩, hb, ha => ⟨(hb x (by simp)).trans h1, (ha y (by simp)).trans h2, h3.upd (fun z hz => hb z (by simp; exact .inr hz)) (fun z hz => ha z (by simp at hz ⊢; exact .inr hz))⟩
theorem Lk.append {ah bh : Nat → Option Nat} {x : Nat} {r : List Nat} : ∀ {l : List Nat}, Lk ah bh (l ++ x :: r) ↔ Lk ah bh (l ++ [x]) ∧ Lk ah bh (x :: r)
  | [] => by simp [Lk]
  | [y] => by simp [Lk, and_assoc]
  | y :: z :: l => by
    have := Lk.append (ah := ah) (bh := bh) (x := x) (r := r) (l := z :: l)
    simp only [List.cons_append, Lk] at this ⊢
    rw [this]
    simp [and_assoc]

/-- The row q of a name, between its end e and its end e. -/
def Ring (ah bh : Nat → Option Nat) (e : Nat) (q : List Nat) : Prop := Lk ah bh (e :: (q ++ [e]))
/-- Who stands ahead of those behind q; who stands first of q. -/
def lastOr (e : Nat) (q : List Nat) : Nat := (e :: q).getLast (by simp)
def headOr (e : Nat) (q : List Nat) : Nat := q.headD e
theorem lastOr_split (e : Nat) (q : List Nat) : (e :: q).dropLast ++ [lastOr e q] = e :: q := List.dropLast_concat_getLast (by simp)
theorem headOr_split (e : Nat) (q : List Nat) : headOr e q :: (q ++ [e]).tail = q ++ [e] := by cases q <;> simp [headOr]
theorem lastOr_mem (e : Nat) (q : List Nat) : lastOr e q ∈ e :: q := List.getLast_mem _
theorem headOr_mem (e : Nat) (q : List Nat) : headOr e q = e ∨ headOr e q ∈ q := by cases q <;> simp [headOr]
theorem lastOr_append (e z : Nat) (q : List Nat) : lastOr e (q ++ [z]) = z := by
  unfold lastOr
  rw [List.getLast_cons (by simp)]
  simp
theorem last_drop {e : Nat} {q : List Nat} (h : (e :: q).Nodup) {u : Nat} (hu : u ∈ (e :: q).dropLast) : u ≠ lastOr e q := fun e1 => by
  rw [← lastOr_split e q] at h
  exact (List.nodup_append.1 h).2.2 u hu (lastOr e q) (by simp) e1

theorem Ring.split {ah bh : Nat → Option Nat} {e : Nat} {q r : List Nat} : Ring ah bh e (q ++ r) ↔ Lk ah bh (e :: q) ∧ bh (lastOr e q) = some (headOr e r) ∧ ah (headOr e r) = some (lastOr e q) ∧ Lk ah bh (r ++ [e]) := by
  have e1 : e :: (q ++ r ++ [e]) = (e :: q).dropLast ++ lastOr e q :: (r ++ [e]) := by
    have e2 : (e :: q).dropLast ++ lastOr e q :: (r ++ [e]) = ((e :: q).dropLast ++ [lastOr e q]) ++ (r ++ [e]) := by simp
    rw [e2, lastOr_split]
    simp
  unfold Ring
  rw [e1, Lk.append, lastOr_split, ← headOr_split e r]
  rfl

theorem Ring.put {ah bh : Nat → Option Nat} {e z : Nat} {q r : List Nat} (h : Ring ah bh e (q ++ r)) (hd : (e :: (q ++ r)).Nodup) (hz : z ∉ e :: (q ++ r)) :
    Ring (upd (upd ah z (some (lastOr e q))) (headOr e r) (some z)) (upd (upd bh z (some (headOr e r))) (lastOr e q) (some z)) e (q ++ z :: r) := by
  obtain ⟨h1, h2, h3, h4⟩ := Ring.split.1 h
  obtain ⟨d1, d2⟩ := List.nodup_cons.1 hd
  obtain ⟨d3, d4, d5⟩ := List.nodup_append.1 d2
  simp only [List.mem_cons, List.mem_append, not_or] at hz d1
  obtain ⟨z1, z2, z3⟩ := hz
  have hx := lastOr_mem e q
  have hy := headOr_mem e r
  have xz : lastOr e q ≠ z := fun e1 => by rw [e1] at hx; simp at hx; exact hx.elim (fun hx => z1 hx) (fun hx => z2 hx)
  have yz : headOr e r ≠ z := fun e1 => by rw [e1] at hy; exact hy.elim (fun hy => z1 hy) (fun hy => z3 hy)
  refine Ring.split.2 ⟨h1.upd (fun u hu => ?_) (fun u hu => ?_), upd_same _ _ _, ?_, ?_⟩
  · have hu2 : u ∈ e :: q := List.dropLast_subset _ hu
    rw [upd_other _ _ (last_drop (List.nodup_cons.2 ⟨d1.1, d3⟩) hu), upd_other _ _ (fun e1 => by rw [e1] at hu2; simp at hu2; exact hu2.elim (fun hu2 => z1 hu2) (fun hu2 => z2 hu2))]
  · have hu : u ∈ q := by simpa using hu
    rw [upd_other _ _ (fun e1 => by exact hy.elim (fun hy => d1.1 (by rw [← hy, ← e1]; exact hu)) (fun hy => d5 u hu _ hy e1)), upd_other _ _ (fun e1 => z2 (by rw [← e1]; exact hu))]
  · show upd (upd ah z _) _ _ z = _
    rw [upd_other _ _ (Ne.symm yz), upd_same]
  · show Lk _ _ (z :: (r ++ [e]))
    rw [← headOr_split e r]
    refine ⟨by rw [upd_other _ _ (Ne.symm xz), upd_same], upd_same _ _ _, ?_⟩
    rw [headOr_split]
    refine h4.upd (fun u hu => ?_) (fun u hu => ?_)
    · have hu : u ∈ r := by simpa using hu
      rw [upd_other _ _ (fun e1 => by rw [e1] at hu; simp at hx; exact hx.elim (fun hx => d1.2 (by rw [← hx]; exact hu)) (fun hx => d5 _ hx _ hu rfl)), upd_other _ _ (fun e1 => z3 (by rw [← e1]; exact hu))]
    · have hn : (r ++ [e]).Nodup := List.nodup_append.2 ⟨d4, by simp, fun a ha b hb e1 => by simp at hb; exact d1.2 (by rw [← hb, ← e1]; exact ha)⟩
      rw [← headOr_split e r] at hn
      have hu2 : u ∈ r ++ [e] := List.mem_of_mem_tail hu
      rw [upd_other _ _ (fun e1 => (List.nodup_cons.1 hn).1 (by rw [← e1]; exact hu)), upd_other _ _ (fun e1 => by rw [e1] at hu2; simp at hu2; exact hu2.elim (fun hu2 => z3 hu2) (fun hu2 => z1 hu2))]

theorem Ring.at {ah bh : Nat → Option Nat} {e z : Nat} {q r : List Nat} (h : Ring ah bh e (q ++ z :: r)) : ah z = some (lastOr e q) ∧ bh z = some (headOr e r) := by
  obtain ⟨h1, h2, h3, h4⟩ := Ring.split.1 h
  refine ⟨h3, ?_⟩
  have h4 : Lk ah bh (z :: (r ++ [e])) := h4
  rw [← headOr_split e r] at h4
  exact h4.1
theorem Ring.take {ah bh : Nat → Option Nat} {e z : Nat} {q r : List Nat} (h : Ring ah bh e (q ++ z :: r)) (hd : (e :: (q ++ z :: r)).Nodup) :
    Ring (upd ah (headOr e r) (some (lastOr e q))) (upd bh (lastOr e q) (some (headOr e r))) e (q ++ r) := by
  obtain ⟨h1, h2, h3, h4⟩ := Ring.split.1 h
  have h4 : Lk ah bh (z :: (r ++ [e])) := h4
  rw [← headOr_split e r] at h4
  obtain ⟨_, _, h4⟩ := h4
  rw [headOr_split] at h4
  obtain ⟨d1, d2⟩ := List.nodup_cons.1 hd
  obtain ⟨d3, d4, d5⟩ := List.nodup_append.1 d2
  obtain ⟨d6, d7⟩ := List.nodup_cons.1 d4
  simp only [List.mem_append, List.mem_cons, not_or] at d1
  have hx := lastOr_mem e q
  have hy := headOr_mem e r
  refine Ring.split.2 ⟨h1.upd (fun u hu => ?_) (fun u hu => ?_), upd_same _ _ _, upd_same _ _ _, h4.upd (fun u hu => ?_) (fun u hu => ?_)⟩
  · rw [upd_other _ _ (last_drop (List.nodup_cons.2 ⟨d1.1, d3⟩) hu)]
  · have hu : u ∈ q := by simpa using hu
    rw [upd_other _ _ (fun e1 => by exact hy.elim (fun hy => d1.1 (by rw [← hy, ← e1]; exact hu)) (fun hy => d5 u hu _ (List.mem_cons_of_mem _ hy) e1))]
  · have hu : u ∈ r := by simpa using hu
    rw [upd_other _ _ (fun e1 => by rw [e1] at hu; simp at hx; exact hx.elim (fun hx => d1.2.2 (by rw [← hx]; exact hu)) (fun hx => d5 _ hx _ (List.mem_cons_of_mem _ hu) rfl))]
  · have hn : (r ++ [e]).Nodup := List.nodup_append.2 ⟨d7, by simp, fun a ha b hb e1 => by simp at hb; exact d1.2.2 (by rw [← hb, ← e1]; exact ha)⟩
    rw [← headOr_split e r] at hn
    rw [upd_other _ _ (fun e1 => (List.nodup_cons.1 hn).1 (by rw [← e1]; exact hu))]
theorem Ring.upd {ah bh ah' bh' : Nat → Option Nat} {e : Nat} {q : List Nat} (h : Ring ah bh e q) (ha : ∀ u, u ∈ e :: q → ah' u = ah u) (hb : ∀ u, u ∈ e :: q → bh' u = bh u) : Ring ah' bh' e q :=
  Lk.upd h (fun u hu => hb u (by rw [← List.cons_append, List.dropLast_concat] at hu; exact hu)) (fun u hu => ha u (by simp at hu ⊢; rcases hu with hu | hu <;> simp [hu]))

end Go.Proofs.YtclppfljengnbaaGreat
