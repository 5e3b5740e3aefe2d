/-
  Of no program: pages, who has one, who waits, what is told: the plain mathematics of a book.
-/
import Derived.WalkKit
namespace Go.Proofs.Ytdlanenbbmnbhaa

/-- A page of a book. -/
structure Lf where
  fast : Bool
  owner : Int
  lost : Bool
  called : Bool
  ws : List Int
deriving DecidableEq
instance : Inhabited Lf := ⟨⟨false, 0, false, false, []⟩⟩
/-- An order. -/
structure Od where
  kind : Int
  page : Int
  frm : Int
  to : Int
  fast : Bool
deriving DecidableEq

def giveF (i : Int) (x : Lf) : Lf × List Od :=
  if x.lost = true ∨ x.owner ≠ 0 then (x, [])
  else match x.ws with
    | [] => (x, [])
    | a :: r => (⟨x.fast, a, x.lost, x.called, r⟩, [⟨1, i, 0, a, x.fast⟩])
def callF (i : Int) (x : Lf) : Lf × List Od :=
  if x.owner = 0 ∨ x.called = true then (x, [])
  else match x.ws with
    | [] => (x, [])
    | a :: r => (⟨x.fast, x.owner, x.lost, true, a :: r⟩, [⟨2, i, x.owner, a, x.fast⟩])
def serveF (i : Int) (x : Lf) : Lf × List Od := ((callF i (giveF i x).1).1, (giveF i x).2 ++ (callF i (giveF i x).1).2)
def leaveF (t : Bool) (x : Lf) : Lf := ⟨x.fast, 0, t, false, x.ws⟩
def withF (k : Int) (x : Lf) : Lf := ⟨x.fast, x.owner, x.lost, x.called, x.ws ++ [k]⟩
/-- A row without the first that is one. -/
def quitF (k : Int) (x : Lf) : Lf := ⟨x.fast, x.owner, x.lost, x.called, x.ws.erase k⟩

def instB (k : Int) : Bool := decide (1 ≤ k) && decide (k ≤ 8)
theorem inst_iff {k : Int} : instB k = true ↔ 1 ≤ k ∧ k ≤ 8 := by simp [instB]
theorem inst_no {k : Int} : instB k = false ↔ ¬ (1 ≤ k ∧ k ≤ 8) := by
  rw [← inst_iff]; simp

/-- A page may be so. -/
structure LfOk (x : Lf) : Prop where
  nodup : x.ws.Nodup
  inst : ∀ k ∈ x.ws, 1 ≤ k ∧ k ≤ 8
  own0 : 0 ≤ x.owner
  own8 : x.owner ≤ 8
  apart : x.owner ∉ x.ws
  lost : x.lost = true → x.owner = 0
  called : x.called = true → x.owner ≠ 0
  waits : x.ws ≠ [] → x.lost = false → x.owner ≠ 0 ∧ x.called = true

theorem pigeon : ∀ (n : Nat) (l : List Int), l.Nodup → (∀ k ∈ l, 1 ≤ k ∧ k ≤ (n : Int)) → l.length ≤ n
  | 0, l, _, h => by
    cases l with
    | nil => simp
    | cons a r => have := h a (by simp); omega
  | n + 1, l, hn, h => by
    have h1 := pigeon n (l.erase ((n + 1 : Nat) : Int)) (hn.erase _) (fun k hk => by
      have h2 := h k (List.mem_of_mem_erase hk)
      have h3 : k ≠ ((n + 1 : Nat) : Int) := fun e => by
        subst e
        exact (List.Nodup.not_mem_erase hn) hk
      omega)
    have h4 := List.length_erase (a := ((n + 1 : Nat) : Int)) (l := l)
    split at h4 <;> omega
theorem LfOk.len {x : Lf} (h : LfOk x) : x.ws.length ≤ 8 := pigeon 8 x.ws h.nodup (fun k hk => h.inst k hk)

/-- A page that may be so, but for its being served. -/
structure LfPre (x : Lf) : Prop where
  nodup : x.ws.Nodup
  inst : ∀ k ∈ x.ws, 1 ≤ k ∧ k ≤ 8
  own0 : 0 ≤ x.owner
  own8 : x.owner ≤ 8
  apart : x.owner ∉ x.ws
  lost : x.lost = true → x.owner = 0
  called : x.called = true → x.owner ≠ 0
theorem LfOk.pre {x : Lf} (h : LfOk x) : LfPre x := ⟨h.nodup, h.inst, h.own0, h.own8, h.apart, h.lost, h.called⟩
theorem LfPre.len {x : Lf} (h : LfPre x) : x.ws.length ≤ 8 := pigeon 8 x.ws h.nodup (fun k hk => h.inst k hk)

theorem give_pre {x : Lf} (i : Int) (h : LfPre x) : LfPre (giveF i x).1 := by
  unfold giveF
  split
  · exact h
  · rename_i hno
    have h1 : x.lost = false := by cases hl : x.lost <;> simp_all
    have h2 : x.owner = 0 := by simp_all
    split
    · exact h
    · rename_i a r hw
      have hn := h.nodup
      rw [hw, List.nodup_cons] at hn
      have hi := h.inst
      rw [hw] at hi
      have ha := hi a (by simp)
      refine ⟨hn.2, fun k hk => hi k (by simp [hk]), by simp only; omega, by simp only; omega, hn.1, fun e => ?_, fun e => by simp only; omega⟩
      simp only at e
      rw [h1] at e
      simp at e
theorem serve_ok {x : Lf} (i : Int) (h : LfPre x) : LfOk (serveF i x).1 := by
  have hg := give_pre i h
  have hnone : (giveF i x).1.ws ≠ [] → (giveF i x).1.lost = false → (giveF i x).1.owner ≠ 0 := by
    unfold giveF
    split
    · rename_i hno
      intro _ hl
      simp only at hl ⊢
      rcases hno with e | e
      · rw [hl] at e; simp at e
      · exact e
    · split
      · rename_i e
        intro hw
        simp only at hw
        exact absurd e hw
      · rename_i a r hw
        intro _ _
        have := h.inst a (by rw [hw]; simp)
        simp only
        omega
  unfold serveF
  generalize (giveF i x).1 = y at hg hnone
  simp only
  unfold callF
  split
  · rename_i hno
    refine ⟨hg.nodup, hg.inst, hg.own0, hg.own8, hg.apart, hg.lost, hg.called, fun hw hl => ⟨hnone hw hl, ?_⟩⟩
    rcases hno with e | e
    · exact absurd e (hnone hw hl)
    · exact e
  · rename_i hno
    split
    · rename_i e
      exact ⟨hg.nodup, hg.inst, hg.own0, hg.own8, hg.apart, hg.lost, hg.called, fun hw => absurd e hw⟩
    · rename_i a r hw
      have h2 : y.owner ≠ 0 := fun e => hno (.inl e)
      have hn := hg.nodup
      have hi := hg.inst
      have ha := hg.apart
      rw [hw] at hn hi ha
      exact ⟨hn, hi, hg.own0, hg.own8, ha, hg.lost, fun _ => h2, fun _ _ => ⟨h2, rfl⟩⟩
theorem leave_pre {x : Lf} (h : LfOk x) (t : Bool) : LfPre (leaveF t x) :=
  ⟨h.nodup, h.inst, by simp [leaveF], by simp [leaveF], fun e => by have := h.inst _ e; simp [leaveF] at this, fun _ => rfl, fun e => by simp [leaveF] at e⟩
theorem leave_lost {x : Lf} (h : LfOk x) : LfOk (leaveF true x) :=
  ⟨h.nodup, h.inst, by simp [leaveF], by simp [leaveF], (leave_pre h true).apart, fun _ => rfl, fun e => by simp [leaveF] at e, fun _ e => by simp [leaveF] at e⟩
theorem with_pre {x : Lf} (h : LfOk x) {k : Int} (hk : 1 ≤ k ∧ k ≤ 8) (ho : x.owner ≠ k) (hw : k ∉ x.ws) : LfPre (withF k x) := by
  refine ⟨?_, fun j hj => ?_, h.own0, h.own8, fun e => ?_, h.lost, h.called⟩
  · simp only [withF]
    rw [List.nodup_append]
    exact ⟨h.nodup, by simp, fun a ha b hb => by simp at hb; subst hb; exact fun e => hw (e ▸ ha)⟩
  · simp only [withF, List.mem_append, List.mem_singleton] at hj
    rcases hj with hj | rfl
    · exact h.inst j hj
    · exact hk
  · simp only [withF, List.mem_append, List.mem_singleton] at e
    rcases e with e | e
    · exact h.apart e
    · exact ho e
theorem quit_ok {x : Lf} (h : LfOk x) (k : Int) : LfOk (quitF k x) := by
  refine ⟨h.nodup.erase _, fun j hj => h.inst j (List.mem_of_mem_erase hj), h.own0, h.own8, fun e => h.apart (List.mem_of_mem_erase e), h.lost, h.called, fun hw hl => h.waits (fun e => hw ?_) hl⟩
  simp [quitF, e]

/-- A book: its pages. -/
def BkOk (l : List Lf) : Prop := ∀ x ∈ l, LfOk x
theorem BkOk.at {l : List Lf} (h : BkOk l) {i : Nat} (hi : i < l.length) : LfOk l[i] := h _ (List.getElem_mem hi)
theorem BkOk.set {l : List Lf} (h : BkOk l) (i : Nat) {x : Lf} (hx : LfOk x) : BkOk (l.set i x) := fun y hy => by
  rcases List.mem_or_eq_of_mem_set hy with e | e
  · exact h y e
  · subst e; exact hx
def newL (n : Nat) (fast : List Bool) : List Lf := (List.range n).map fun i => ⟨fast.getD i false, 0, false, false, []⟩
theorem new_ok (n : Nat) (fast : List Bool) : BkOk (newL n fast) := fun x hx => by
  simp only [newL, List.mem_map] at hx
  obtain ⟨i, -, rfl⟩ := hx
  exact ⟨by simp, by simp, by simp, by simp, by simp, by simp, by simp, by simp⟩
theorem new_len (n : Nat) (fast : List Bool) : (newL n fast).length = n := by simp [newL]

/-- There is such a page. -/
def pageB (l : List Lf) (p : Int) : Bool := decide (0 ≤ p) && decide (p < l.length)
theorem page_iff {l : List Lf} {p : Int} : pageB l p = true ↔ 0 ≤ p ∧ p < l.length := by simp [pageB]
theorem page_no {l : List Lf} {p : Int} : pageB l p = false ↔ ¬ (0 ≤ p ∧ p < l.length) := by
  rw [← page_iff]; simp
def lfAt (l : List Lf) (p : Int) : Lf := if pageB l p = true then l.getD p.toNat default else default
theorem lfAt_yes {l : List Lf} {i : Nat} (h : i < l.length) : lfAt l (i : Int) = l[i] := by
  unfold lfAt
  rw [if_pos (page_iff.2 (by omega)), Int.toNat_natCast, List.getD_eq_getElem?_getD, List.getElem?_eq_getElem h, Option.getD_some]
theorem lfAt_no {l : List Lf} {p : Int} (h : ¬ (0 ≤ p ∧ p < l.length)) : lfAt l p = default := by
  unfold lfAt
  rw [if_neg (by rw [page_iff]; exact h)]

def servL (l : List Lf) (i : Nat) (x : Lf) : List Lf × List Od := (l.set i (serveF i x).1, (serveF i x).2)
def needL (l : List Lf) (p k : Int) : List Lf × List Od × Int :=
  if ¬ (pageB l p = true ∧ instB k = true) then (l, [], 1)
  else if (lfAt l p).owner = k ∨ k ∈ (lfAt l p).ws then (l, [], 9)
  else ((servL l p.toNat (withF k (lfAt l p))).1, (servL l p.toNat (withF k (lfAt l p))).2, 0)
def backL (l : List Lf) (p k : Int) : List Lf × List Od × Int :=
  if ¬ (pageB l p = true ∧ instB k = true) then (l, [], 1)
  else if (lfAt l p).owner ≠ k then (l, [], 10)
  else ((servL l p.toNat (leaveF false (lfAt l p))).1, (servL l p.toNat (leaveF false (lfAt l p))).2, 0)
def mendL (l : List Lf) (p : Int) : List Lf × List Od × Int :=
  if ¬ pageB l p = true then (l, [], 1)
  else if (lfAt l p).lost = false then (l, [], 10)
  else ((servL l p.toNat (leaveF false (lfAt l p))).1, (servL l p.toNat (leaveF false (lfAt l p))).2, 0)
/-- An instance's pages among the first ones. -/
def hasN (l : List Lf) (k : Int) : Nat → List Int
  | 0 => []
  | n + 1 => hasN l k n ++ if (l.getD n default).owner = k then [(n : Int)] else []
def hasL (l : List Lf) (k : Int) : List Int := if instB k = true then hasN l k l.length else []
def failF (k : Int) (x : Lf) : Lf := quitF k (if x.owner = k then leaveF true x else x)
def failL (l : List Lf) (k : Int) : List Lf := if instB k = true then l.map (failF k) else l
theorem fail_ok {l : List Lf} (h : BkOk l) (k : Int) : BkOk (failL l k) := by
  unfold failL
  split
  · intro y hy
    simp only [List.mem_map] at hy
    obtain ⟨x, hx, rfl⟩ := hy
    unfold failF
    split
    · exact quit_ok (leave_lost (h x hx)) k
    · exact quit_ok (h x hx) k
  · exact h
theorem need_ok {l : List Lf} (h : BkOk l) (p k : Int) : BkOk (needL l p k).1 := by
  unfold needL
  split
  · exact h
  · rename_i h1
    have h1 : pageB l p = true ∧ instB k = true := Classical.byContradiction h1
    split
    · exact h
    · rename_i h2
      obtain ⟨hp, hk⟩ := h1
      rw [page_iff] at hp
      obtain ⟨i, rfl⟩ := Int.eq_ofNat_of_zero_le hp.1
      have hi : i < l.length := by omega
      rw [lfAt_yes hi] at h2 ⊢
      rw [inst_iff] at hk
      exact h.set _ (serve_ok _ (with_pre (h.at hi) hk (fun e => h2 (.inl e)) (fun e => h2 (.inr e))))
theorem back_ok {l : List Lf} (h : BkOk l) (p k : Int) : BkOk (backL l p k).1 := by
  unfold backL
  split
  · exact h
  · rename_i h1
    have h1 : pageB l p = true ∧ instB k = true := Classical.byContradiction h1
    split
    · exact h
    · obtain ⟨hp, hk⟩ := h1
      rw [page_iff] at hp
      obtain ⟨i, rfl⟩ := Int.eq_ofNat_of_zero_le hp.1
      have hi : i < l.length := by omega
      rw [lfAt_yes hi]
      exact h.set _ (serve_ok _ (leave_pre (h.at hi) false))
theorem mend_ok {l : List Lf} (h : BkOk l) (p : Int) : BkOk (mendL l p).1 := by
  unfold mendL
  split
  · exact h
  · rename_i hp
    have hp : pageB l p = true := Classical.byContradiction hp
    split
    · exact h
    · rw [page_iff] at hp
      obtain ⟨i, rfl⟩ := Int.eq_ofNat_of_zero_le hp.1
      have hi : i < l.length := by omega
      rw [lfAt_yes hi]
      exact h.set _ (serve_ok _ (leave_pre (h.at hi) false))
theorem need_len (l : List Lf) (p k : Int) : (needL l p k).1.length = l.length := by
  unfold needL; split
  · rfl
  · split <;> simp [servL]
theorem back_len (l : List Lf) (p k : Int) : (backL l p k).1.length = l.length := by
  unfold backL; split
  · rfl
  · split <;> simp [servL]
theorem mend_len (l : List Lf) (p : Int) : (mendL l p).1.length = l.length := by
  unfold mendL; split
  · rfl
  · split <;> simp [servL]
theorem fail_len (l : List Lf) (k : Int) : (failL l k).length = l.length := by
  unfold failL; split <;> simp
end Go.Proofs.Ytdlanenbbmnbhaa
