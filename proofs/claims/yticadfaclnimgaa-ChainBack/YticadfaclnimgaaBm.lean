/-
  What ChainBack keeps: the records so far, and what is needed.
-/
import Derived.Test.YticadfaclnimgaaLk
import Derived.Test.YticadfaclnimgaaOb
import Derived.Test.YticadfaclnimgaaBq
namespace Go.Proofs.Yticadfaclnimgaa
open Go.RowKit Go.Maps

/-- The document's frame of a record that takes back. -/
theorem refframe_chg (r : Rc) (ta : Option Addr) (tc : Nat) (da : Option Addr) (dc : Nat) (w : World) (hm : mayB r = true) (hc : chgB r.kind = true) :
    Calls Try.prog 18 #[recV r ta tc da dc] w fun e w' => e = .returned (.string (txt (frameB r))) ∧ Below w.heap.size w w' :=
  refframe_of r ta tc da dc w (by have := (encB_length r hm).2; omega) fun W _ => bytes_chg r ta tc da dc W (mayP r hm) hc

def recsC (l : List Rc) : List Value := l.flatMap fun r => (recC r none 0 none 0).toList
theorem recsC_snoc (l : List Rc) (r : Rc) : recsC (l ++ [r]) = recsC l ++ (recC r none 0 none 0).toList := by simp [recsC]
theorem recsC_get (l : List Rc) (j : Nat) (hj : j < l.length) (i : Nat) (hi : i < 12) : (recsC l)[j * 12 + i]? = (recC l[j] none 0 none 0).toList[i]? := by
  induction l generalizing j with
  | nil => simp at hj
  | cons a r ih =>
    cases j with
    | zero =>
      show (((recC a none 0 none 0).toList) ++ recsC r)[0 * 12 + i]? = _
      rw [List.getElem?_append_left (by simp; omega)]
      simp
    | succ j =>
      have := ih j (by simpa using hj)
      show (((recC a none 0 none 0).toList) ++ recsC r)[(j + 1) * 12 + i]? = _
      rw [List.getElem?_append_right (by simp; omega), show (j + 1) * 12 + i - ((recC a none 0 none 0).toList).length = j * 12 + i by simp; omega, this]
      rfl
theorem cell_any_at (w : World) (cs : Array Value) (t : TypeId) : ∀ j u, cs.toList[j]? = some u → (w.alloc (.cells cs t)).cell? ((⟨w.heap.size, 0, none⟩ : Addr).add j) = some u := by
  intro j u hu
  rw [addr_add]
  have hk : (w.alloc (.cells cs t)).heap[w.heap.size]? = some (.cells cs t) := heap_alloc_new w _
  have : cs[j]? = some u := by simpa using hu
  simp only [World.cell?, hk]
  simp [this]

/-- A history: changes one behind the other. -/
def Hist (id : Int) (R : List Rc) : Prop := ∀ (j : Nat) (r : Rc), R[j]? = some r → r.kind = 1 ∧ r.lsn = 16 * (j + 1) ∧ r.txn = id ∧ r.prev = 16 * j ∧ mayB r = true ∧ r.txns = [] ∧ r.dirty = []
theorem Hist.snoc {id : Int} {R : List Rc} (h : Hist id R) {r : Rc} (h1 : r.kind = 1 ∧ r.lsn = 16 * (R.length + 1) ∧ r.txn = id ∧ r.prev = 16 * R.length ∧ mayB r = true ∧ r.txns = [] ∧ r.dirty = []) : Hist id (R ++ [r]) := by
  intro j x hx
  by_cases hj : j < R.length
  · rw [List.getElem?_append_left hj] at hx
    exact h j x hx
  · rw [List.getElem?_append_right (by omega)] at hx
    have hj0 : j - R.length = 0 := by
      cases e : j - R.length with
      | zero => rfl
      | succ n => rw [e] at hx; simp at hx
    rw [hj0] at hx
    simp at hx
    subst hx
    have : j = R.length := by omega
    subst this
    exact h1
def sumB (R : List Rc) (m : Nat) : Nat := ((R.take m).map backN).sum
theorem sumB_succ (R : List Rc) (m : Nat) (hm : m < R.length) : sumB R (m + 1) = sumB R m + backN R[m] := by
  unfold sumB
  rw [List.take_succ_eq_append_getElem hm, List.map_append, List.sum_append]
  simp only [List.map_cons, List.map_nil, List.sum_cons, List.sum_nil, Nat.add_zero]
theorem sumB_snoc (R : List Rc) (r : Rc) : sumB (R ++ [r]) (R ++ [r]).length = sumB R R.length + backN r := by
  unfold sumB
  rw [List.take_length, List.take_length, List.map_append, List.sum_append]
  simp only [List.map_cons, List.map_nil, List.sum_cons, List.sum_nil, Nat.add_zero]
theorem sumB_le (id : Int) (R : List Rc) (h : Hist id R) (m : Nat) (hm : m ≤ R.length) : sumB R m ≤ m * 124 := by
  induction m with
  | zero => simp [sumB]
  | succ m ih =>
    rw [sumB_succ R m (by omega)]
    have h1 := ih (by omega)
    obtain ⟨k1, _, _, _, k2, _⟩ := h m R[m] (List.getElem?_eq_getElem (by omega))
    have := backN_le k2 k1
    omega

/-- What is there when n records were noted. -/
def xFwd (R : List Rc) : Tn := ⟨0, 16 * R.length, 16 * R.length, (if R.length = 0 then 0 else 54) + sumB R R.length, []⟩
/-- What is there when m of them are left. -/
def xBwd (R : List Rc) (m : Nat) : Tn := ⟨0, 16 * (2 * R.length - m), 16 * m, 54 + sumB R m, []⟩
theorem fwd_bwd (R : List Rc) (h : R.length ≠ 0) : xFwd R = xBwd R R.length := by
  unfold xFwd xBwd
  rw [if_neg h, show 2 * R.length - R.length = R.length by omega]

theorem note_fwd {f : Int → Option Tn} {id : Int} {R : List Rc} {r : Rc} (hf : f id = some (xFwd R)) (h1 : r.kind = 1) (h2 : r.lsn = 16 * (R.length + 1)) (h3 : r.txn = id) (h4 : r.prev = 16 * R.length) (hm : mayB r = true) :
    noteE (f r.txn) r = 0 ∧ noteF f r id = some (xFwd (R ++ [r])) := by
  have he : noteE (f r.txn) r = 0 := by
    rw [h3, hf]
    unfold noteE
    rw [if_pos ⟨hm, by omega⟩]
    show (if r.prev = (xFwd R).last ∧ letsB (xFwd R) r = true then (0 : Int) else 10) = 0
    rw [if_pos ⟨h4, by simp [letsB, h1, xFwd]⟩]
  refine ⟨he, ?_⟩
  unfold noteF
  rw [if_pos he, if_neg (by omega), h3, upd_same, hf]
  show some (notedX (xFwd R) r) = some _
  congr 1
  unfold notedX
  have hl : (R ++ [r]).length = R.length + 1 := by simp
  have e : deedX (xFwd R) r = { xFwd R with need := (xFwd R).need + moreN (xFwd R) r, next := r.lsn } := by simp [deedX, h1]
  have hmo : moreN (xFwd R) r = (if R.length = 0 then 54 else 0) + backN r := by
    have hla : (xFwd R).last = 16 * R.length := rfl
    unfold moreN firstN
    rw [if_pos h1, hla]
    by_cases h0 : R.length = 0
    · rw [if_pos (by omega), if_pos h0]
    · rw [if_neg (by omega), if_neg h0]
  rw [e, hmo]
  show (⟨0, r.lsn, r.lsn, ((if R.length = 0 then 0 else 54) + sumB R R.length) + ((if R.length = 0 then 54 else 0) + backN r), []⟩ : Tn) = ⟨0, 16 * (R ++ [r]).length, 16 * (R ++ [r]).length, (if (R ++ [r]).length = 0 then 0 else 54) + sumB (R ++ [r]) (R ++ [r]).length, []⟩
  rw [sumB_snoc, hl, h2, if_neg (show ¬ R.length + 1 = 0 by omega)]
  congr 1
  split <;> omega
theorem note_fail {f : Int → Option Tn} {r : Rc} (hm : mayB r = false) : noteE (f r.txn) r = 1 ∧ noteF f r = f := by
  have he : noteE (f r.txn) r = 1 := by
    unfold noteE
    rw [if_neg (by rw [hm]; simp)]
  exact ⟨he, note_same (by rw [he]; decide)⟩
theorem note_bwd {f : Int → Option Tn} {id : Int} {R : List Rc} {m : Nat} (hR : Hist id R) (hm : m < R.length) (hl : R.length ≤ 40) (hf : f id = some (xBwd R (m + 1))) (c : Rc) (hc : c = backRc R[m] (16 * (2 * R.length - m)) (16 * (2 * R.length - (m + 1))) (16 * m)) :
    mayB c = true ∧ (frameB c).length = backN R[m] ∧ c.txn = id ∧ noteE (f c.txn) c = 0 ∧ noteF f c id = some (xBwd R m) ∧ (frameB c).length + 54 ≤ (xBwd R (m + 1)).need := by
  obtain ⟨k1, k2, k3, k4, k5, _, _⟩ := hR m R[m] (List.getElem?_eq_getElem hm)
  have hmay : mayB c = true := by
    rw [hc]
    exact back_may k5 k1 (by simp [lsnB]; omega) (by omega) (by omega)
  have hlen : (frameB c).length = backN R[m] := by rw [hc]; exact back_len _ _ _ k5 k1
  have htx : c.txn = id := by rw [hc]; exact k3
  have hck : c.kind = 2 := by rw [hc]; rfl
  have hcp : c.prev = 16 * (2 * R.length - (m + 1)) := by rw [hc]; rfl
  have hcu : c.undo = 16 * m := by rw [hc]; rfl
  have hcl : c.lsn = 16 * (2 * R.length - m) := by rw [hc]; rfl
  have he : noteE (f c.txn) c = 0 := by
    rw [htx, hf]
    unfold noteE
    rw [if_pos ⟨hmay, by omega⟩]
    show (if c.prev = (xBwd R (m + 1)).last ∧ letsB (xBwd R (m + 1)) c = true then (0 : Int) else 10) = 0
    rw [if_pos ⟨hcp, by simp [letsB, hck, hcu, xBwd]⟩]
  have hs := sumB_succ R m hm
  refine ⟨hmay, hlen, htx, he, ?_, ?_⟩
  · unfold noteF
    rw [if_pos he, if_neg (by omega), htx, upd_same, hf]
    show some (notedX (xBwd R (m + 1)) c) = some _
    congr 1
    unfold notedX
    have e : deedX (xBwd R (m + 1)) c = { xBwd R (m + 1) with need := (xBwd R (m + 1)).need - (frameB c).length, next := c.undo } := by simp [deedX, hck]
    rw [e, hlen, hcu, hcl]
    unfold xBwd
    simp only [Tn.mk.injEq, true_and, and_true]
    omega
  · rw [hlen]
    show _ ≤ 54 + sumB R (m + 1)
    omega
/-- The two records at the end. -/
theorem note_end {f : Int → Option Tn} {id : Int} {R : List Rc} (hid : 1 ≤ id ∧ id ≤ 1073741824) (hl : R.length ≤ 40) (hf : f id = some (xBwd R 0)) :
    noteE (f id) ⟨4, 16 * (2 * R.length + 1), id, 16 * (2 * R.length), 0, 0, 0, [], [], [], [], []⟩ = 0 ∧ noteF f ⟨4, 16 * (2 * R.length + 1), id, 16 * (2 * R.length), 0, 0, 0, [], [], [], [], []⟩ id = some ⟨2, 16 * (2 * R.length + 1), 0, 27, []⟩ := by
  have hm : mayB ⟨4, 16 * (2 * R.length + 1), id, 16 * (2 * R.length), 0, 0, 0, [], [], [], [], []⟩ = true := by
    simp [mayB, lsnB, mTxn, mChg, mTab, idB, chgB, hid]
    omega
  have he : noteE (f id) ⟨4, 16 * (2 * R.length + 1), id, 16 * (2 * R.length), 0, 0, 0, [], [], [], [], []⟩ = 0 := by
    rw [hf]
    unfold noteE
    rw [if_pos ⟨hm, by show (4 : Int) < 7; decide⟩]
    simp [xBwd, letsB]
  refine ⟨he, ?_⟩
  unfold noteF
  rw [if_pos he, if_neg (by show ¬ (4 : Int) = 5; decide), upd_same, hf]
  simp [deedX, xBwd, sumB]
theorem note_end2 {f : Int → Option Tn} {id : Int} {n : Nat} (hid : 1 ≤ id ∧ id ≤ 1073741824) (hl : n ≤ 40) (hf : f id = some ⟨2, 16 * (2 * n + 1), 0, 27, []⟩) :
    noteE (f id) ⟨5, 16 * (2 * n + 1) + 16, id, 16 * (2 * n + 1), 0, 0, 0, [], [], [], [], []⟩ = 0 ∧ noteF f ⟨5, 16 * (2 * n + 1) + 16, id, 16 * (2 * n + 1), 0, 0, 0, [], [], [], [], []⟩ id = none := by
  have hm : mayB ⟨5, 16 * (2 * n + 1) + 16, id, 16 * (2 * n + 1), 0, 0, 0, [], [], [], [], []⟩ = true := by
    simp [mayB, lsnB, mTxn, mChg, mTab, idB, chgB, hid]
    omega
  have he : noteE (f id) ⟨5, 16 * (2 * n + 1) + 16, id, 16 * (2 * n + 1), 0, 0, 0, [], [], [], [], []⟩ = 0 := by
    rw [hf]
    unfold noteE
    rw [if_pos ⟨hm, by show (5 : Int) < 7; decide⟩]
    simp [letsB]
  refine ⟨he, ?_⟩
  unfold noteF
  rw [if_pos he, if_pos rfl, upd_same]
end Go.Proofs.Yticadfaclnimgaa
