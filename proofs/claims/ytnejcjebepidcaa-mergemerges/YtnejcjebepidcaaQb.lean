/-
  Insertion: the mathematics, and a row whose records change places.
-/
import Derived.Test.YtnejcjebepidcaaTb
import Derived.Test.YtnejcjebepidcaaGc
import Derived.Test.YtnejcjebepidcaaOb
namespace Go.Proofs.Ytnejcjebepidcaa
open Go.RowKit

theorem own_set {w : World} {B g n cap : Nat} {e : TypeId} {size : Nat} {xs : List Value} (h : w.ownsRow B e size (.slice (some ⟨g, 0, none⟩) n cap) n xs) (k : Nat) (u : Value) :
    (w.setCell ⟨g, k, none⟩ u).ownsRow B e size (.slice (some ⟨g, 0, none⟩) n cap) n (xs.set k u) := by
  rcases h.2 with ⟨h1, _⟩ | ⟨g', cap', cur, h1, hB, hh, hc, hm, hs, ht⟩
  · simp at h1
  · simp at h1
    obtain ⟨rfl, rfl⟩ := h1
    refine ⟨by simpa using h.1, .inr ⟨g, cap, cur.setIfInBounds k u, rfl, hB, heap_setCell_same _ _ _ _ _ _ hh, hc, hm, by simpa using hs, ?_⟩⟩
    rw [← ht]
    simp [List.take_set]

/-- Twelve cells that are written. -/
abbrev set12 (W : World) (g o : Nat) (r : Rc) (p : Pl) : World :=
  (((((((((((W.setCell ⟨g, o, none⟩ (.int .i64 r.kind)).setCell ⟨g, o + 1, none⟩ (.int .u64 (r.lsn : Int))).setCell ⟨g, o + 2, none⟩ (.int .i64 r.txn)).setCell ⟨g, o + 3, none⟩ (.int .u64 (r.prev : Int))).setCell ⟨g, o + 4, none⟩ (.int .u64 (r.undo : Int))).setCell ⟨g, o + 5, none⟩ (.int .i64 r.page)).setCell ⟨g, o + 6, none⟩ (.int .i64 r.ak)).setCell ⟨g, o + 7, none⟩ (.string (txt r.key))).setCell ⟨g, o + 8, none⟩ (.string (txt r.old))).setCell ⟨g, o + 9, none⟩ (.string (txt r.new))).setCell ⟨g, o + 10, none⟩ (.slice p.ta r.txns.length p.tc)).setCell ⟨g, o + 11, none⟩ (.slice p.da r.dirty.length p.dc)

def lset12 (l : List Value) (o : Nat) (r : Rc) (p : Pl) : List Value :=
  (((((((((((l.set o (.int .i64 r.kind)).set (o + 1) (.int .u64 (r.lsn : Int))).set (o + 2) (.int .i64 r.txn)).set (o + 3) (.int .u64 (r.prev : Int))).set (o + 4) (.int .u64 (r.undo : Int))).set (o + 5) (.int .i64 r.page)).set (o + 6) (.int .i64 r.ak)).set (o + 7) (.string (txt r.key))).set (o + 8) (.string (txt r.old))).set (o + 9) (.string (txt r.new))).set (o + 10) (.slice p.ta r.txns.length p.tc)).set (o + 11) (.slice p.da r.dirty.length p.dc)
theorem lset12_cons (a0 a1 a2 a3 a4 a5 a6 a7 a8 a9 a10 a11 : Value) (l : List Value) (o : Nat) (r : Rc) (p : Pl) : lset12 (a0 :: a1 :: a2 :: a3 :: a4 :: a5 :: a6 :: a7 :: a8 :: a9 :: a10 :: a11 :: l) (o + 12) r p = a0 :: a1 :: a2 :: a3 :: a4 :: a5 :: a6 :: a7 :: a8 :: a9 :: a10 :: a11 :: lset12 l o r p := by
  unfold lset12
  rw [show o + 12 + 1 = (o + 1) + 12 by omega, show o + 12 + 2 = (o + 2) + 12 by omega, show o + 12 + 3 = (o + 3) + 12 by omega, show o + 12 + 4 = (o + 4) + 12 by omega, show o + 12 + 5 = (o + 5) + 12 by omega, show o + 12 + 6 = (o + 6) + 12 by omega, show o + 12 + 7 = (o + 7) + 12 by omega, show o + 12 + 8 = (o + 8) + 12 by omega, show o + 12 + 9 = (o + 9) + 12 by omega, show o + 12 + 10 = (o + 10) + 12 by omega, show o + 12 + 11 = (o + 11) + 12 by omega]
  rfl
theorem flat_set (qs : List (Rc × Pl)) (k : Nat) (r : Rc) (p : Pl) (h : k < qs.length) : ((qs.set k (r, p)).flatMap fun q => recL q.1 q.2) = lset12 (qs.flatMap fun q => recL q.1 q.2) (k * 12) r p := by
  induction qs generalizing k with
  | nil => simp at h
  | cons q qs ih =>
    cases k with
    | zero => rfl
    | succ k =>
      rw [List.set_cons_succ, List.flatMap_cons, List.flatMap_cons, ih k (by simpa using h), show (k + 1) * 12 = k * 12 + 12 by omega]
      exact (lset12_cons _ _ _ _ _ _ _ _ _ _ _ _ _ _ _ _).symm
theorem own_set12 {W : World} {B g n c : Nat} {qs : List (Rc × Pl)} (h : W.ownsRow B 46 12 (.slice (some ⟨g, 0, none⟩) n c) n (qs.flatMap fun q => recL q.1 q.2)) (k : Nat) (r : Rc) (p : Pl) (hk : k < qs.length) :
    (set12 W g (k * 12) r p).ownsRow B 46 12 (.slice (some ⟨g, 0, none⟩) n c) n ((qs.set k (r, p)).flatMap fun q => recL q.1 q.2) := by
  rw [flat_set qs k r p hk]
  exact own_set (own_set (own_set (own_set (own_set (own_set (own_set (own_set (own_set (own_set (own_set (own_set h _ _) _ _) _ _) _ _) _ _) _ _) _ _) _ _) _ _) _ _) _ _) _ _
theorem below_set12 {B : Nat} {w W : World} (h : Below B w W) {g : Nat} (hg : B ≤ g) (o : Nat) (r : Rc) (p : Pl) : Below B w (set12 W g o r p) :=
  (((((((((((h.setCell (p := ⟨g, o, none⟩) hg _).setCell (p := ⟨g, o + 1, none⟩) hg _).setCell (p := ⟨g, o + 2, none⟩) hg _).setCell (p := ⟨g, o + 3, none⟩) hg _).setCell (p := ⟨g, o + 4, none⟩) hg _).setCell (p := ⟨g, o + 5, none⟩) hg _).setCell (p := ⟨g, o + 6, none⟩) hg _).setCell (p := ⟨g, o + 7, none⟩) hg _).setCell (p := ⟨g, o + 8, none⟩) hg _).setCell (p := ⟨g, o + 9, none⟩) hg _).setCell (p := ⟨g, o + 10, none⟩) hg _).setCell (p := ⟨g, o + 11, none⟩) hg _

/-- One that goes down. -/
def insAt (out : List Rc) (x : Rc) (k : Nat) : List Rc := out.take k ++ x :: out.drop k
theorem insAt_end (out : List Rc) (x : Rc) : insAt out x out.length = out ++ [x] := by simp [insAt]
theorem insAt_len (out : List Rc) (x : Rc) (k : Nat) : (insAt out x k).length = out.length + 1 := by
  simp only [insAt, List.length_append, List.length_cons, List.length_take, List.length_drop]; omega
theorem insAt_self {out : List Rc} {x : Rc} {k : Nat} (h : k ≤ out.length) : (insAt out x k)[k]? = some x := by
  unfold insAt
  rw [List.getElem?_append_right (by simp; omega)]
  simp [Nat.min_eq_left h]
theorem insAt_prev {out : List Rc} {x : Rc} {k : Nat} (h : k < out.length) : (insAt out x (k + 1))[k]? = some out[k] := by
  unfold insAt
  rw [List.getElem?_append_left (by simp; omega), List.getElem?_take, if_pos (by omega), List.getElem?_eq_getElem h]
theorem insAt_swap {out : List Rc} {x : Rc} {k : Nat} (h : k < out.length) : ((insAt out x (k + 1)).set (k + 1) out[k]).set k x = insAt out x k := by
  unfold insAt
  rw [List.take_succ_eq_append_getElem h, List.drop_eq_getElem_cons h]
  have e : (out.take k).length = k := by simp; omega
  rw [List.append_assoc, List.set_append_right _ _ (by rw [e]; omega), e, show k + 1 - k = 1 by omega]
  simp only [List.cons_append, List.nil_append, List.set_cons_succ, List.set_cons_zero]
  rw [List.set_append_right _ _ (by rw [e]; omega), e, Nat.sub_self]
  rfl
theorem insAt_perm (out : List Rc) (x : Rc) (k : Nat) : (insAt out x k).Perm (out ++ [x]) := by
  unfold insAt
  have h1 : (out.take k ++ x :: out.drop k).Perm (x :: (out.take k ++ out.drop k)) := List.perm_middle
  rw [List.take_append_drop] at h1
  exact h1.trans (by simpa using (List.perm_append_singleton x out).symm)
theorem ris_split (l m : List Rc) : risB (l ++ m) = true ↔ risB l = true ∧ risB m = true ∧ ∀ x y, l.getLast? = some x → m.head? = some y → x.lsn < y.lsn := by
  induction l with
  | nil => simp [risB]
  | cons a r ih =>
    cases r with
    | nil =>
      cases m with
      | nil => simp [risB]
      | cons b m => simp [risB, and_comm]
    | cons b r =>
      have e : risB (a :: b :: r ++ m) = (decide (a.lsn < b.lsn) && risB (b :: r ++ m)) := rfl
      rw [e, Bool.and_eq_true, ih, risB, Bool.and_eq_true, List.getLast?_cons_cons]
      constructor
      · rintro ⟨h1, h2, h3, h4⟩; exact ⟨⟨h1, h2⟩, h3, h4⟩
      · rintro ⟨⟨h1, h2⟩, h3, h4⟩; exact ⟨h1, h2, h3, h4⟩
theorem insAt_ris {out : List Rc} {x : Rc} {k : Nat} (h : risB out = true) (_hk : k ≤ out.length) (h1 : ∀ y, (out.take k).getLast? = some y → y.lsn < x.lsn) (h2 : ∀ y, (out.drop k).head? = some y → x.lsn < y.lsn) : risB (insAt out x k) = true := by
  rw [← List.take_append_drop k out, ris_split] at h
  obtain ⟨p1, p2, _⟩ := h
  unfold insAt
  rw [ris_split]
  refine ⟨p1, ?_, fun a b ha hb => ?_⟩
  · rw [show x :: out.drop k = [x] ++ out.drop k from rfl, ris_split]
    exact ⟨rfl, p2, fun a b ha hb => by simp at ha; subst ha; exact h2 b hb⟩
  · simp at hb; subst hb; exact h1 a ha

end Go.Proofs.Ytnejcjebepidcaa
