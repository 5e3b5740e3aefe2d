/-
  The document's slots with one of them put: of no program.
-/
import Derived.Test.YtebchgoaelamcaaDoorX3
namespace Go.Proofs.YtebchgoaelamcaaDoor

/-- Slots of which one has this (one behind the last: a new one), trimmed. -/
def withL (l : List Cl) (i : Nat) (c : Cl) : List Cl := trimL (if i = l.length then l ++ [c] else l.set i c)

theorem free_set (l : List Cl) (i : Nat) (c : Cl) (hi : i < l.length) : freeL (l.set i c) = freeL l - (sizeC c : Int) + (sizeC l[i] : Int) := by
  have := sumC_set l i c hi
  simp only [freeL, List.length_set]
  omega
theorem free_snoc (l : List Cl) (c : Cl) : freeL (l ++ [c]) = freeL l - 4 - (sizeC c : Int) := by
  simp only [freeL, List.length_append, List.length_singleton, sumC_append, sumC]
  omega

/-- The first slot that is free; none: as many as there are. -/
def freeAt (l : List Cl) : Nat := (l.findIdx? isFree).getD l.length

theorem ins_ref {l : List Cl} (h : GoodL l) {k x : List UInt8} (hm : mayK k x = true) (hn : l.findIdx? (isKey k) = none) :
    insL l k x = if 64 ≤ freeAt l ∨ freeL (withL l (freeAt l) (cellOfKV k x)) < 0 then (l, 7) else (withL l (freeAt l) (cellOfKV k x), 0) := by
  have h64 := h.few
  unfold insL
  rw [hm, hn]
  cases hf : l.findIdx? isFree with
  | some i =>
    obtain ⟨hi, _⟩ := find_some hf
    have e : freeAt l = i := by simp [freeAt, hf]
    have ew : withL l i (cellOfKV k x) = l.set i (cellOfKV k x) := by
      unfold withL
      rw [if_neg (by omega)]
      exact set_trim hi rfl h.last
    rw [e, ew]
    show fillL l i (cellOfKV k x) = _
    unfold fillL
    rw [List.getElem?_eq_getElem hi, free_set l i _ hi]
    simp only [Option.getD_some]
    by_cases hg : (sizeC (cellOfKV k x) : Int) - (sizeC l[i] : Int) > freeL l
    · rw [if_pos hg, if_pos (by omega)]
    · rw [if_neg hg, if_neg (by omega)]
  | none =>
    have e : freeAt l = l.length := by simp [freeAt, hf]
    have ew : withL l l.length (cellOfKV k x) = l ++ [cellOfKV k x] := by
      unfold withL
      rw [if_pos rfl]
      exact trimL_snoc_used _ _ rfl
    rw [e, ew]
    show addL l (cellOfKV k x) = _
    unfold addL
    rw [free_snoc]
    by_cases hg : l.length = 64 ∨ freeL l < 4 + (sizeC (cellOfKV k x) : Int)
    · rw [if_pos hg, if_pos (by omega)]
    · rw [if_neg hg, if_neg (by omega)]

theorem upd_ref {l : List Cl} (h : GoodL l) {k x : List UInt8} (hm : mayK k x = true) {i : Nat} (hf : l.findIdx? (isKey k) = some i) :
    updL l k x = if freeL (withL l i (cellOfKV k x)) < 0 then (l, 7) else (withL l i (cellOfKV k x), 0) := by
  obtain ⟨hi, _⟩ := find_some hf
  have ew : withL l i (cellOfKV k x) = l.set i (cellOfKV k x) := by
    unfold withL
    rw [if_neg (by omega)]
    exact set_trim hi rfl h.last
  unfold updL
  rw [hm, hf, ew]
  show fillL l i (cellOfKV k x) = _
  unfold fillL
  rw [List.getElem?_eq_getElem hi, free_set l i _ hi]
  simp only [Option.getD_some]
  by_cases hg : (sizeC (cellOfKV k x) : Int) - (sizeC l[i] : Int) > freeL l
  · rw [if_pos hg, if_pos (by omega)]
  · rw [if_neg hg, if_neg (by omega)]

theorem del_ref {l : List Cl} {k : List UInt8} {i : Nat} (hf : l.findIdx? (isKey k) = some i) : delL l k = (withL l i Cl.none, 0) := by
  obtain ⟨hi, _⟩ := find_some hf
  unfold delL withL
  rw [hf, if_neg (by omega)]

end Go.Proofs.YtebchgoaelamcaaDoor
