/-
  Of no program: bytes as cells, a slice that holds bytes, a block of bytes, bytes that are written over, and what touches two blocks alone.
-/
import Derived.WalkKit
import Derived.WalkSpells
import Derived.WalkLawsBesides
import Derived.Deep.RegionLaw
import Derived.Lib.Strings
import Derived.Lib.Walk
import Derived.Lib.Hide
import Derived.Lib.SliceRun
import Derived.Laws.MakeOwn
import Derived.Laws.Rows
import Derived.Laws.CopyRow
import Derived.Laws.IdiomCopy
namespace Go.Proofs.Ytbigclhfgcaccaa
open Go.RowKit

/-- Bytes as cells. -/
def bcells (l : List UInt8) : List Value := l.map fun b => Value.int .u8 (b.toNat : Int)
theorem bcells_length (l : List UInt8) : (bcells l).length = l.length := by simp [bcells]
theorem bcells_append (l m : List UInt8) : bcells (l ++ m) = bcells l ++ bcells m := by simp [bcells]

/-- The slice a holds the bytes l. -/
structure SlB (w : World) (a : Option Addr) (l : List UInt8) : Prop where
  nonil : a = none → l = []
  cells : ∀ x, a = some x → ∀ j u, (bcells l)[j]? = some u → w.cell? (x.add j) = some u

theorem SlB.below {w w' : World} {a : Option Addr} {l : List UInt8} (h : SlB w a l) (hb : Below w.heap.size w w') : SlB w' a l :=
  ⟨h.nonil, fun x hx j u hu => by have := h.cells x hx j u hu; rw [hb.cell (World.block_lt_of_cell? _ _ this)]; exact this⟩

/-- A list with some bytes written over it. -/
def over (L : List UInt8) (o : Nat) (m : List UInt8) : List UInt8 := L.take o ++ (m ++ L.drop (o + m.length))

theorem over_length (L : List UInt8) (o : Nat) (m : List UInt8) (h : o + m.length ≤ L.length) : (over L o m).length = L.length := by
  simp [over]
  omega
theorem over_nil (L : List UInt8) (o : Nat) : over L o [] = L := by simp [over]

theorem over_over (L : List UInt8) (o : Nat) (m n : List UInt8) (h : o + m.length ≤ L.length) : over (over L o m) (o + m.length) n = over L o (m ++ n) := by
  unfold over
  have e1 : (L.take o).length = o := by simp; omega
  have e2 : List.take (o + m.length) (L.take o ++ (m ++ L.drop (o + m.length))) = L.take o ++ m := by
    rw [← List.append_assoc, List.take_left' (by simp; omega)]
  have e3 : List.drop (o + m.length + n.length) (L.take o ++ (m ++ L.drop (o + m.length))) = L.drop (o + m.length + n.length) := by
    rw [← List.append_assoc, ← List.drop_drop, List.drop_left' (by simp; omega), List.drop_drop]
  rw [e2, e3]
  simp [Nat.add_assoc]

theorem over_get (L : List UInt8) (o : Nat) (m : List UInt8) (h : o + m.length ≤ L.length) (i : Nat) : (over L o m)[i]? = if o ≤ i ∧ i < o + m.length then m[i - o]? else L[i]? := by
  unfold over
  by_cases h1 : i < o
  · rw [List.getElem?_append_left (by simp; omega), if_neg (by omega)]
    simp [h1]
  · rw [List.getElem?_append_right (by simp; omega)]
    have e : (L.take o).length = o := by simp; omega
    rw [e]
    by_cases h2 : i < o + m.length
    · rw [if_pos (by omega), List.getElem?_append_left (by omega)]
    · rw [if_neg (by omega), List.getElem?_append_right (by omega), List.getElem?_drop]
      congr 1
      omega

/-- A block of bytes. -/
def Buf (w : World) (G : Nat) (L : List UInt8) : Prop := w.heap[G]? = some (.cells (bcells L).toArray 5)

theorem lt_of_blk {w : World} {g : Nat} {o : Obj} (h : w.heap[g]? = some o) : g < w.heap.size := (Array.getElem?_eq_some_iff.mp h).1

theorem bcells_set (L : List UInt8) (k : Nat) (b : UInt8) : (bcells L).toArray.setIfInBounds k (.int .u8 (b.toNat : Int)) = (bcells (L.set k b)).toArray := by
  simp [bcells]

theorem Buf.set {w : World} {G : Nat} {L : List UInt8} (h : Buf w G L) (k : Nat) (b : UInt8) : Buf (w.setCell ⟨G, k, none⟩ (.int .u8 (b.toNat : Int))) G (L.set k b) := by
  unfold Buf at *
  rw [← bcells_set]
  exact heap_setCell_same _ _ _ _ _ _ h
theorem Buf.cell {w : World} {G : Nat} {L : List UInt8} (h : Buf w G L) (k : Nat) (hk : k < L.length) : w.cell? ⟨G, k, none⟩ = some (.int .u8 (L[k].toNat : Int)) ∧ w.frozen? ⟨G, k, none⟩ = false := by
  unfold Buf at h
  constructor
  · simp [World.cell?, h, bcells, hk]
  · simp [World.frozen?, h]
theorem add_at (G o j : Nat) : (⟨G, o, none⟩ : Addr).add j = ⟨G, o + j, none⟩ := by unfold Addr.add; split <;> simp_all
theorem Buf.slB {w : World} {G : Nat} {L : List UInt8} (h : Buf w G L) (o : Nat) : SlB w (some ⟨G, o, none⟩) (L.drop o) :=
  ⟨fun h => by simp at h, fun x hx j u hu => by
    simp at hx
    subst hx
    have hj : j < (L.drop o).length := by have := (List.getElem?_eq_some_iff.1 hu).1; simpa [bcells] using this
    rw [add_at, (h.cell (o + j) (by simp at hj; omega)).1]
    simp [bcells] at hu
    obtain ⟨a, ha, rfl⟩ := hu
    have := (List.getElem?_eq_some_iff.mp ha).2
    rw [this]⟩
theorem SlB.take {w : World} {a : Option Addr} {l : List UInt8} (h : SlB w a l) (n : Nat) : SlB w a (l.take n) :=
  ⟨fun e => by rw [h.nonil e]; simp, fun x hx j u hu => h.cells x hx j u (by
    have hl := (List.getElem?_eq_some_iff.1 hu).1
    simp [bcells] at hl
    rw [← hu]
    unfold bcells
    rw [List.getElem?_map, List.getElem?_map, List.getElem?_take_of_lt (by omega)])⟩
theorem Buf.below {w w' : World} {D G : Nat} {L : List UInt8} (h : Buf w G L) (hb : Below D w w') (hD : w.heap.size ≤ D) : Buf w' G L := by
  unfold Buf at *
  rw [hb.block G (Nat.lt_of_lt_of_le (lt_of_blk h) hD)]
  exact h

/-- Nothing that was there has turned but blocks p and o. -/
structure Touch (p o : Nat) (w w' : World) : Prop where
  os : w'.os = w.os
  tape : w'.tape = w.tape
  output : w'.output = w.output
  size : w.heap.size ≤ w'.heap.size
  block : ∀ k, k < w.heap.size → k ≠ p → k ≠ o → w'.heap[k]? = w.heap[k]?

theorem Touch.of {w w' : World} {p o : Nat} (h : Below w.heap.size w w') : Touch p o w w' := ⟨h.os, h.tape, h.output, h.size, fun k hk _ _ => h.block k hk⟩
theorem Touch.refl (w : World) (p o : Nat) : Touch p o w w := Touch.of (Below.refl _ _)
theorem Touch.trans {w w1 w2 : World} {p o : Nat} (h : Touch p o w w1) (k : Touch p o w1 w2) : Touch p o w w2 :=
  ⟨k.os.trans h.os, k.tape.trans h.tape, k.output.trans h.output, Nat.le_trans h.size k.size, fun i hi h1 h2 => (k.block i (Nat.lt_of_lt_of_le hi h.size) h1 h2).trans (h.block i hi h1 h2)⟩
theorem Touch.setCell {w w1 : World} {p o : Nat} (h : Touch p o w w1) {a : Addr} (ha : a.block = p ∨ a.block = o) (u : Value) : Touch p o w (w1.setCell a u) :=
  ⟨h.os, h.tape, h.output, by simpa using h.size, fun k hk h1 h2 => by
    rw [heap_setCell_other _ _ _ _ (fun e => by rcases ha with ha | ha; exact h1 (e.trans ha); exact h2 (e.trans ha))]
    exact h.block k hk h1 h2⟩
theorem Touch.below {w w1 : World} {p o B : Nat} (h : Touch p o w w1) (hp : B ≤ p) (ho : B ≤ o) (hw : B ≤ w.heap.size) : Below B w w1 :=
  ⟨h.os, h.tape, h.output, h.size, fun k hk => h.block k (by omega) (by omega) (by omega)⟩
theorem Touch.drew {w w1 : World} {p o : Nat} (h : Touch p o w w1) : Touch p o w w1.drew := ⟨h.os, h.tape, h.output, h.size, h.block⟩
theorem Touch.blk {w w' : World} {p o k : Nat} {x : Obj} (h : Touch p o w w') (hk : w.heap[k]? = some x) (h1 : k ≠ p) (h2 : k ≠ o) : w'.heap[k]? = some x := by
  rw [h.block k (lt_of_blk hk) h1 h2]; exact hk
theorem below_on {w W W' : World} (h : Below w.heap.size w W) (h' : Below W.heap.size W W') : Below w.heap.size w W' := h.trans (h'.mono h.size)

theorem bcells_over (L m : List UInt8) (o : Nat) : ((bcells L).toArray.toList.take o ++ bcells m ++ (bcells L).toArray.toList.drop (o + m.length)).toArray = (bcells (over L o m)).toArray := by
  simp [bcells, over]
theorem bcells_one (l : List UInt8) : ∀ v ∈ bcells l, v.oneCell' = true := by
  intro v hv
  simp [bcells] at hv
  obtain ⟨b, _, rfl⟩ := hv
  rfl

/-- Bytes copied over bytes. -/
theorem copy_run {P : Program} (hu : P.underlying 34 = some (.slice 5)) (hs : (P.info? 5).map (·.size) = some 1) (w : World) (G o dLen dCap : Nat) (a : Option Addr) (sCap : Nat) (L m : List UInt8) (h : Buf w G L) (hm : SlB w a m) (h1 : m.length ≤ dLen) (h2 : o + m.length ≤ L.length) :
    ∃ w', (Builtin.copy_ #[34, 34] 3 #[.slice (some ⟨G, o, none⟩) dLen dCap, .slice a m.length sCap]).run P w = .ok (goInt m.length) w' ∧ Buf w' G (over L o m) ∧ (∀ p, Touch p G w w') ∧ (∀ k, k ≠ G → w'.heap[k]? = w.heap[k]?) ∧ w'.heap.size = w.heap.size := by
  cases a with
  | none =>
    have e := hm.nonil rfl
    subst e
    have := run_copy_none (P := P) w 34 34 3 5 (some ⟨G, o, none⟩) none dLen dCap 0 sCap hu hs (by simp)
    exact ⟨w, by simpa using this, by rw [over_nil]; exact h, fun p => Touch.refl _ _ _, fun _ _ => rfl, rfl⟩
  | some x =>
    have hc := run_copy_row (P := P) w 34 34 3 5 G o dLen dCap x m.length sCap (bcells L).toArray 5 (bcells m) hu hs h (by rw [bcells_length]; exact (Nat.min_eq_left h1).symm) (fun j v hv => hm.cells x rfl j v hv) (by rw [bcells_length]; simp [bcells]; exact h2) (bcells_one m)
    rw [bcells_length] at hc
    refine ⟨_, hc, ?_, ?_, fun k hk => setRow_other _ _ _ _ hk, by simp⟩
    · unfold Buf
      rw [setRow_heap _ _ _ _ 5 (0, 0) h, ← bcells_over]
    · exact fun p => ⟨rfl, rfl, rfl, by simp, fun k _ _ hk => setRow_other _ _ _ _ hk⟩

theorem setCells_row (G : Nat) (t : TypeId) : ∀ (cs : List Value) (o : Nat) (w : World) (cur : Array Value), w.heap[G]? = some (.cells cur t) → o + cs.length ≤ cur.size →
    (w.setCells G o cs).heap[G]? = some (.cells (cur.toList.take o ++ cs ++ cur.toList.drop (o + cs.length)).toArray t) ∧ (∀ k, k ≠ G → (w.setCells G o cs).heap[k]? = w.heap[k]?) ∧ (w.setCells G o cs).heap.size = w.heap.size ∧
      (w.setCells G o cs).os = w.os ∧ (w.setCells G o cs).tape = w.tape ∧ (w.setCells G o cs).output = w.output
  | [], o, w, cur, h, _ => by
    have e : w.setCells G o [] = w := rfl
    rw [e]
    exact ⟨by simpa using h, fun _ _ => rfl, rfl, rfl, rfl, rfl⟩
  | v :: r, o, w, cur, h, hl => by
    have h1 := heap_setCell_same w G o cur t v h
    obtain ⟨i1, i2, i3, i4, i5, i6⟩ := setCells_row G t r (o + 1) (w.setCell ⟨G, o, none⟩ v) _ h1 (by simp at hl ⊢; omega)
    simp only [World.setCells]
    refine ⟨?_, fun k hk => (i2 k hk).trans (heap_setCell_other _ _ _ _ hk), i3.trans (by simp), i4.trans rfl, i5.trans rfl, i6.trans rfl⟩
    rw [i1]
    have e := list_seg_step cur.toList o v r (by simp at hl ⊢; omega)
    congr 3
    simpa [Array.toList_setIfInBounds, Nat.add_assoc] using e

end Go.Proofs.Ytbigclhfgcaccaa
