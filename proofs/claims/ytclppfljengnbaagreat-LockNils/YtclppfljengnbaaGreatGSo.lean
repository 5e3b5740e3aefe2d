/-
  The sort of a row of one's own, of numbers and of texts.
-/
import Derived.Test.YtclppfljengnbaaGreatGGbI
import Derived.Test.YtclppfljengnbaaGreatGRa
import Derived.Shelf.SortM.Plain
import Derived.Shelf.SortM.SortNone
import Derived.Shelf.Lay
import Derived.Ground.SlgmProg
namespace Go.Proofs.YtclppfljengnbaaGreat.Gr
open Go.RowKit Go.Maps Go.Shelf Go.Sort

shelf_lay_g SlLaysM.n5 Slgm 5 at Tryz 60 as laySI
shelf_lay_g SlLaysM.n6 Slgm 6 at Tryz 71 as laySS

section
variable {α : Type} [Inhabited α] (enc : α → Value)
theorem holds_blk {w : World} {g : Nat} {cur : Array Value} {e : TypeId} {ss : List α} (hb : w.heap[g]? = some (.cells cur e (0, 0))) (ht : cur.toList.take ss.length = ss.map enc) : Holds enc w g 0 ss.toArray := by
  intro j hj
  have hj' : j < ss.length := by simpa using hj
  refine ⟨?_, by simp [World.frozen?, hb]⟩
  have h1 : (cur.toList.take ss.length)[j]? = (ss.map enc)[j]? := by rw [ht]
  rw [List.getElem?_take_of_lt hj'] at h1
  simp only [World.cell?, hb, Nat.zero_add]
  simp only [Option.isSome_none, Bool.false_eq_true, if_false]
  rw [← Array.getElem?_toList, h1]
  simp [hj']
theorem heap_srt {w : World} {g n : Nat} {os : Array Obj} {cur : Array Value} {e : TypeId} {fr : Nat × Nat} (d : Array α) (hb : w.heap[g]? = some (.cells cur e fr)) :
    (grow (putRow enc (Sort.ahead w n) g 0 d) os).heap[g]? = some (.cells (putCells enc 0 d cur) e fr) := by
  have hg : g < w.heap.size := (Array.getElem?_eq_some_iff.1 hb).1
  rw [heap_grow_old _ _ (by simpa using hg)]
  simp [putRow, mapBlock, Sort.ahead, Array.getElem?_modify, hb, onCells]
theorem grown_srt {w : World} {g n : Nat} {os : Array Obj} (d : Array α) : w.grownBy (grow (putRow enc (Sort.ahead w n) g 0 d) os) (some g) := by
  refine ⟨rfl, rfl, rfl, by simp, fun k hk hne => ?_⟩
  rw [heap_grow_old _ _ (by simpa using hk)]
  have : g ≠ k := fun e => hne (by rw [e])
  simp [putRow, mapBlock, Sort.ahead, Array.getElem?_modify, this]
theorem take_put (cur : Array Value) (ts : List α) (h : ts.length ≤ cur.size) : (putCells enc 0 ts.toArray cur).toList.take ts.length = ts.map enc := by
  apply List.ext_getElem?
  intro j
  by_cases hj : j < ts.length
  · rw [List.getElem?_take_of_lt hj, Array.getElem?_toList]
    simp [putCells, hj, show j < cur.size by omega]
  · rw [List.getElem?_take_eq_none (by omega), List.getElem?_eq_none (by simp; omega)]
end

theorem sort_go {α : Type} [Inhabited α] {enc : α → Value} {F : Nat} {w : World} {B e c : Nat} {va : Option Addr} {zs ts : List α} (hl : ts.length = zs.length) (h : w.ownsRow B e 1 (.slice va zs.length c) zs.length (zs.map enc))
    (h0 : zs = [] → ts = [] ∧ Calls Tryz.prog F #[.slice va 0 c] w fun e w' => e = .returned (.tuple #[]) ∧ w' = w)
    (h1 : ∀ blk, Holds enc w blk 0 zs.toArray → blk < w.heap.size → Calls Tryz.prog F #[.slice (some ⟨blk, 0, none⟩) zs.length c] w fun e w' => e = .returned (.tuple #[]) ∧ ∃ n os, w' = grow (putRow enc (Sort.ahead w n) blk 0 ts.toArray) os) :
    Calls Tryz.prog F #[.slice va zs.length c] w fun e' w' => e' = .returned (.tuple #[]) ∧ w'.ownsRow B e 1 (.slice va zs.length c) zs.length (ts.map enc) ∧ w.grownBy w' (Value.slice va zs.length c).ownBlock := by
  rcases h.2 with ⟨h2, h3⟩ | ⟨g, cap, cur, hv, h2, h3, h4, h5, h6, h7⟩
  · have hz : zs = [] := List.eq_nil_of_length_eq_zero h3
    obtain ⟨ht, hc⟩ := h0 hz
    subst hz
    refine hc.mono ?_
    rintro e' w' ⟨rfl, rfl⟩
    exact ⟨rfl, by rw [ht]; exact h, ⟨rfl, rfl, rfl, Nat.le_refl _, fun _ _ _ => rfl⟩⟩
  · cases hv
    have hg : g < w.heap.size := (Array.getElem?_eq_some_iff.1 h3).1
    refine (h1 g (holds_blk enc h3 (by simpa using h7)) hg).mono ?_
    rintro e' w' ⟨rfl, n, os, rfl⟩
    refine ⟨rfl, ⟨by simp [hl], .inr ⟨g, c, _, rfl, h2, heap_srt enc _ h3, h4, h5, by simp [putCells, h6], ?_⟩⟩, grown_srt enc _⟩
    rw [Nat.mul_one, ← hl]
    exact take_put enc cur ts (by omega)

def srtI (l : List Int) : List Int := l.mergeSort fun x y => decide (x ≤ y)
def srtT (l : List (List UInt8)) : List (List UInt8) := l.mergeSort fun x y => decide (x ≤ y)

theorem sortI {w : World} {B c : Nat} {va : Option Addr} {zs : List Int} (h : w.ownsRow B 3 1 (.slice va zs.length c) zs.length (zs.map (Value.int .i64))) (hl : zs.length ≤ 1000000) :
    Calls Tryz.prog 60 #[.slice va zs.length c] w fun e' w' => e' = .returned (.tuple #[]) ∧ w'.ownsRow B 3 1 (.slice va zs.length c) zs.length ((srtI zs).map (Value.int .i64)) ∧ w.grownBy w' (Value.slice va zs.length c).ownBlock :=
  sort_go (by simp [srtI]) h (fun e => ⟨by rw [e]; simp [srtI], AnyM.slices_Sort_int_none laySI va c w⟩) (fun blk hh hb => AnyM.slices_Sort_int laySI blk 0 c zs w hh hb (by omega))
theorem sortT {w : World} {B c : Nat} {va : Option Addr} {zs : List (List UInt8)} (h : w.ownsRow B 9 1 (.slice va zs.length c) zs.length (zs.map encStr)) (hl : zs.length ≤ 1000000) :
    Calls Tryz.prog 71 #[.slice va zs.length c] w fun e' w' => e' = .returned (.tuple #[]) ∧ w'.ownsRow B 9 1 (.slice va zs.length c) zs.length ((srtT zs).map encStr) ∧ w.grownBy w' (Value.slice va zs.length c).ownBlock :=
  sort_go (by simp [srtT]) h (fun e => ⟨by rw [e]; simp [srtT], AnyM.slices_Sort_string_none laySS va c w⟩) (fun blk hh hb => AnyM.slices_Sort_string laySS blk 0 c zs w hh hb (by omega))

end Go.Proofs.YtclppfljengnbaaGreat.Gr
