/-
  The sort of a row of one's own, of numbers and of texts.
-/
import Derived.Test.YtclppfljengnbaaGreatMv
import Derived.Test.YtclppfljengnbaaGreatChecked
import Derived.Shelf.Slices.CompactI
import Derived.Shelf.Slices.CompactS
import Derived.Ground.NamesProg
import Derived.Ground.Names2Prog
import Derived.Lib.SlicesCompact
import Derived.Shelf.SlIterI.Nil
import Derived.Shelf.SlIter.Nil
import Derived.Ground.GgzProg
import Derived.Shelf.SortM.Plain
import Derived.Shelf.SortM.SortNone
import Derived.Shelf.Lay
import Derived.Ground.SlgmProg
namespace Go.Proofs.YtclppfljengnbaaGreat
open Go.RowKit Go.Maps Go.Shelf Go.Sort

shelf_lay_g SlLaysM.n5 Slgm 5 at Tryz 60 as laySI
shelf_lay_g SlLaysM.n6 Slgm 6 at Tryz 71 as laySS
shelf_lay Lays.n194 Nm 194 at Tryz as layCS
shelf_lay Lays2.n20 Nm2 20 at Tryz as layCI
shelf_lay_g SlLaysZI.n7 Ggz 7 at Tryz 40 as layKI
shelf_lay_g SlLaysZI.n6 Ggz 6 at Tryz 39 as laySoI
shelf_lay_g SlLaysZ.n7 Ggz 7 at Tryz 52 as layKS
shelf_lay_g SlLaysZ.n6 Ggz 6 at Tryz 51 as laySoS

section
variable {α : Type} [Inhabited α] (enc : α → Value)
theorem holds_blk {w : World} {g : Nat} {cur : Array Value} {e : TypeId} {ss : List α} (hb : w.heap[g]? = some (.cells cur e (0, 0))) (ht : cur.toList.take ss.length = ss.map enc) : Holds enc w g 0 ss.toArray := by
  intro j hj
  have hj' : j < ss.length := by simpa using hj
  refine ⟨?_, by simp [World.frozen?, hb]⟩
  have h1 : (cur.toList.take ss.length)[j]? = (ss.map enc)[j]? := by rw [ht]
  rw [List.getElem?_take_of_lt hj'] at h1
  simp only [World.cell?, hb, Nat.zero_add]
  simp only [Option.isSome_none, Bool.false_eq_true, if_false]
  rw [← Array.getElem?_toList, h1]
  simp [hj']
theorem heap_srt {w : World} {g n : Nat} {os : Array Obj} {cur : Array Value} {e : TypeId} {fr : Nat × Nat} (d : Array α) (hb : w.heap[g]? = some (.cells cur e fr)) :
    (grow (putRow enc (Sort.ahead w n) g 0 d) os).heap[g]? = some (.cells (putCells enc 0 d cur) e fr) := by
  have hg : g < w.heap.size := (Array.getElem?_eq_some_iff.1 hb).1
  rw [heap_grow_old _ _ (by simpa using hg)]
  simp [putRow, mapBlock, Sort.ahead, Array.getElem?_modify, hb, onCells]
theorem grown_srt {w : World} {g n : Nat} {os : Array Obj} (d : Array α) : w.grownBy (grow (putRow enc (Sort.ahead w n) g 0 d) os) (some g) := by
  refine ⟨rfl, rfl, rfl, by simp, fun k hk hne => ?_⟩
  rw [heap_grow_old _ _ (by simpa using hk)]
  have : g ≠ k := fun e => hne (by rw [e])
  simp [putRow, mapBlock, Sort.ahead, Array.getElem?_modify, this]
theorem take_put (cur : Array Value) (ts : List α) (h : ts.length ≤ cur.size) : (putCells enc 0 ts.toArray cur).toList.take ts.length = ts.map enc := by
  apply List.ext_getElem?
  intro j
  by_cases hj : j < ts.length
  · rw [List.getElem?_take_of_lt hj, Array.getElem?_toList]
    simp [putCells, hj, show j < cur.size by omega]
  · rw [List.getElem?_take_eq_none (by omega), List.getElem?_eq_none (by simp; omega)]
end

theorem sort_go {α : Type} [Inhabited α] {enc : α → Value} {F : Nat} {w : World} {B e c : Nat} {va : Option Addr} {zs ts : List α} (hl : ts.length = zs.length) (h : w.ownsRow B e 1 (.slice va zs.length c) zs.length (zs.map enc))
    (h0 : zs = [] → ts = [] ∧ Calls Tryz.prog F #[.slice va 0 c] w fun e w' => e = .returned (.tuple #[]) ∧ w' = w)
    (h1 : ∀ blk, Holds enc w blk 0 zs.toArray → blk < w.heap.size → Calls Tryz.prog F #[.slice (some ⟨blk, 0, none⟩) zs.length c] w fun e w' => e = .returned (.tuple #[]) ∧ ∃ n os, w' = grow (putRow enc (Sort.ahead w n) blk 0 ts.toArray) os) :
    Calls Tryz.prog F #[.slice va zs.length c] w fun e' w' => e' = .returned (.tuple #[]) ∧ w'.ownsRow B e 1 (.slice va zs.length c) zs.length (ts.map enc) ∧ w.grownBy w' (Value.slice va zs.length c).ownBlock := by
  rcases h.2 with ⟨h2, h3⟩ | ⟨g, cap, cur, hv, h2, h3, h4, h5, h6, h7⟩
  · have hz : zs = [] := List.eq_nil_of_length_eq_zero h3
    obtain ⟨ht, hc⟩ := h0 hz
    subst hz
    refine hc.mono ?_
    rintro e' w' ⟨rfl, rfl⟩
    exact ⟨rfl, by rw [ht]; exact h, ⟨rfl, rfl, rfl, Nat.le_refl _, fun _ _ _ => rfl⟩⟩
  · cases hv
    have hg : g < w.heap.size := (Array.getElem?_eq_some_iff.1 h3).1
    refine (h1 g (holds_blk enc h3 (by simpa using h7)) hg).mono ?_
    rintro e' w' ⟨rfl, n, os, rfl⟩
    refine ⟨rfl, ⟨by simp [hl], .inr ⟨g, c, _, rfl, h2, heap_srt enc _ h3, h4, h5, by simp [putCells, h6], ?_⟩⟩, grown_srt enc _⟩
    rw [Nat.mul_one, ← hl]
    exact take_put enc cur ts (by omega)

def srtI (l : List Int) : List Int := l.mergeSort fun x y => decide (x ≤ y)
def srtT (l : List (List UInt8)) : List (List UInt8) := l.mergeSort fun x y => decide (x ≤ y)

theorem sortI {w : World} {B c : Nat} {va : Option Addr} {zs : List Int} (h : w.ownsRow B 3 1 (.slice va zs.length c) zs.length (zs.map (Value.int .i64))) (hl : zs.length ≤ 1000000) :
    Calls Tryz.prog 60 #[.slice va zs.length c] w fun e' w' => e' = .returned (.tuple #[]) ∧ w'.ownsRow B 3 1 (.slice va zs.length c) zs.length ((srtI zs).map (Value.int .i64)) ∧ w.grownBy w' (Value.slice va zs.length c).ownBlock :=
  sort_go (by simp [srtI]) h (fun e => ⟨by rw [e]; simp [srtI], AnyM.slices_Sort_int_none laySI va c w⟩) (fun blk hh hb => AnyM.slices_Sort_int laySI blk 0 c zs w hh hb (by omega))
theorem sortT {w : World} {B c : Nat} {va : Option Addr} {zs : List (List UInt8)} (h : w.ownsRow B 9 1 (.slice va zs.length c) zs.length (zs.map encStr)) (hl : zs.length ≤ 1000000) :
    Calls Tryz.prog 71 #[.slice va zs.length c] w fun e' w' => e' = .returned (.tuple #[]) ∧ w'.ownsRow B 9 1 (.slice va zs.length c) zs.length ((srtT zs).map encStr) ∧ w.grownBy w' (Value.slice va zs.length c).ownBlock :=
  sort_go (by simp [srtT]) h (fun e => ⟨by rw [e]; simp [srtT], AnyM.slices_Sort_string_none laySS va c w⟩) (fun blk hh hb => AnyM.slices_Sort_string laySS blk 0 c zs w hh hb (by omega))

/-! What slices.Compact leaves of a row that rises: each once, rising. -/
section
variable {α : Type} [Inhabited α] [DecidableEq α]
theorem compact_mem (zs : List α) (x : α) : x ∈ Lib.compact zs ↔ x ∈ zs := by
  unfold Lib.compact Lib.compactUpTo
  simp only [List.mem_map, List.mem_filter, List.mem_range]
  constructor
  · rintro ⟨j, ⟨hj, _⟩, rfl⟩
    simp [hj]
  · intro hx
    obtain ⟨i, hi, rfl⟩ := List.getElem_of_mem hx
    have key : ∀ i, i < zs.length → ∃ j, j ≤ i ∧ Lib.keeps zs.toArray j = true ∧ zs.toArray[j]! = zs.toArray[i]! := fun i => by
      induction i with
      | zero => intro _; exact ⟨0, Nat.le_refl _, by simp [Lib.keeps], rfl⟩
      | succ i ih =>
        intro hi
        by_cases hk : Lib.keeps zs.toArray (i + 1) = true
        · exact ⟨i + 1, Nat.le_refl _, hk, rfl⟩
        · obtain ⟨j, h1, h2, h3⟩ := ih (by omega)
          refine ⟨j, by omega, h2, h3.trans ?_⟩
          simp [Lib.keeps] at hk
          simpa using hk.symm
    obtain ⟨j, h1, h2, h3⟩ := key i hi
    exact ⟨j, ⟨by omega, h2⟩, by rw [h3]; simp [hi]⟩
theorem compact_rise (R S : α → α → Prop) (zs : List α) (hs : zs.Pairwise R) (hr : ∀ x, R x x) (anti : ∀ x y, R x y → R y x → x = y) (strict : ∀ x y, R x y → x ≠ y → S x y) : (Lib.compact zs).Pairwise S := by
  unfold Lib.compact Lib.compactUpTo
  have hle : ∀ i j, i ≤ j → j < zs.length → R zs.toArray[i]! zs.toArray[j]! := fun i j hij hj => by
    have e1 : zs.toArray[i]! = zs[i] := by simp [show i < zs.length by omega]
    have e2 : zs.toArray[j]! = zs[j] := by simp [hj]
    rw [e1, e2]
    rcases Nat.lt_or_ge i j with h | h
    · exact List.pairwise_iff_getElem.1 hs i j (by omega) hj h
    · obtain rfl : i = j := by omega
      exact hr _
  rw [List.pairwise_map, List.pairwise_filter]
  refine List.Pairwise.imp_of_mem (R := fun a b => a < b) ?_ List.pairwise_lt_range
  intro a b ha hb hab hka hkb
  rw [List.mem_range] at hb
  refine strict _ _ (hle a b (by omega) hb) fun e => ?_
  simp [Lib.keeps] at hkb
  rcases hkb with h | h
  · omega
  · refine h ?_
    have h1 := hle a (b - 1) (by omega) (by omega)
    have h2 := hle (b - 1) b (by omega) hb
    rw [e] at h1
    have := anti _ _ h2 h1
    simpa using this.symm
end
theorem srtI_le (l : List Int) : (srtI l).Pairwise (· ≤ ·) := by
  have := List.pairwise_mergeSort (le := fun x y : Int => decide (x ≤ y)) (fun a b c h1 h2 => by simp at *; exact Int.le_trans h1 h2) (fun a b => by simp; exact Int.le_total a b) l
  exact this.imp fun h => by simpa using h
theorem srtT_le (l : List (List UInt8)) : (srtT l).Pairwise (· ≤ ·) := by
  have := List.pairwise_mergeSort (le := fun x y : (List UInt8) => decide (x ≤ y)) (fun a b c h1 h2 => by simp at *; exact List.le_trans h1 h2) (fun a b => by simp; exact List.le_total a b) l
  exact this.imp fun h => by simpa using h
theorem srtI_perm (l : List Int) : (srtI l).Perm l := List.mergeSort_perm _ _
theorem srtT_perm (l : List (List UInt8)) : (srtT l).Perm l := List.mergeSort_perm _ _
theorem cmpI_rise (l : List Int) : (Lib.compact (srtI l)).Pairwise (· < ·) := compact_rise (· ≤ ·) (· < ·) _ (srtI_le l) Int.le_refl (fun x y h1 h2 => Int.le_antisymm h1 h2) (fun x y h1 h2 => by omega)
theorem cmpT_rise (l : List (List UInt8)) : (Lib.compact (srtT l)).Pairwise (· < ·) := compact_rise (· ≤ ·) (· < ·) _ (srtT_le l) List.le_refl (fun x y h1 h2 => List.le_antisymm h1 h2) (fun x y h1 h2 => by
  refine Classical.byContradiction fun h => h2 (List.le_antisymm h1 (List.not_lt.1 h)))

theorem comp_go {α : Type} [Inhabited α] [DecidableEq α] {enc : α → Value} {z : α} {F : Nat} {w : World} {B e c : Nat} {va : Option Addr} {zs : List α} (h : w.ownsRow B e 1 (.slice va zs.length c) zs.length (zs.map enc))
    (h0 : Calls Tryz.prog F #[.slice none 0 0] w fun e w' => e = .returned (.slice none 0 0) ∧ w' = w)
    (h1 : ∀ blk, Holds enc w blk 0 zs.toArray → zs.length ≤ c → Calls Tryz.prog F #[.slice (some ⟨blk, 0, none⟩) zs.length c] w fun e w' => e = .returned (.slice (some ⟨blk, 0, none⟩) (Lib.compact zs).length c) ∧ ∃ q, w' = putRow enc (Sort.ahead w q) blk 0 (Lib.compact zs ++ List.replicate (zs.length - (Lib.compact zs).length) z).toArray)
    (hle : (Lib.compact zs).length ≤ zs.length) :
    Calls Tryz.prog F #[.slice va zs.length c] w fun e' w' => e' = .returned (.slice va (Lib.compact zs).length c) ∧ w'.ownsRow B e 1 (.slice va (Lib.compact zs).length c) (Lib.compact zs).length ((Lib.compact zs).map enc) ∧ w.grownBy w' (Value.slice va zs.length c).ownBlock := by
  rcases h.2 with ⟨h2, h3⟩ | ⟨g, cap, cur, hv, h2, h3, h4, h5, h6, h7⟩
  · have hz : zs = [] := List.eq_nil_of_length_eq_zero h3
    subst hz
    injection h2 with e1 e2 e3
    subst e1
    subst e3
    refine h0.mono ?_
    rintro e' w' ⟨rfl, rfl⟩
    exact ⟨rfl, h, ⟨rfl, rfl, rfl, Nat.le_refl _, fun _ _ _ => rfl⟩⟩
  · cases hv
    refine (h1 g (holds_blk enc h3 (by simpa using h7)) h4).mono ?_
    rintro e' w' ⟨rfl, q, rfl⟩
    have hl : (Lib.compact zs ++ List.replicate (zs.length - (Lib.compact zs).length) z).length = zs.length := by simp; omega
    refine ⟨rfl, ⟨by simp, .inr ⟨g, c, putCells enc 0 (Lib.compact zs ++ List.replicate (zs.length - (Lib.compact zs).length) z).toArray cur, rfl, h2, ?_, by omega, h5, by simp [putCells, h6], ?_⟩⟩, ?_⟩
    · simp [putRow, mapBlock, Sort.ahead, Array.getElem?_modify, h3, onCells]
    · have h8 := take_put enc cur (Lib.compact zs ++ List.replicate (zs.length - (Lib.compact zs).length) z) (by rw [hl]; omega)
      rw [hl] at h8
      have h9 := congrArg (List.take (Lib.compact zs).length) h8
      rw [List.take_take, Nat.min_eq_left hle] at h9
      rw [Nat.mul_one, h9]
      simp
    · refine ⟨rfl, rfl, rfl, by simp [putRow, mapBlock, Sort.ahead], fun k hk hne => ?_⟩
      have : g ≠ k := fun e => hne (by rw [e]; rfl)
      simp [putRow, mapBlock, Sort.ahead, Array.getElem?_modify, this]
theorem compact_len {α : Type} [Inhabited α] [DecidableEq α] (zs : List α) : (Lib.compact zs).length ≤ zs.length := by
  unfold Lib.compact Lib.compactUpTo
  rw [List.length_map]
  exact Nat.le_trans (List.length_filter_le _ _) (by simp)
theorem compT {w : World} {B c : Nat} {va : Option Addr} {zs : List (List UInt8)} (h : w.ownsRow B 9 1 (.slice va zs.length c) zs.length (zs.map encStr)) (hl : zs.length ≤ 1000000) :
    Calls Tryz.prog 72 #[.slice va zs.length c] w fun e' w' => e' = .returned (.slice va (Lib.compact zs).length c) ∧ w'.ownsRow B 9 1 (.slice va (Lib.compact zs).length c) (Lib.compact zs).length ((Lib.compact zs).map encStr) ∧ w.grownBy w' (Value.slice va zs.length c).ownBlock :=
  comp_go (z := []) h (Any.slices_Compact_string_empty layCS none 0 w) (fun blk hh hc => Any.slices_Compact_string layCS blk 0 c zs w hh (by omega) hc) (compact_len zs)
theorem compI {w : World} {B c : Nat} {va : Option Addr} {zs : List Int} (h : w.ownsRow B 3 1 (.slice va zs.length c) zs.length (zs.map (Value.int .i64))) (hl : zs.length ≤ 1000000) :
    Calls Tryz.prog 61 #[.slice va zs.length c] w fun e' w' => e' = .returned (.slice va (Lib.compact zs).length c) ∧ w'.ownsRow B 3 1 (.slice va (Lib.compact zs).length c) (Lib.compact zs).length ((Lib.compact zs).map (Value.int .i64)) ∧ w.grownBy w' (Value.slice va zs.length c).ownBlock :=
  comp_go (z := 0) h (Any.slices_Compact_int_empty layCI none 0 w) (fun blk hh hc => Any.slices_Compact_int layCI blk 0 c zs w hh (by omega) hc) (compact_len zs)

end Go.Proofs.YtclppfljengnbaaGreat
