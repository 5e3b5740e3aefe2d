/-
  The sort of a row of pairs that is the call's own.
-/
import Derived.Test.YtebchgoaelamcaaDoorX4
import Derived.Shelf.SlSortCmp.NoneTotal
namespace Go.Proofs.YtebchgoaelamcaaDoor
open Go.Shelf Go.RowKit Go.Lib Go.Sort
set_option maxRecDepth 100000

def pcells (L : List Pq) : List Value := L.flatMap encP
theorem pcells_length (L : List Pq) : (pcells L).length = L.length * 2 := by
  induction L with
  | nil => rfl
  | cons x r ih => simp [pcells, encP] at *; omega
theorem pcells_append (L M : List Pq) : pcells (L ++ M) = pcells L ++ pcells M := by simp [pcells]
theorem pcells_at (L : List Pq) (i : Nat) (x : Pq) (h : L[i]? = some x) (j : Nat) (hj : j < 2) : (pcells L)[i * 2 + j]? = (encP x)[j]? := by
  induction L generalizing i with
  | nil => simp at h
  | cons c r ih =>
    have e : pcells (c :: r) = encP c ++ pcells r := rfl
    cases i with
    | zero => simp at h; subst h; rw [e, List.getElem?_append_left (by simp [encP]; omega)]; simp
    | succ i =>
      have := ih i (by simpa using h)
      rw [e, List.getElem?_append_right (by simp [encP]; omega), ← this]
      congr 1
      simp [encP]
      omega
theorem flat_list (d : Array Pq) : (flatK encP 2 d).toList = pcells d.toList := by
  apply List.ext_getElem?
  intro t
  by_cases ht : t < d.size * 2
  · have hi : t / 2 < d.size := by omega
    have hx : d.toList[t / 2]? = some d[t / 2] := by simp [hi]
    have h1 := pcells_at d.toList (t / 2) d[t / 2] hx (t % 2) (by omega)
    rw [show t / 2 * 2 + t % 2 = t by omega] at h1
    rw [h1]
    have hs : t < (flatK encP 2 d).size := by rw [size_flatK]; exact ht
    have h2 := get_flatK encP 2 d t ht
    rw [getElem!_pos _ t hs] at h2
    rw [Array.getElem?_toList, Array.getElem?_eq_getElem hs, h2, getElem!_pos d (t / 2) hi]
    have h3 : t % 2 < (encP d[t / 2]).length := by simp [encP]; omega
    rw [List.getElem?_eq_getElem h3, getElem!_pos (encP d[t / 2]) (t % 2) h3]
  · rw [List.getElem?_eq_none (by simp; omega), List.getElem?_eq_none (by rw [pcells_length]; simp; omega)]
theorem heap_sort (w : World) (g m : Nat) (d : Array Pq) (os : Array Obj) (cur : Array Value) (h : w.heap[g]? = some (.cells cur 74 (0, 0))) : (sortWorldK encP 2 w g 0 m d os).heap[g]? = some (.cells (putCells id 0 (flatK encP 2 d) cur) 74 (0, 0)) := by
  have hlt : g < w.heap.size := lt_of_blk h
  unfold sortWorldK
  rw [heap_grow_old _ _ (by simp [putRowK, putRow, mapBlock, Sort.ahead]; exact hlt)]
  simp only [putRowK, putRow, mapBlock, Sort.ahead]
  simp [Array.getElem?_modify, h, onCells]
theorem heap_sort_other (w : World) (g m k : Nat) (d : Array Pq) (os : Array Obj) (hk : k < w.heap.size) (hne : k ≠ g) : (sortWorldK encP 2 w g 0 m d os).heap[k]? = w.heap[k]? := by
  unfold sortWorldK
  rw [heap_grow_old _ _ (by simp [putRowK, putRow, mapBlock, Sort.ahead]; exact hk)]
  simp only [putRowK, putRow, mapBlock, Sort.ahead]
  rw [Array.getElem?_modify, if_neg (fun e => hne e.symm)]
theorem grown_sort (w : World) (g m : Nat) (d : Array Pq) (os : Array Obj) : w.grownBy (sortWorldK encP 2 w g 0 m d os) (some g) :=
  ⟨rfl, rfl, rfl, by simp [sortWorldK, putRowK, putRow, mapBlock, Sort.ahead], fun k hk hne => heap_sort_other w g m k d os hk (fun e => hne (by rw [e]))⟩

/-- Sorted by the keys. -/
def SortP (L : List Pq) : Prop := ∀ (i j : Nat) (hi : i < L.length) (hj : j < L.length), i < j → ¬ L[j].1 < L[i].1

set_option maxHeartbeats 1000000 in
theorem sort_own (B : Nat) (a : Option Addr) (c : Nat) (L : List Pq) (w : World) (ho : w.ownsRow B 74 2 (.slice a L.length c) L.length (pcells L)) (hl : L.length ≤ 1000000) :
    Calls Tryd.prog 49 #[.slice a L.length c, .func (.func 50) #[] #[]] w fun e w' => e = .returned (.tuple #[]) ∧ ∃ L', L'.Perm L ∧ SortP L' ∧ w'.ownsRow B 74 2 (.slice a L.length c) L.length (pcells L') ∧ w.grownBy w' (Value.slice a L.length c).ownBlock := by
  rcases ho.2 with ⟨hv, hn⟩ | ⟨g, cap, cur, hv, hB, hh, hc, hm, hs, ht⟩
  · have hL : L = [] := List.eq_nil_of_length_eq_zero hn
    subst hL
    have h := AnyF.slices_SortFunc_none sortPr a c (.func (.func 50) #[] #[]) w
    change Calls Tryd.prog 49 _ _ _ at h
    refine Calls.mono h ?_
    rintro e w' ⟨rfl, hw⟩
    obtain rfl := hw.symm
    exact ⟨rfl, [], List.Perm.refl _, fun i j hi => by simp at hi, ho, ⟨rfl, rfl, rfl, Nat.le_refl _, fun _ _ _ => rfl⟩⟩
  · injection hv with h1 h2 h3
    subst h1 h3
    have eg : ∀ args w, (callFunc 50 args).run Tryd.prog w = .ok (.enter 50 args) w := enters_of Tryd.func50 (by kernel_rfl) rfl
    have hlen := pcells_length L
    have hH : HoldsK encP 2 w g 0 L.toArray := by
      intro j hj
      rw [size_flatK] at hj
      have hj' : j < L.length * 2 := by simpa using hj
      have hcj : cur.toList[j]? = (pcells L)[j]? := by rw [← ht, List.getElem?_take_of_lt hj']
      have hfl := flat_list L.toArray
      simp only [] at hfl
      have hfs : j < (flatK encP 2 L.toArray).size := by rw [size_flatK]; exact hj
      refine ⟨?_, by simp [World.frozen?, hh]⟩
      have e1 : (flatK encP 2 L.toArray)[j]! = (flatK encP 2 L.toArray)[j] := getElem!_pos _ j hfs
      have e2 : (pcells L)[j]? = some (flatK encP 2 L.toArray)[j] := by
        rw [← hfl, Array.getElem?_toList, Array.getElem?_eq_getElem hfs]
      rw [e2, Array.getElem?_toList] at hcj
      rw [id, e1]
      simp [World.cell?, hh, hcj]
    have hcon := AnyQ.slices_SortFunc sortPr 2 Tryd.isAgg74 Tryd.sizeOf74 encP (fun _ => rfl) (fun x v hv => by simp [encP] at hv; rcases hv with rfl | rfl <;> rfl) cfP swoP 50 #[] g 0 c L.toArray w eg (cmpLays44 g 0 _ w) hH (lt_of_blk hh) (by simp; omega)
    change Calls Tryd.prog 49 _ _ _ at hcon
    refine Calls.mono hcon ?_
    rintro e w' ⟨rfl, d', m, os, hp, hsd, rfl⟩
    have hsz : d'.size = L.length := by have := hp.1; simpa using this
    have hpm : d'.toList.Perm L := by
      have := hp.2.2
      simp only [List.size_toArray] at this
      rw [Array.extract_eq_self_of_le (by omega), Array.extract_eq_self_of_le (by simp)] at this
      exact this
    have hld : d'.toList.length = L.length := by simpa using hsz
    refine ⟨rfl, d'.toList, hpm, ?_, ⟨?_, .inr ⟨g, c, putCells id 0 (flatK encP 2 d') cur, rfl, hB, heap_sort w g m d' os cur hh, hc, hm, by simp [putCells, hs], ?_⟩⟩, grown_sort w g m d' os⟩
    · intro i j hi hj hij
      have := hsd i j (Nat.zero_le _) hij (by simpa [hsz] using hj)
      rw [ltP, getElem!_pos d' j (by simpa using hj), getElem!_pos d' i (by simpa using hi)] at this
      simpa using this
    · rw [pcells_length, hld]
    · rw [← flat_list]
      apply List.ext_getElem?
      intro t
      have hfs : (flatK encP 2 d').size = L.length * 2 := by rw [size_flatK, hsz]
      by_cases htt : t < L.length * 2
      · rw [List.getElem?_take_of_lt htt, Array.getElem?_toList, Array.getElem?_toList]
        have hcs : t < cur.size := by rw [hs]; have := Nat.mul_le_mul_right 2 hc; omega
        simp only [putCells, Array.getElem?_mapIdx, Array.getElem?_eq_getElem hcs, Option.map_some]
        rw [if_pos ⟨Nat.zero_le _, by omega⟩, Array.getElem?_eq_getElem (by omega), Nat.sub_zero, id, getElem!_pos _ t (by omega)]
      · rw [List.getElem?_eq_none (by simp; omega), List.getElem?_eq_none (by simp; omega)]

end Go.Proofs.YtebchgoaelamcaaDoor
