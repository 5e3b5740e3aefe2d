/-
  The stable sort of a row of one's own.
-/
import Derived.Test.YtebchgoaelamcaaDoorTh
import Derived.Test.YtebchgoaelamcaaDoorTd
namespace Go.Proofs.YtebchgoaelamcaaDoor
open Go.Shelf Go.RowKit Go.Lib Go.Sort
set_option maxRecDepth 1000000

theorem cmpLays54 (blk off size : Nat) (w : World) : CmpLays Tryd.prog 54 #[] encP 2 cfP blk off size w :=
  fun _ _ _ _ x y => closure54 x y _

theorem stable_none (p : Option Addr) (cap : Nat) (fv : Value) (w : World) : Calls Tryd.prog 75 #[.slice p 0 cap, .int .i64 0, fv] w fun e w' => e = .returned (.tuple #[]) ∧ w' = w := by
  have HC : Hid (∀ W, Calls Tryd.prog 85 #[.slice p 0 cap, .int .i64 0, .int .i64 0, fv] W fun e w' => e = .returned (.tuple #[]) ∧ w' = W) := fun W => AnyF.insertionSortCmpFunc_none insPr p cap fv W
  go_enter Tryd.func75, Tryd.ntmps75
  go_wp2_with fail
  go_loopw [7, 8] (fun va vb wr => va = .int .i64 0 ∧ vb = .int .i64 20 ∧ wr = w) (fun _ _ _ => 0)
  case atStart => exact ⟨rfl, rfl, rfl⟩
  case round =>
    obtain ⟨rfl, rfl, rfl⟩ := hrel
    go_wp2_with fail
    refine Calls.mono (HC.out _) ?_
    rintro e w2 ⟨rfl, hw2⟩
    have HW := toHid' hw2
    clear hw2
    go_wp2_with fail
    go_loopw [6] (fun vk wk => vk = .int .i64 20 ∧ wk = w2) (fun _ _ => 0)
    case atStart => exact ⟨rfl, rfl⟩
    case round =>
      obtain ⟨rfl, rfl⟩ := hrel
      go_wp2_with fail
      go_end0
      exact ⟨rfl, HW.out⟩

set_option maxHeartbeats 1000000 in
theorem stable_own (B : Nat) (a : Option Addr) (c : Nat) (L : List Pq) (w : World) (ho : w.ownsRow B 74 2 (.slice a L.length c) L.length (pcells L)) (hl : L.length < 1000000) :
    Calls Tryd.prog 53 #[.slice a L.length c, .func (.func 54) #[] #[]] w fun e w' => e = .returned (.tuple #[]) ∧ ∃ L', Rise L' ∧ Stb L L' ∧ w'.ownsRow B 74 2 (.slice a L.length c) L.length (pcells L') ∧ w.grownBy w' (Value.slice a L.length c).ownBlock := by
  have HC : Hid (Calls Tryd.prog 75 #[.slice a L.length c, .int .i64 L.length, .func (.func 54) #[] #[]] w fun e w' => e = .returned (.tuple #[]) ∧ ∃ L', Rise L' ∧ Stb L L' ∧ w'.ownsRow B 74 2 (.slice a L.length c) L.length (pcells L') ∧ w.grownBy w' (Value.slice a L.length c).ownBlock) := by
    rcases ho.2 with ⟨hv, hn⟩ | ⟨g, cap, cur, hv, hB, hh, hc, hm, hs, ht⟩
    · have hL : L = [] := List.eq_nil_of_length_eq_zero hn
      subst hL
      refine Calls.mono (stable_none a c (.func (.func 54) #[] #[]) w) ?_
      rintro e w' ⟨rfl, hw⟩
      obtain rfl := hw.symm
      exact ⟨rfl, [], rise_nil, Stb.refl _, ho, ⟨rfl, rfl, rfl, Nat.le_refl _, fun _ _ _ => rfl⟩⟩
    · injection hv with h1 h2 h3
      subst h1 h3
      have hlen := pcells_length L
      have hH : HoldsK encP 2 w g 0 L.toArray := by
        intro j hj
        rw [size_flatK] at hj
        have hj' : j < L.length * 2 := by simpa using hj
        have hcj : cur.toList[j]? = (pcells L)[j]? := by rw [← ht, List.getElem?_take_of_lt hj']
        have hfl := flat_list L.toArray
        simp only [] at hfl
        have hfs : j < (flatK encP 2 L.toArray).size := by rw [size_flatK]; exact hj
        refine ⟨?_, by simp [World.frozen?, hh]⟩
        have e1 : (flatK encP 2 L.toArray)[j]! = (flatK encP 2 L.toArray)[j] := getElem!_pos _ j hfs
        have e2 : (pcells L)[j]? = some (flatK encP 2 L.toArray)[j] := by
          rw [← hfl, Array.getElem?_toList, Array.getElem?_eq_getElem hfs]
        rw [e2, Array.getElem?_toList] at hcj
        rw [id, e1]
        simp [World.cell?, hh, hcj]
      have F : Fam g L.length w := ⟨⟨L.toArray, by simp, ⟨fun _ => rfl, fun x v hv => by simp [encP] at hv; rcases hv with rfl | rfl <;> rfl, hH, lt_of_blk hh⟩⟩, hl⟩
      refine Calls.mono (stable_any (cap := c) (fun size => cmpLays54 g 0 size w) F L ⟨rfl, SWK.start hH⟩) ?_
      rintro e w' ⟨rfl, M, hr, hst, hML, m, os, rfl⟩
      refine ⟨rfl, M, hr, hst, ⟨?_, .inr ⟨g, c, putCells id 0 (flatK encP 2 M.toArray) cur, rfl, hB, heap_sort w g m M.toArray os cur hh, hc, hm, by simp [putCells, hs], ?_⟩⟩, grown_sort w g m M.toArray os⟩
      · rw [pcells_length, hML]
      · have hfl := flat_list M.toArray
        simp only [] at hfl
        rw [← hfl]
        apply List.ext_getElem?
        intro t
        have hfs : (flatK encP 2 M.toArray).size = L.length * 2 := by rw [size_flatK]; simp [hML]
        by_cases htt : t < L.length * 2
        · rw [List.getElem?_take_of_lt htt, Array.getElem?_toList, Array.getElem?_toList]
          have hcs : t < cur.size := by rw [hs]; have := Nat.mul_le_mul_right 2 hc; omega
          simp only [putCells, Array.getElem?_mapIdx, Array.getElem?_eq_getElem hcs, Option.map_some]
          rw [if_pos ⟨Nat.zero_le _, by omega⟩, Array.getElem?_eq_getElem (by omega), Nat.sub_zero, id, getElem!_pos _ t (by omega)]
        · rw [List.getElem?_eq_none (by simp; omega), List.getElem?_eq_none (by simp; omega)]
  clear ho
  go_enter Tryd.func53, Tryd.ntmps53
  go_wp2_with fail
  refine Calls.mono HC.out ?_
  rintro e w2 ⟨rfl, hE⟩
  have HE := toHid' hE
  clear hE HC
  go_wp2_with fail
  go_end0
  exact ⟨rfl, HE.out⟩
end Go.Proofs.YtebchgoaelamcaaDoor
