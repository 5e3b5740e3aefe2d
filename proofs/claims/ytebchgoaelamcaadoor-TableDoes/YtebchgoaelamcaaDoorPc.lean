/-
  find, firstFree, trimmed; a text copied.
-/
import Derived.Test.YtebchgoaelamcaaDoorPb
namespace Go.Proofs.YtebchgoaelamcaaDoor
open Go.RowKit
set_option maxRecDepth 100000

theorem find_any (q : List UInt8) (a : Option Addr) (c : Nat) (l : List Cl) (w : World) (h : SlC w a l) (hl : l.length ≤ 1000000) :
    Calls Tryd.prog 58 #[.slice a l.length c, .string (txt q)] w fun e w' => e = .returned (.int .i64 (ixI (l.findIdx? (isKey q)))) ∧ Below w.heap.size w w' := by
  have hB := (Below.refl w.heap.size w).alloc (Nat.le_refl _) (.cells #[.string (txt q)] 9)
  have hX := (show Hid _ from idx_key q w.heap.size a c l _ (h.below hB) hl (by simp) (by simp))
  clear h
  go_enter Tryd.func58, Tryd.ntmps58
  go_wp2_with fail
  refine Calls.mono hX.out ?_
  rintro e w' ⟨rfl, hb⟩
  have hf := below_on hB hb
  clear hB hb
  go_wp2
  go_ret
  exact ⟨rfl, hf⟩

theorem firstFree_any (a : Option Addr) (c : Nat) (l : List Cl) (w : World) (h : SlC w a l) (hl : l.length ≤ 1000000) :
    Calls Tryd.prog 60 #[.slice a l.length c] w fun e w' => e = .returned (.int .i64 (ixI (l.findIdx? isFree))) ∧ Below w.heap.size w w' := by
  have hX := (show Hid _ from idx_free a c l _ h hl)
  clear h
  go_enter Tryd.func60, Tryd.ntmps60
  go_wp2_with fail
  refine Calls.mono hX.out ?_
  rintro e w' ⟨rfl, hb⟩
  go_wp2
  go_ret
  exact ⟨rfl, hb⟩

theorem trimL_take (l : List Cl) (k : Nat) (hk : k < l.length) (hu : l[k].used = false) : trimL (l.take (k + 1)) = trimL (l.take k) := by
  rw [List.take_add_one, List.getElem?_eq_getElem hk]
  exact trimL_snoc_free _ _ hu

set_option maxHeartbeats 1000000 in
theorem trimmed_any (a : Option Addr) (c : Nat) (l : List Cl) (w : World) (h : SlC w a l) (hl : l.length ≤ 1000000) (hc : l.length ≤ c) :
    Calls Tryd.prog 111 #[.slice a l.length c] w fun e w' => e = .returned (.slice a (trimL l).length c) ∧ w' = w := by
  go_enter Tryd.func111, Tryd.ntmps111
  go_wp2_with fail
  go_loop [3] (fun i => ∃ k : Nat, k ≤ l.length ∧ i = .int .i64 k ∧ trimL (l.take k) = trimL l) (fun i => (intOf i).toNat)
  case atStart => exact ⟨l.length, Nat.le_refl _, rfl, by rw [List.take_length]⟩
  case round =>
    obtain ⟨k, hk, rfl, ht⟩ := hrel
    have HT := (show Hid _ from ht)
    clear ht
    cases k with
    | zero =>
      have e0 : (trimL l).length = 0 := by rw [← HT.out]; rfl
      go_wp2
      go_ret
      exact ⟨rfl, rfl⟩
    | succ k =>
      obtain ⟨b, o, rfl, hbl, c0, c1, c2⟩ := h.at k (by omega)
      have ek : ((k + 1 : Nat) : Int) - 1 = (k : Int) := by omega
      cases hu : l[k].used
      · rw [hu] at c0
        go_wp2_with fail
        go_round
        case rel => exact ⟨k, by omega, by simp, by rw [← trimL_take l k (by omega) hu]; exact HT.out⟩
        case measure => first | omega | (simp only [intOf]; omega)
      · rw [hu] at c0
        have e0 : (trimL l).length = k + 1 := by
          rw [← HT.out, List.take_add_one, List.getElem?_eq_getElem (by omega)]
          simp only [Option.toList_some]
          rw [trimL_snoc_used _ _ hu]
          simp
          omega
        go_wp2
        go_ret
        exact ⟨rfl, rfl⟩

theorem Tryd.info5 : (Tryd.prog.info? 5).map (fun i => (i.zero, i.size, i.bytes)) = some (some (.int .u8 0), 1, 1) := by kernel_rfl

set_option maxRecDepth 100000 in
set_option maxHeartbeats 4000000 in
theorem slite_any (l : List UInt8) (w : World) (hl : l.length ≤ 1000000) :
    Calls Tryd.prog 99 #[.string (txt l)] w fun e w' => e = .returned (.string (txt l)) ∧ Below w.heap.size w w' := by
  have es := txt_size l
  by_cases h0 : l = []
  · subst h0
    go_enter Tryd.func99, Tryd.ntmps99
    go_wp2
    go_ret
    exact ⟨rfl, Below.refl _ _⟩
  · obtain ⟨i0, hi, hz0, hz1, hz2⟩ := info_parts Tryd.info5
    have hinfo : (Tryd.prog.info? 5).map (·.size) = some 1 := by rw [hi]; simp [hz1]
    have hco : Tryd.prog.cellsOf 5 = 1 := by simp [Program.cellsOf, hi, hz1]
    obtain ⟨M, hM⟩ : ∃ M, M = madeCells (Value.int .u8 0).cells (((l.length : Nat) : Int).toNat * i0.size) := ⟨_, rfl⟩
    have hMs : M.size = l.length := by rw [hM, size_madeCells, hz1]; simp
    have hmk : ∀ W : World, (Instr.makeSlice 42 (.int .i64 (l.length : Int)) (.int .i64 (l.length : Int))).run Tryd.prog W = .ok (.slice (some ⟨W.heap.size, 0, none⟩) l.length l.length) (W.alloc (.cells M 5)) := fun W => by
      have h := run_make (P := Tryd.prog) W 42 5 i0 (.int .u8 0) Tryd.underlying42 hi hz0 .i64 .i64 (l.length : Int) (l.length : Int) (by omega) (by omega) (by rw [hz2]; omega) (by omega)
      rw [← hM] at h
      simpa using h
    clear hM
    have hcp := Lib.run_copy_row_string (P := Tryd.prog) (w.alloc (.cells M 5)) 42 9 3 5 w.heap.size 0 l.length l.length (txt l) M 5 Tryd.underlying42 hinfo (heap_alloc_new w _) (by rw [txt_size]; exact Nat.le_refl _) (by omega)
    obtain ⟨Y, hY⟩ : ∃ Y, Y = (M.toList.take 0 ++ Lib.byteCells (txt l).data.toList ++ M.toList.drop (0 + (txt l).size)).toArray := ⟨_, rfl⟩
    rw [← hY] at hcp
    have hYl : Y.toList = Lib.byteCells l := by
      rw [hY, List.toList_toArray, List.take_zero, List.nil_append, List.drop_of_length_le (by rw [Array.length_toList, es]; omega), List.append_nil]
      rfl
    have hYs : Y.size = l.length := by rw [← Array.length_toList, hYl, Lib.byteCells_length]
    have hgY : ((w.alloc (.cells M 5)).setRow w.heap.size Y).heap[w.heap.size]? = some (.cells Y 5 (0, 0)) := setRow_heap _ _ M _ 5 (0, 0) (heap_alloc_new w _)
    have hUS := Lib.run_unsafeString_row (P := Tryd.prog) ((w.alloc (.cells M 5)).setRow w.heap.size Y) 155 3 9 5 Tryd.underlying155 hco w.heap.size Y.size (by unfold World.shape?; rw [hgY]) l h0 (by omega) (by omega)
      (fun j x hx => Lib.cells_of_row hgY Y.size j _ (by rw [List.take_of_length_le (by rw [Array.length_toList]; exact Nat.le_refl _), hYl]; simp [Lib.byteCells, hx]))
    have hb1 : Below w.heap.size w (w.alloc (.cells M 5)) := (Below.refl _ w).alloc (Nat.le_refl _) _
    have hb2 : Below w.heap.size (w.alloc (.cells M 5)) ((w.alloc (.cells M 5)).setRow w.heap.size Y) := ⟨rfl, rfl, rfl, by simp, fun k hk => setRow_other _ _ _ _ (by omega)⟩
    have hfin := Lib.below_freeze (hb1.trans hb2) (p := ⟨w.heap.size, 0, none⟩) (Nat.le_refl _) l.length
    rw [es] at hcp
    have h0' : ¬ (l.length : Int) = 0 := by have := List.length_pos_iff.mpr h0; omega
    have hpos := List.length_pos_iff.mpr h0
    clear hY hb1 hb2 h0
    go_enter Tryd.func99, Tryd.ntmps99
    go_wp2
    go_ret
    exact ⟨rfl, hfin⟩

theorem sclone_any (l : List UInt8) (w : World) (hl : l.length ≤ 1000000) :
    Calls Tryd.prog 78 #[.string (txt l)] w fun e w' => e = .returned (.string (txt l)) ∧ Below w.heap.size w w' := by
  go_enter Tryd.func78, Tryd.ntmps78
  go_wp2_with fail
  refine Calls.mono (slite_any l w hl) ?_
  rintro e w' ⟨rfl, hb⟩
  go_wp2
  go_ret
  exact ⟨rfl, hb⟩

theorem box_in {w W : World} {o : Obj} (h : Below (w.alloc o).heap.size (w.alloc o) W) : W.heap[w.heap.size]? = some o := by
  rw [h.block _ (by simp)]
  exact heap_alloc_new w o
theorem box_in' {W W' : World} {g : Nat} {o : Obj} (h : W.heap[g]? = some o) (hb : Below W.heap.size W W') : W'.heap[g]? = some o := by
  rw [hb.block _ (by have := Array.getElem?_eq_some_iff.mp h; exact this.1)]
  exact h
theorem cell3 {w : World} {g : Nat} {a b c : Value} {t : TypeId} (h : w.heap[g]? = some (.cells #[a, b, c] t)) :
    w.cell? ⟨g, 0, none⟩ = some a ∧ w.cell? ⟨g, 1, none⟩ = some b ∧ w.cell? ⟨g, 2, none⟩ = some c ∧ w.frozen? ⟨g, 0, none⟩ = false ∧ w.frozen? ⟨g, 1, none⟩ = false ∧ w.frozen? ⟨g, 2, none⟩ = false ∧ g < w.heap.size := by
  have hg := (Array.getElem?_eq_some_iff.mp h).1
  refine ⟨?_, ?_, ?_, ?_, ?_, ?_, hg⟩ <;> simp [World.cell?, World.frozen?, h]

set_option maxHeartbeats 1000000 in
theorem kept_any (k v : List UInt8) (w : World) (hk : k.length ≤ 1000000) (hv : v.length ≤ 1000000) :
    Calls Tryd.prog 59 #[.string (txt k), .string (txt v)] w fun e w' => e = .returned (.agg (cellV (cellOfKV k v))) ∧ Below w.heap.size w w' := by
  have hB := (Below.refl w.heap.size w).alloc (Nat.le_refl _) (.cells (cellV Cl.none) 55)
  simp only [cellV, Cl.none] at hB
  go_enter Tryd.func59, Tryd.ntmps59
  go_wp2_with fail
  refine Calls.mono (sclone_any k _ hk) ?_
  rintro e w1 ⟨rfl, hb1⟩
  have hk1 := box_in hb1
  have hB1 := below_on hB hb1
  clear hB hb1
  go_wp2_with fail
  refine Calls.mono (sclone_any v _ hv) ?_
  rintro e w2 ⟨rfl, hb2⟩
  have hk2 := box_in' hk1 hb2
  have hB2 := below_on hB1 hb2
  clear hB1 hb2 hk1
  have hp1 : Below w.heap.size w ((w2.setCell ⟨w.heap.size, 0, none⟩ (.bool true)).setCell ⟨w.heap.size, 1, none⟩ (.string (txt k))) := (hB2.setCell (Nat.le_refl _) _).setCell (Nat.le_refl _) _
  have hfin := hp1.setCell (p := ⟨w.heap.size, 2, none⟩) (Nat.le_refl _) (.string (txt v))
  obtain ⟨q0, q1, q2, f0, f1, f2, hz⟩ := cell3 hk2
  have hk3 := heap_setCell_same _ w.heap.size 2 _ 55 (.string (txt v)) (heap_setCell_same _ w.heap.size 1 _ 55 (.string (txt k)) (heap_setCell_same w2 w.heap.size 0 _ 55 (.bool true) hk2))
  obtain ⟨r0, r1, r2, _⟩ := cell3 (show _ = some (Obj.cells #[.bool true, .string (txt k), .string (txt v)] 55) from hk3)
  clear hk2 hp1 hk3
  go_wp2
  refine bodyPost_ret (v := .agg (cellV (cellOfKV k v))) (by simp only [results, Tryd.results59, go_sem, cellV, cellOfKV]; simp [go_sem, r0, r1, r2]) rfl ⟨rfl, ?_⟩
  exact hfin

end Go.Proofs.YtebchgoaelamcaaDoor
