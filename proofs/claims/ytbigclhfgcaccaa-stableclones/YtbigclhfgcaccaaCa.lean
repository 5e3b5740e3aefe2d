/-
  Package stable: Clone.
-/
import Derived.Test.YtbigclhfgcaccaaBf
import Derived.Deep.RegionHeld3
namespace Go.Proofs.Ytbigclhfgcaccaa
open Go.RowKit

/-- A device of which the first hands' writes were copied. -/
def clD (d : Dv) (j : Nat) : Dv := ⟨d.b, d.u.take j ++ List.replicate (8 - j) none⟩

theorem Try.info60 : (Try.prog.info? 60).map (fun i => (i.zero, i.size, i.bytes)) = some (some (.pointer none), 1, 8) := by kernel_rfl

theorem idx61 (arr : Array Value) (j : Nat) (x : Option Addr) (hj : j < 8) (h : arr[j]? = some (.pointer x)) (W : World) : (Instr.index 61 (.agg arr) (.int .i64 (j : Int))).run Try.prog W = .ok (.pointer x) W := by
  have hn : (0 ≤ (j : Int) ∧ (j : Int) < 8) := by omega
  simp [Instr.index, run_underlying Try.underlying61, asIntOf, hn, go_sem]
  rw [if_pos hj, h]
  rfl

theorem clD_none {d : Dv} {j : Nat} (hj : j < 8) (h : d.u[j]? = some none) : clD d (j + 1) = clD d j := by
  unfold clD
  congr 1
  rw [List.take_add_one, h, show 8 - j = (8 - (j + 1)) + 1 by omega, List.replicate_succ]
  simp
theorem clD_some {d : Dv} {j : Nat} {x : Nat × List UInt8} (hj : j < 8) (h8 : d.u.length = 8) (h : d.u[j]? = some (some x)) : (⟨(clD d j).b, (clD d j).u.set j (some x)⟩ : Dv) = clD d (j + 1) := by
  unfold clD
  congr 1
  rw [List.take_add_one, h, show 8 - j = (8 - (j + 1)) + 1 by omega, List.replicate_succ]
  rw [List.set_append_right _ _ (by simp; omega)]
  rw [show j - (d.u.take j).length = 0 by simp; omega]
  simp
theorem clD_all {d : Dv} (h8 : d.u.length = 8) : clD d 8 = d := by
  unfold clD
  rw [List.take_of_length_le (by omega)]
  simp
theorem clD_at {d : Dv} {j : Nat} (hj : j < 8) (h8 : d.u.length = 8) : (clD d j).u[j]? = some none := by
  unfold clD
  rw [List.getElem?_append_right (by simp; omega), List.getElem?_replicate, if_pos (by simp; omega)]

theorem Dev.fresh {w1 : World} {G p q : Nat} {d : Dv} (hg : GoodD d) (hb : Buf w1 G d.b) (hz : w1.heap.size = G + 1) (h1 : p < G) (h2 : q < G) : Dev (w1.alloc (.cells (devC G d.b.length (List.replicate 8 none)) 63)) [p, q] (G + 1) G (clD d 0) where
  good := ⟨hg.small, hg.whole, by simp [clD], fun h a m e => by
    have e' : (List.replicate 8 none)[h]? = some (some (a, m)) := by simpa [clD] using e
    rw [List.getElem?_replicate] at e'; split at e' <;> cases e'⟩
  buf := hb.below ((Below.refl _ _).alloc (Nat.le_refl _) _) (Nat.le_refl _)
  ne := by omega
  avp := by simp; omega
  avG := by simp; omega
  us := ⟨List.replicate 8 none, by simp, by have := heap_alloc_new w1 (.cells (devC G d.b.length (List.replicate 8 none)) 63); rw [hz] at this; exact this, fun h hh => .inl ⟨by rw [List.getElem?_replicate, if_pos hh], by
    have : (clD d 0).u = List.replicate 8 none := by simp [clD]
    rw [this, List.getElem?_replicate, if_pos hh]⟩⟩

set_option maxRecDepth 20000 in
set_option maxHeartbeats 2000000 in
theorem clone_any (p G : Nat) (d : Dv) (w : World) (hd : Dev w [] p G d) :
    Calls Try.prog 21 #[.pointer (some ⟨p, 0, none⟩)] w fun e w' => e = .returned (.pointer (some ⟨w.heap.size + 1, 0, none⟩)) ∧ Dev w' [p, G] (w.heap.size + 1) w.heap.size d ∧ Below w.heap.size w w' := by
  obtain ⟨us, h1, h2, h3⟩ := hd.us
  obtain ⟨c0, cs, cf⟩ := dev_cells h2
  have hs := hd.good.small
  have HC := copied_any (some ⟨G, 0, none⟩) d.b.length d.b w (hd.buf.slB 0) (by omega)
  match us, h1 with
  | [o0, o1, o2, o3, o4, o5, o6, o7], _ =>
    have q0 := cs 0 _ rfl
    have q1 := cs 1 _ rfl
    have q2 := cs 2 _ rfl
    have q3 := cs 3 _ rfl
    have q4 := cs 4 _ rfl
    have q5 := cs 5 _ rfl
    have q6 := cs 6 _ rfl
    have q7 := cs 7 _ rfl
    have hp := hd.lt.1
    clear cs cf
    go_enter Try.func21, Try.ntmps21
    go_wp2_with fail
    refine HC.mono ?_
    rintro e w1 ⟨rfl, hB1, hz1, hb1⟩
    have r0 := (hb1.cell (p := ⟨p, 1, none⟩) hp).trans q0
    have r1 := (hb1.cell (p := ⟨p, 2, none⟩) hp).trans q1
    have r2 := (hb1.cell (p := ⟨p, 3, none⟩) hp).trans q2
    have r3 := (hb1.cell (p := ⟨p, 4, none⟩) hp).trans q3
    have r4 := (hb1.cell (p := ⟨p, 5, none⟩) hp).trans q4
    have r5 := (hb1.cell (p := ⟨p, 6, none⟩) hp).trans q5
    have r6 := (hb1.cell (p := ⟨p, 7, none⟩) hp).trans q6
    have r7 := (hb1.cell (p := ⟨p, 8, none⟩) hp).trans q7
    have hp1 : p < w1.heap.size := by omega
    clear q0 q1 q2 q3 q4 q5 q6 q7 c0
    go_wp2_with fail
    obtain ⟨arr, harr⟩ : ∃ arr, arr = #[flV o0, flV o1, flV o2, flV o3, flV o4, flV o5, flV o6, flV o7] := ⟨_, rfl⟩
    have hA : ∀ (i : Nat) o, [o0, o1, o2, o3, o4, o5, o6, o7][i]? = some o → arr[i]? = some (flV o) := fun i o hi => by
      rw [harr]
      have := congrArg (Option.map flV) hi
      rw [← List.getElem?_map] at this
      simpa using this
    have hsz : arr.size = 8 := by rw [harr]; rfl
    rw [← harr]
    have HA : Hid _ := hA
    have H3 : Hid _ := h3
    clear harr hA r0 r1 r2 r3 r4 r5 r6 r7 h3 h2
    have hD0 : Dev (w1.alloc (.cells (devC w.heap.size d.b.length (List.replicate 8 none)) 63)) [p, G] (w.heap.size + 1) w.heap.size (clD d 0) := Dev.fresh hd.good hB1 hz1 hp hd.lt.2
    have hb2 : Below w.heap.size w (w1.alloc (.cells (devC w.heap.size d.b.length (List.replicate 8 none)) 63)) := hb1.alloc (by omega) _
    go_loopw [19] (fun i wr => ∃ j : Nat, j ≤ 8 ∧ i = .int .i64 j ∧ Dev wr [p, G] (w.heap.size + 1) w.heap.size (clD d j) ∧ Below w.heap.size w wr) (fun i _ => 8 - (intOf i).toNat)
    case atStart => exact ⟨0, by omega, rfl, hD0, hb2⟩
    case round =>
      obtain ⟨j, hj, rfl, hDj, hbj⟩ := hrel
      clear hD0 hb2 hb1 hB1
      by_cases hlt : j < 8
      · rcases H3.out j hlt with ⟨e1, e2⟩ | ⟨q, a', m', e1, e2, e3⟩
        · have hi := HA.out j _ e1
          simp only [flV, Option.map_none] at hi
          have hx := idx61 arr j none hlt hi
          rw [← clD_none hlt e2] at hDj
          go_wp2_with fail
          go_roundw
          case rel => exact ⟨j + 1, by omega, by simp, hDj, hbj⟩
          case measure => first | omega | (simp only [intOf]; omega)
        · have hi := HA.out j _ e1
          simp only [flV, Option.map_some] at hi
          have hx := idx61 arr j _ hlt hi
          obtain ⟨r, w1', w2, w3, w4⟩ := e3.out
          have hql := lt_of_blk w1'
          have hrl := lt_of_blk w2
          have f1 : wr.heap[q]? = some (.cells #[.int .i64 (a' : Int), .slice (some ⟨r, 0, none⟩) m'.length m'.length] 68) := by rw [hbj.block q hql]; exact w1'
          have f2 : Buf wr r m' := w2.below hbj (Nat.le_refl _)
          have q0 : wr.cell? ⟨q, 0, none⟩ = some (.int .i64 (a' : Int)) := by simp [World.cell?, f1]
          have q1 : wr.cell? ⟨q, 1, none⟩ = some (.slice (some ⟨r, 0, none⟩) m'.length m'.length) := by simp [World.cell?, f1]
          obtain ⟨g1, g2, g3, g4⟩ := hd.good.fits j a' m' e2
          have HC2 := copied_any (some ⟨r, 0, none⟩) m'.length m' wr.drew ((f2.slB 0).below (Below.refl _ _).drew) (by omega)
          obtain ⟨vs, k1, k2, k3⟩ := hDj.us
          obtain ⟨_, ks, kf⟩ := dev_cells k2
          have z1 : wr.cell? ⟨w.heap.size + 1, 1 + j, none⟩ = some (.pointer none) := by
            rcases k3 j hlt with ⟨y1, _⟩ | ⟨_, _, _, _, y2, _⟩
            · exact ks j _ y1
            · rw [clD_at hlt hd.good.hands] at y2; simp at y2
          have z2 := kf (1 + j)
          have HU : Hid _ := k3
          have hpl : w.heap.size + 1 < wr.heap.size := hDj.lt.1
          have HF1 : Hid _ := f1
          have HS : Hid (∀ W : World, W.heap[q]? = some (.cells #[.int .i64 (a' : Int), .slice (some ⟨r, 0, none⟩) m'.length m'.length] 68) → (fun W => W.cell? ⟨q, 0, none⟩ = some (.int .i64 (a' : Int)) ∧ W.cell? ⟨q, 1, none⟩ = some (.slice (some ⟨r, 0, none⟩) m'.length m'.length)) W) := fun W hW => ⟨by simp [World.cell?, hW], by simp [World.cell?, hW]⟩
          clear ks kf k3 f1 f2 w1' w2 w3 w4 hi
          go_wp2_with fail
          refine wp_region_held_drew (S := (fun W => W.cell? ⟨q, 0, none⟩ = some (.int .i64 (a' : Int)) ∧ W.cell? ⟨q, 1, none⟩ = some (.slice (some ⟨r, 0, none⟩) m'.length m'.length))) (by kernel_rfl) (HS.out _ HF1.out) (fun hHeld => ?_)
          refine wpAnyH_take (i := 0) (v := ?_) rfl (by kernel_rfl) (by kernel_rfl) (by kernel_rfl) (fun _ _ _ h => h) (Or.inl ⟨by rfl, ?_⟩) (by assumption) ?_
          rotate_left
          · (intro W hSw; (try dsimp only at hSw); go_simp; try with_reducible rfl)
          try simp only [Act.put, List.getElem_toArray, List.getElem_cons_zero, List.setIfInBounds_toArray, List.set_cons_zero, List.set_cons_succ]
          refine wpAnyH_take (i := 1) (v := ?_) rfl (by kernel_rfl) (by kernel_rfl) (by kernel_rfl) (fun _ _ _ h => h) (Or.inl ⟨by rfl, ?_⟩) (by assumption) ?_
          rotate_left
          · (intro W hSw; (try dsimp only at hSw); go_simp; try with_reducible rfl)
          try simp only [Act.put, List.getElem_toArray, List.getElem_cons_zero, List.getElem_cons_succ, List.setIfInBounds_toArray, List.set_cons_zero, List.set_cons_succ]
          refine wpAnyH_take (i := 2) (v := ?_) rfl (by kernel_rfl) (by kernel_rfl) (by kernel_rfl) (fun _ _ _ h => h) (Or.inl ⟨by rfl, ?_⟩) (by assumption) ?_
          rotate_left
          · (intro W hSw; (try dsimp only at hSw); go_simp; try with_reducible rfl)
          try simp only [Act.put, List.getElem_toArray, List.getElem_cons_zero, List.getElem_cons_succ, List.setIfInBounds_toArray, List.set_cons_zero, List.set_cons_succ]
          refine wpAnyH_take (i := 3) (v := ?_) rfl (by kernel_rfl) (by kernel_rfl) (by kernel_rfl) (fun _ _ _ h => h) (Or.inl ⟨by rfl, ?_⟩) (by assumption) ?_
          rotate_left
          · (intro W hSw; (try dsimp only at hSw); go_simp; try with_reducible rfl)
          try simp only [Act.put, List.getElem_toArray, List.getElem_cons_zero, List.getElem_cons_succ, List.setIfInBounds_toArray, List.set_cons_zero, List.set_cons_succ]
          refine wpAnyH_take (i := 4) (v := ?_) rfl (by kernel_rfl) (by kernel_rfl) (by kernel_rfl) (fun _ _ _ h => h) (Or.inl ⟨by rfl, ?_⟩) (by assumption) ?_
          rotate_left
          · (intro W hSw; (try dsimp only at hSw); go_simp; try with_reducible rfl)
          try simp only [Act.put, List.getElem_toArray, List.getElem_cons_zero, List.getElem_cons_succ, List.setIfInBounds_toArray, List.set_cons_zero, List.set_cons_succ]
          refine wpAnyH_take (i := 5) (v := ?_) rfl (by kernel_rfl) (by kernel_rfl) (by kernel_rfl) (fun _ _ _ h => h) (Or.inl ⟨by rfl, ?_⟩) (by assumption) ?_
          rotate_left
          · (intro W hSw; (try dsimp only at hSw); go_simp; try with_reducible rfl)
          try simp only [Act.put, List.getElem_toArray, List.getElem_cons_zero, List.getElem_cons_succ, List.setIfInBounds_toArray, List.set_cons_zero, List.set_cons_succ]
          refine wpAnyH_take (i := 6) (v := ?_) rfl (by kernel_rfl) (by kernel_rfl) (by kernel_rfl) (fun _ _ _ h => h) (Or.inl ⟨by rfl, ?_⟩) (by assumption) ?_
          rotate_left
          · (intro W hSw; (try dsimp only at hSw); go_simp; try with_reducible rfl)
          try simp only [Act.put, List.getElem_toArray, List.getElem_cons_zero, List.getElem_cons_succ, List.setIfInBounds_toArray, List.set_cons_zero, List.set_cons_succ]
          refine wpAnyH_take (i := 7) (v := ?_) rfl (by kernel_rfl) (by kernel_rfl) (by kernel_rfl) (fun _ _ _ h => h) (Or.inl ⟨by rfl, ?_⟩) (by assumption) ?_
          rotate_left
          · (intro W hSw; (try dsimp only at hSw); go_simp; try with_reducible rfl)
          try simp only [Act.put, List.getElem_toArray, List.getElem_cons_zero, List.getElem_cons_succ, List.setIfInBounds_toArray, List.set_cons_zero, List.set_cons_succ]
          refine wpAnyH_take (i := 8) (v := ?_) rfl (by kernel_rfl) (by kernel_rfl) (by kernel_rfl) (fun _ _ _ h => h) (Or.inl ⟨by rfl, ?_⟩) (by assumption) ?_
          rotate_left
          · (intro W hSw; (try dsimp only at hSw); go_simp; try with_reducible rfl)
          try simp only [Act.put, List.getElem_toArray, List.getElem_cons_zero, List.getElem_cons_succ, List.setIfInBounds_toArray, List.set_cons_zero, List.set_cons_succ]
          refine wpAnyH_take (i := 9) (v := ?_) rfl (by kernel_rfl) (by kernel_rfl) (by kernel_rfl) (fun _ _ _ h => h) (Or.inl ⟨by rfl, ?_⟩) (by assumption) ?_
          rotate_left
          · (intro W hSw; (try dsimp only at hSw); go_simp; try with_reducible rfl)
          try simp only [Act.put, List.getElem_toArray, List.getElem_cons_zero, List.getElem_cons_succ, List.setIfInBounds_toArray, List.set_cons_zero, List.set_cons_succ]
          refine wpAnyH_take (i := 13) (v := ?_) rfl (by kernel_rfl) (by kernel_rfl) (by kernel_rfl) (fun _ _ _ h => h) (Or.inl ⟨by rfl, ?_⟩) (by assumption) ?_
          rotate_left
          · (intro W hSw; (try dsimp only at hSw); go_simp; try with_reducible rfl)
          try simp only [Act.put, List.getElem_toArray, List.getElem_cons_zero, List.getElem_cons_succ, List.setIfInBounds_toArray, List.set_cons_zero, List.set_cons_succ]
          refine wpAnyH_take (i := 14) (v := ?_) rfl (by kernel_rfl) (by kernel_rfl) (by kernel_rfl) (fun _ _ _ h => h) (Or.inl ⟨by rfl, ?_⟩) (by assumption) ?_
          rotate_left
          · (intro W hSw; (try dsimp only at hSw); go_simp; try with_reducible rfl)
          try simp only [Act.put, List.getElem_toArray, List.getElem_cons_zero, List.getElem_cons_succ, List.setIfInBounds_toArray, List.set_cons_zero, List.set_cons_succ]
          refine wpAnyH_ready (rs := [10]) (by kernel_rfl) (by simp) ?_
          refine AllReadyH.cons rfl (fun K hK => ?_) AllReadyH.nil
          go_simp
          refine HC2.mono ?_
          rintro e w2 ⟨rfl, hB2, hz2, hb2⟩
          have HZ2 : Hid _ := hz2
          clear hz2
          have F2 : w2.heap[q]? = some (.cells #[.int .i64 (a' : Int), .slice (some ⟨r, 0, none⟩) m'.length m'.length] 68) := by rw [hb2.block q (by show q < wr.heap.size; have := hbj.size; omega)]; exact HF1.out
          try go_wp2_with fail
          refine hK.out _ _ (HS.out _ F2) (fun hHeld => ?_)
          clear hK K
          try simp only [Act.put, List.getElem_toArray, List.getElem_cons_zero, List.getElem_cons_succ, List.setIfInBounds_toArray, List.set_cons_zero, List.set_cons_succ]
          refine wpAnyH_take (i := 11) (v := ?_) rfl (by kernel_rfl) (by kernel_rfl) (by kernel_rfl) (fun _ _ _ h => h) (Or.inl ⟨by rfl, ?_⟩) (by assumption) ?_
          rotate_left
          · (intro W hSw; (try dsimp only at hSw); go_simp; try with_reducible rfl)
          try simp only [Act.put, List.getElem_toArray, List.getElem_cons_zero, List.getElem_cons_succ, List.setIfInBounds_toArray, List.set_cons_zero, List.set_cons_succ]
          have F3 : (w2.alloc (.cells #[.int .i64 (a' : Int), .slice (some ⟨wr.heap.size, 0, none⟩) m'.length m'.length] 68)).heap[q]? = some (.cells #[.int .i64 (a' : Int), .slice (some ⟨r, 0, none⟩) m'.length m'.length] 68) := (Below.heap_alloc _ _ _ (lt_of_blk F2)).trans F2
          refine wpAnyH_ready (rs := [12]) (by kernel_rfl) (by simp) ?_
          refine AllReadyH.cons rfl (fun K hK => ?_) AllReadyH.nil
          go_simp
          refine hK.out _ _ (HS.out _ F3) (fun hHeld => ?_)
          clear hK K
          try simp only [Act.put, List.getElem_toArray, List.getElem_cons_zero, List.getElem_cons_succ, List.setIfInBounds_toArray, List.set_cons_zero, List.set_cons_succ]
          refine wpAnyH_take (i := 15) (v := ?_) rfl (by kernel_rfl) (by kernel_rfl) (by kernel_rfl) (fun _ _ _ h => h) (Or.inl ⟨by rfl, ?_⟩) (by assumption) ?_
          rotate_left
          · (intro W hSw; (try dsimp only at hSw); go_simp; try with_reducible rfl)
          try simp only [Act.put, List.getElem_toArray, List.getElem_cons_zero, List.getElem_cons_succ, List.setIfInBounds_toArray, List.set_cons_zero, List.set_cons_succ]
          have hpl2 : w.heap.size + 1 < w2.heap.size := Nat.lt_of_lt_of_le hpl hb2.size
          have z1' : (w2.alloc (.cells #[.int .i64 (a' : Int), .slice (some ⟨wr.heap.size, 0, none⟩) m'.length m'.length] 68)).cell? ⟨w.heap.size + 1, 1 + j, none⟩ = some (.pointer none) := (World.cell?_of_block (Below.heap_alloc _ _ _ hpl2)).trans ((hb2.cell (p := ⟨w.heap.size + 1, 1 + j, none⟩) hpl).trans z1)
          have z2' : (w2.alloc (.cells #[.int .i64 (a' : Int), .slice (some ⟨wr.heap.size, 0, none⟩) m'.length m'.length] 68)).frozen? ⟨w.heap.size + 1, 1 + j, none⟩ = false := (World.frozen?_of_block (Below.heap_alloc _ _ _ hpl2)).trans ((hb2.frozen (p := ⟨w.heap.size + 1, 1 + j, none⟩) hpl).trans z2)
          have hbX : Below wr.heap.size wr (w2.alloc (.cells #[.int .i64 (a' : Int), .slice (some ⟨wr.heap.size, 0, none⟩) m'.length m'.length] 68)) := ((Below.refl _ wr).drew.trans hb2).alloc hb2.size _
          have hS := start_new (q := wr.heap.size + 1) (r := wr.heap.size) hDj (fun k hk => by simp at hk; have := hbj.size; have := hd.lt; omega) hbX hlt (a := a') g1 g2 (by omega) g4 k1 k2 HU.out
            (by have := heap_alloc_new w2 (.cells #[.int .i64 (a' : Int), .slice (some ⟨wr.heap.size, 0, none⟩) m'.length m'.length] 68); rw [HZ2.out] at this; exact this)
            (Buf.below hB2 ((Below.refl _ w2).alloc (Nat.le_refl _) _) (Nat.le_refl _)) (by omega) (Nat.le_refl _)
          rw [clD_some hlt hd.good.hands e2] at hS
          have HSn : Hid _ := hS
          have F4 : ((w2.alloc (.cells #[.int .i64 (a' : Int), .slice (some ⟨wr.heap.size, 0, none⟩) m'.length m'.length] 68)).setCell ⟨w.heap.size + 1, 1 + j, none⟩ (.pointer (some ⟨wr.heap.size + 1, 0, none⟩))).heap[q]? = some (.cells #[.int .i64 (a' : Int), .slice (some ⟨r, 0, none⟩) m'.length m'.length] 68) := by rw [heap_setCell_other _ _ _ _ (by show q ≠ w.heap.size + 1; omega)]; exact F3
          have hW2 : w2.heap.size = wr.heap.size + 1 := HZ2.out
          generalize hX : w2.alloc (.cells #[.int .i64 (a' : Int), .slice (some ⟨wr.heap.size, 0, none⟩) m'.length m'.length] 68) = W3 at *
          clear hX
          refine wpAnyH_ready (rs := [16]) (by kernel_rfl) (by simp) ?_
          refine AllReadyH.cons rfl (fun K hK => ?_) AllReadyH.nil
          go_simp
          refine hK.out _ _ (HS.out _ F4) (fun hHeld => ?_)
          clear hK K
          refine wpAnyH_done (by kernel_rfl) ?_ _
          have HBn : Hid _ := hbj.trans (HSn.out.2.below (B := w.heap.size) (by omega) (Nat.le_refl _) hbj.size)
          go_wp2_with fail
          go_roundw
          case rel => exact ⟨j + 1, by omega, by simp, HSn.out.1, HBn.out⟩
          case measure => first | omega | (simp only [intOf]; omega)
      · obtain rfl : j = 8 := by omega
        rw [clD_all hd.good.hands] at hDj
        go_wp2_with fail
        go_ret
        exact ⟨rfl, hDj, hbj⟩

end Go.Proofs.Ytbigclhfgcaccaa
