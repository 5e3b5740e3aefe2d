/-
  The walk of GraphLeads.
-/
import Derived.Test.YtoihjkpjijncdaaLb
namespace Go.Proofs.Ytoihjkpjijncdaa
open Go.RowKit Go.Maps

theorem ldsB_edge {l : List (Int × Int)} {n i : Nat} (h : i < l.length) (hn : i < n) : ldsB (madeE l n) (.int .i64 l[i].1) (.int .i64 l[i].2) = true := by
  unfold ldsB
  rw [decide_eq_true_iff]
  refine .one ?_
  simp only [outE, decide_eq_true_iff]
  exact mem_madeE.2 ⟨l[i], List.mem_take_iff_getElem.2 ⟨i, by omega, rfl⟩, rfl⟩
theorem ldsB_trans (E : List (Lit × Lit)) (a b c : Lit) (h1 : ldsB E a b = true) (h2 : ldsB E b c = true) : ldsB E a c = true := by
  unfold ldsB at *
  rw [decide_eq_true_iff] at *
  exact h1.trans h2

set_option maxRecDepth 100000 in
set_option maxHeartbeats 2000000 in
theorem leads_walk {w : World} {a : Option Addr} {c : Nat} {l : List (Int × Int)} (hL : SlE w a l) {x y z : Int} (hx : (Lit.int .i64 x).wf = true) (hy : (Lit.int .i64 y).wf = true) (hz : (Lit.int .i64 z).wf = true) :
    Calls Try.prog 4 #[.slice a l.length c, .agg #[.int .i64 x, .int .i64 y, .int .i64 z]] w fun e w' => e = .returned (.bool true) ∧ Below w.heap.size w w' := by
  have HL := toHid hL
  clear hL
  have hblk := (MapKept.heap_alloc w (.cells #[.int .i64 x, .int .i64 y, .int .i64 z] 39)).1
  have HB0 : Hid (Below w.heap.size w (w.alloc (.cells #[.int .i64 x, .int .i64 y, .int .i64 z] 39)).drew) := ((Below.refl _ _).alloc (Nat.le_refl _) _).drew
  go_enter Try.func4, Try.ntmps4
  go_wp2_with fail
  go_region
  go_wp2_with fail
  refine (made19 (HL.out.below HB0.out)).mono ?_
  rintro e w1 ⟨p, S, rfl, hM⟩
  have HG1 := toHid hM.gr
  have HB1 := toHid (below_next HB0.out HB0.out.size hM.low)
  have HE : Hid (∀ i, (h : i < l.length) → i < 60 → ldsB (madeE l 60) (.int .i64 l[i].1) (.int .i64 l[i].2) = true) := fun i h hn => ldsB_edge h hn
  have hEl := madeE_len l 60
  generalize madeE l 60 = E at *
  clear hM hblk HB0
  go_wp2_with fail
  go_loopw [9] (fun k W => ∃ i : Nat, i ≤ l.length ∧ i ≤ 60 ∧ k = .int .i64 i ∧ Hid (Gr 3 61 W p 60 E S) ∧ Hid (Below w.heap.size w W)) (fun k _ => l.length - (intOf k).toNat)
  case atStart => exact ⟨0, Nat.zero_le _, by omega, rfl, HG1, HB1⟩
  case round =>
    obtain ⟨i, hi, h60, rfl, HG, HB⟩ := hrel
    clear HG1 HB1
    have hq2 : 0 ≤ (i : Int) := by omega
    have hend : i < l.length ∧ i < 60 ∨ (¬ (i < l.length ∧ i < 60)) := by omega
    rcases hend with ⟨hlt, h6⟩ | hend
    · have hq1 : (i : Int) < (l.length : Int) := by omega
      obtain ⟨b, o, rfl, c0, c1⟩ := HL.out.at_ i hlt
      obtain ⟨hu, hv⟩ := HL.out.wf l[i] (List.getElem_mem hlt)
      have he1 := HE.out i hlt h6
      obtain ⟨e, he⟩ : ∃ e, l[i] = e := ⟨_, rfl⟩
      rw [he] at c0 c1 hu hv he1
      obtain ⟨u, v⟩ := e
      have HEQ : Hid (ldsB E (.int .i64 u) (.int .i64 v) = true) := he1
      have hu : (Lit.int .i64 u).wf = true := hu
      have hv : (Lit.int .i64 v).wf = true := hv
      have HC : Hid (∀ W, Below w.heap.size w W → W.cell? ⟨b, o + i * 2, none⟩ = some (.int .i64 u) ∧ W.cell? ⟨b, o + i * 2 + 1, none⟩ = some (.int .i64 v)) := fun W hW => ⟨cell_low c0 (cell_lt c0) hW, cell_low c1 (cell_lt c1) hW⟩
      clear he he1 c0 c1
      have hbd : Below w.heap.size w wr.drew := HB.out.drew
      have HGd := toHid (show Gr 3 61 wr.drew p 60 E S from HG.out.at fun _ _ => rfl)
      have hq3 : (i : Int) < 60 := by omega
      go_wp2_with fail
      go_region_held3 (fun W => W.cell? ⟨b, o + i * 2, none⟩ = some (.int .i64 u) ∧ W.cell? ⟨b, o + i * 2 + 1, none⟩ = some (.int .i64 v)) (exact HC.out _ (by assumption)) (first | (go_at_call 20; refine (leads20 HGd.out (keyI hu) (keyI hv) (by omega)).mono ?_; rintro e w2 ⟨rfl, hb2⟩; rw [HEQ.out]; have HG2 := toHid (HGd.out.below hb2); have hbn : Below w.heap.size w w2 := below_next hbd hbd.size hb2; have HB2 := toHid hbn; clear hb2))
      go_wp2_with fail
      go_roundw
      case rel => exact ⟨i + 1, by omega, by omega, by simp, HG2, HB2⟩
      case measure => first | omega | (simp only [intOf]; omega)
    · by_cases hlt : i < l.length
      · obtain rfl : i = 60 := by omega
        have hq1 : ((60 : Nat) : Int) < (l.length : Int) := by omega
        clear hend
        have hkx := keyI hx
        have hky := keyI hy
        have hkz := keyI hz
        have HG5 := HG
        have tok5 : True := trivial
        have tok6 : True := trivial
        have tok7 : True := trivial
        have HB5 := HB
        rcases Bool.eq_false_or_eq_true (ldsB E (.int .i64 x) (.int .i64 y)) with h1 | h1
        · have H1 := toHid h1
          rcases Bool.eq_false_or_eq_true (ldsB E (.int .i64 y) (.int .i64 z)) with h2 | h2
          · have H2 := toHid h2
            have H3 := toHid (ldsB_trans E _ _ _ h1 h2)
            clear h1 h2
            go_wp2_with (first
              | (go_at_call 20; have _t := tok5; refine (leads20 HG5.out hkx hky (by omega)).mono ?_; rintro e v6 ⟨rfl, hb6⟩; rw [H1.out]; have HG6 := toHid (HG5.out.below hb6); have HB6 := toHid (below_next HB5.out HB5.out.size hb6); clear hb6 tok5)
              | (go_at_call 20; have _t := tok6; refine (leads20 HG6.out hky hkz (by omega)).mono ?_; rintro e v7 ⟨rfl, hb7⟩; rw [H2.out]; have HG7 := toHid (HG6.out.below hb7); have HB7 := toHid (below_next HB6.out HB6.out.size hb7); clear hb7 tok6)
              | (go_at_call 20; have _t := tok7; refine (leads20 HG7.out hkx hkz (by omega)).mono ?_; rintro e v8 ⟨rfl, hb8⟩; rw [H3.out]; have HG8 := toHid (HG7.out.below hb8); have HB8 := toHid (below_next HB7.out HB7.out.size hb8); clear hb8 tok7)
              | (go_at_call 18; refine (lives18 _).mono ?_; rintro e v9 ⟨rfl, hb9⟩; have HB9 := toHid (below_next HB8.out HB8.out.size hb9); clear hb9)
              | fail)
            go_ret
            exact ⟨rfl, HB9.out⟩
          · have H2 := toHid h2
            clear h1 h2
            go_wp2_with (first
              | (go_at_call 20; have _t := tok5; refine (leads20 HG5.out hkx hky (by omega)).mono ?_; rintro e v6 ⟨rfl, hb6⟩; rw [H1.out]; have HG6 := toHid (HG5.out.below hb6); have HB6 := toHid (below_next HB5.out HB5.out.size hb6); clear hb6 tok5)
              | (go_at_call 20; have _t := tok6; refine (leads20 HG6.out hky hkz (by omega)).mono ?_; rintro e v7 ⟨rfl, hb7⟩; rw [H2.out]; have HG7 := toHid (HG6.out.below hb7); have HB7 := toHid (below_next HB6.out HB6.out.size hb7); clear hb7 tok6)
              | (go_at_call 18; refine (lives18 _).mono ?_; rintro e v9 ⟨rfl, hb9⟩; have HB9 := toHid (below_next HB7.out HB7.out.size hb9); clear hb9)
              | fail)
            go_ret
            exact ⟨rfl, HB9.out⟩
        · have H1 := toHid h1
          clear h1
          go_wp2_with (first
            | (go_at_call 20; have _t := tok5; refine (leads20 HG5.out hkx hky (by omega)).mono ?_; rintro e v6 ⟨rfl, hb6⟩; rw [H1.out]; have HG6 := toHid (HG5.out.below hb6); have HB6 := toHid (below_next HB5.out HB5.out.size hb6); clear hb6 tok5)
            | (go_at_call 18; refine (lives18 _).mono ?_; rintro e v9 ⟨rfl, hb9⟩; have HB9 := toHid (below_next HB6.out HB6.out.size hb9); clear hb9)
            | fail)
          go_ret
          exact ⟨rfl, HB9.out⟩
      · obtain rfl : i = l.length := by omega
        clear hend hlt
        have hkx := keyI hx
        have hky := keyI hy
        have hkz := keyI hz
        have HG5 := HG
        have tok5 : True := trivial
        have tok6 : True := trivial
        have tok7 : True := trivial
        have HB5 := HB
        rcases Bool.eq_false_or_eq_true (ldsB E (.int .i64 x) (.int .i64 y)) with h1 | h1
        · have H1 := toHid h1
          rcases Bool.eq_false_or_eq_true (ldsB E (.int .i64 y) (.int .i64 z)) with h2 | h2
          · have H2 := toHid h2
            have H3 := toHid (ldsB_trans E _ _ _ h1 h2)
            clear h1 h2
            go_wp2_with (first
              | (go_at_call 20; have _t := tok5; refine (leads20 HG5.out hkx hky (by omega)).mono ?_; rintro e v6 ⟨rfl, hb6⟩; rw [H1.out]; have HG6 := toHid (HG5.out.below hb6); have HB6 := toHid (below_next HB5.out HB5.out.size hb6); clear hb6 tok5)
              | (go_at_call 20; have _t := tok6; refine (leads20 HG6.out hky hkz (by omega)).mono ?_; rintro e v7 ⟨rfl, hb7⟩; rw [H2.out]; have HG7 := toHid (HG6.out.below hb7); have HB7 := toHid (below_next HB6.out HB6.out.size hb7); clear hb7 tok6)
              | (go_at_call 20; have _t := tok7; refine (leads20 HG7.out hkx hkz (by omega)).mono ?_; rintro e v8 ⟨rfl, hb8⟩; rw [H3.out]; have HG8 := toHid (HG7.out.below hb8); have HB8 := toHid (below_next HB7.out HB7.out.size hb8); clear hb8 tok7)
              | (go_at_call 18; refine (lives18 _).mono ?_; rintro e v9 ⟨rfl, hb9⟩; have HB9 := toHid (below_next HB8.out HB8.out.size hb9); clear hb9)
              | fail)
            go_ret
            exact ⟨rfl, HB9.out⟩
          · have H2 := toHid h2
            clear h1 h2
            go_wp2_with (first
              | (go_at_call 20; have _t := tok5; refine (leads20 HG5.out hkx hky (by omega)).mono ?_; rintro e v6 ⟨rfl, hb6⟩; rw [H1.out]; have HG6 := toHid (HG5.out.below hb6); have HB6 := toHid (below_next HB5.out HB5.out.size hb6); clear hb6 tok5)
              | (go_at_call 20; have _t := tok6; refine (leads20 HG6.out hky hkz (by omega)).mono ?_; rintro e v7 ⟨rfl, hb7⟩; rw [H2.out]; have HG7 := toHid (HG6.out.below hb7); have HB7 := toHid (below_next HB6.out HB6.out.size hb7); clear hb7 tok6)
              | (go_at_call 18; refine (lives18 _).mono ?_; rintro e v9 ⟨rfl, hb9⟩; have HB9 := toHid (below_next HB7.out HB7.out.size hb9); clear hb9)
              | fail)
            go_ret
            exact ⟨rfl, HB9.out⟩
        · have H1 := toHid h1
          clear h1
          go_wp2_with (first
            | (go_at_call 20; have _t := tok5; refine (leads20 HG5.out hkx hky (by omega)).mono ?_; rintro e v6 ⟨rfl, hb6⟩; rw [H1.out]; have HG6 := toHid (HG5.out.below hb6); have HB6 := toHid (below_next HB5.out HB5.out.size hb6); clear hb6 tok5)
            | (go_at_call 18; refine (lives18 _).mono ?_; rintro e v9 ⟨rfl, hb9⟩; have HB9 := toHid (below_next HB6.out HB6.out.size hb9); clear hb9)
            | fail)
          go_ret
          exact ⟨rfl, HB9.out⟩

end Go.Proofs.Ytoihjkpjijncdaa
