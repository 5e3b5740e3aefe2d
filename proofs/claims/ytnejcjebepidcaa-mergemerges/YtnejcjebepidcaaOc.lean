/-
  The walk of MergeOwn.
-/
import Derived.Test.YtnejcjebepidcaaOa
import Derived.Test.YtnejcjebepidcaaOb
import Derived.Test.YtnejcjebepidcaaTb
import Derived.Test.YtnejcjebepidcaaCa
import Derived.Test.YtnejcjebepidcaaFd
set_option linter.unusedSimpArgs false
namespace Go.Proofs.Ytnejcjebepidcaa
open Go.RowKit

theorem from_zero (l : List Rc) : fromL l 0 = l := by unfold fromL; simp
theorem from_length (l : List Rc) (a : Nat) : (fromL l a).length ≤ l.length := List.length_filter_le _ _
theorem spot_set {W : World} {g t : Nat} (h : ∃ cs : Array Value, W.heap[g]? = some (.cells cs t)) (j : Nat) (u : Value) : ∃ cs : Array Value, (W.setCell ⟨g, j, none⟩ u).heap[g]? = some (.cells cs t) := by
  obtain ⟨cs, h⟩ := h
  exact ⟨_, heap_setCell_same W g j cs t u h⟩
theorem Wr.set' {W : World} {B g t : Nat} {v : Value} {out : List Rc} (h : Wr W B v out) (hg : ∃ cs : Array Value, W.heap[g]? = some (.cells cs t)) (ht : t ≠ 46) (j : Nat) (u : Value) : Wr (W.setCell ⟨g, j, none⟩ u) B v out := by
  obtain ⟨cs, hg⟩ := hg
  exact h.set hg ht

set_option maxRecDepth 100000 in
set_option maxHeartbeats 20000000 in
theorem own_walk (a : Option Addr) (c : Nat) (logs : List (List Rc)) (at_ : Nat) (w : World) (hL : SlL w a logs) (hl : logs.length ≤ 140737488355328) (hW : ∀ q, q ∈ logs → q.length ≤ 140737488355328 ∧ ∀ r, r ∈ q → Wd r) :
    Calls Try.prog 8 #[.slice a logs.length c, .int .u64 (at_ : Int)] w fun e w' => e = .returned (.bool true) ∧ Below w.heap.size w w' := by
  have HL := toHid hL
  have HS := toHid (small9 a c logs w hL hl hW)
  clear hL hW
  go_enter Try.func8, Try.ntmps8
  go_wp2_with fail
  refine Calls.mono HS.out ?_
  rintro e w1 ⟨b, rfl, hb, n1, rfl⟩
  have HB0 := toHid (below_drewN w.heap.size w n1)
  clear HS
  cases b
  · go_wp2_with fail
    refine Calls.mono (lives10 _) ?_
    rintro e wl ⟨rfl, hbl⟩
    have HBL := toHid (HB0.out.trans (hbl.mono HB0.out.size))
    clear hbl
    go_wp2
    go_ret
    exact ⟨rfl, HBL.out⟩

  obtain ⟨h40, htot⟩ := hb rfl
  have hfl : logs.flatten.length ≤ 300 := Nat.le_trans (tot_len _) htot
  have hlimF : ∀ r, r ∈ logs.flatten → Lim r := fun r hr => by have := tot_mem hr; simp only [wt] at this; exact ⟨by omega, by omega⟩
  have hlim : ∀ l, l ∈ logs → ∀ r, r ∈ l → Lim r := fun l hl r hr => hlimF r (List.mem_flatten.2 ⟨l, hl, hr⟩)
  have HLF := toHid hlimF
  have HLim := toHid hlim
  clear hb hlim hlimF htot
  go_wp2_with fail
  go_loopw [5, 6] (fun s k W => ∃ (i : Nat) (va : Option Addr) (vc : Nat) (out : List Rc), i ≤ logs.length ∧ k = .int .i64 i ∧ s = .slice va out.length vc ∧ out.length ≤ 900 * i ∧ Wr W w.heap.size (.slice va out.length vc) out ∧ Below w.heap.size w W) (fun _ k _ => logs.length - (intOf k).toNat)
  case atStart => exact ⟨0, none, 0, [], Nat.zero_le _, rfl, rfl, Nat.zero_le _, Wr.nil _ _, HB0.out⟩
  case round =>
    obtain ⟨i, va, vc, out, hi, rfl, rfl, hol, hwr, hbw⟩ := hrel
    have HWr := toHid hwr
    have HBw := toHid hbw
    clear hwr hbw HB0
    have hwz : w.heap.size ≤ wr.heap.size := HBw.out.size
    by_cases hlt : i < logs.length
    · obtain ⟨b, o, la, lc, rfl, c0, hs, -⟩ := (HL.out.below HBw.out).get i hlt
      have hbz : b < wr.heap.size := World.block_lt_of_cell? _ _ c0
      have HCx := toHid (fun (W : World) (hW : Below wr.heap.size wr W) => (hW.cell (p := ⟨b, o + i, none⟩) hbz).trans c0)
      have HC0 := toHid (HCx.out _ ((Below.refl wr.heap.size wr).drew))
      have hi1 : (i : Int) < (logs.length : Int) := by omega
      have hi2 : 0 ≤ (i : Int) := by omega
      have hq3 : logs[i].length ≤ 300 := Nat.le_trans (len_flat hlt) hfl
      have HLq := toHid (HLim.out logs[i] (List.getElem_mem hlt))
      have HSl := toHid (fun (W : World) (hW : Below wr.heap.size wr W) => hs.below hW)
      have HF1 := toHid (fun (W : World) (hW : Below wr.heap.size wr W) => from15 la lc logs[i] 0 W (HSl.out W hW) (by omega) HLq.out)
      have HF2 := toHid (fun (W : World) (hW : Below wr.heap.size wr W) => from15 la lc logs[i] at_ W (HSl.out W hW) (by omega) HLq.out)
      rw [from_zero] at HF1
      have hf2 := from_length logs[i] at_
      have hf3 := chainR_len logs[i] at_
      generalize fromL logs[i] at_ = fr at *
      clear hs
      go_wp2_with fail
      refine wp_region_held_drew (S := fun W => W.cell? ⟨b, o + i, none⟩ = some (.slice la logs[i].length lc)) (by kernel_rfl) HC0.out (fun hHeld => ?_)
      refine wpAnyH_take (i := 0) (v := ?_) rfl (by kernel_rfl) (by kernel_rfl) (by kernel_rfl) (fun _ _ _ h => h) (Or.inl ⟨by rfl, ?_⟩) (by assumption) ?_
      rotate_left
      · (intro W hSw; (try dsimp only at hSw); go_simp; try with_reducible rfl)
      try simp only [Act.put, List.getElem_toArray, List.getElem_cons_zero, List.getElem_cons_succ, List.setIfInBounds_toArray, List.set_cons_zero, List.set_cons_succ]
      refine wpAnyH_take (i := 1) (v := ?_) rfl (by kernel_rfl) (by kernel_rfl) (by kernel_rfl) (fun _ _ _ h => h) (Or.inl ⟨by rfl, ?_⟩) (by assumption) ?_
      rotate_left
      · (intro W hSw; (try dsimp only at hSw); go_simp; try with_reducible rfl)
      try simp only [Act.put, List.getElem_toArray, List.getElem_cons_zero, List.getElem_cons_succ, List.setIfInBounds_toArray, List.set_cons_zero, List.set_cons_succ]
      refine wpAnyH_take (i := 2) (v := ?_) rfl (by kernel_rfl) (by kernel_rfl) (by kernel_rfl) (fun _ _ _ h => h) (Or.inl ⟨by rfl, ?_⟩) (by assumption) ?_
      rotate_left
      · (intro W hSw; (try dsimp only at hSw); go_simp; try with_reducible rfl)
      try simp only [Act.put, List.getElem_toArray, List.getElem_cons_zero, List.getElem_cons_succ, List.setIfInBounds_toArray, List.set_cons_zero, List.set_cons_succ]
      refine wpAnyH_take (i := 3) (v := ?_) rfl (by kernel_rfl) (by kernel_rfl) (by kernel_rfl) (fun _ _ _ h => h) (Or.inl ⟨by rfl, ?_⟩) (by assumption) ?_
      rotate_left
      · (intro W hSw; (try dsimp only at hSw); go_simp; try with_reducible rfl)
      try simp only [Act.put, List.getElem_toArray, List.getElem_cons_zero, List.getElem_cons_succ, List.setIfInBounds_toArray, List.set_cons_zero, List.set_cons_succ]
      refine wpAnyH_take (i := 5) (v := ?_) rfl (by kernel_rfl) (by kernel_rfl) (by kernel_rfl) (fun _ _ _ h => h) (Or.inl ⟨by rfl, ?_⟩) (by assumption) ?_
      rotate_left
      · (intro W hSw; (try dsimp only at hSw); go_simp; try with_reducible rfl)
      try simp only [Act.put, List.getElem_toArray, List.getElem_cons_zero, List.getElem_cons_succ, List.setIfInBounds_toArray, List.set_cons_zero, List.set_cons_succ]
      refine wpAnyH_take (i := 6) (v := ?_) rfl (by kernel_rfl) (by kernel_rfl) (by kernel_rfl) (fun _ _ _ h => h) (Or.inl ⟨by rfl, ?_⟩) (by assumption) ?_
      rotate_left
      · (intro W hSw; (try dsimp only at hSw); go_simp; try with_reducible rfl)
      try simp only [Act.put, List.getElem_toArray, List.getElem_cons_zero, List.getElem_cons_succ, List.setIfInBounds_toArray, List.set_cons_zero, List.set_cons_succ]
      refine wpAnyH_take (i := 7) (v := ?_) rfl (by kernel_rfl) (by kernel_rfl) (by kernel_rfl) (fun _ _ _ h => h) (Or.inl ⟨by rfl, ?_⟩) (by assumption) ?_
      rotate_left
      · (intro W hSw; (try dsimp only at hSw); go_simp; try with_reducible rfl)
      try simp only [Act.put, List.getElem_toArray, List.getElem_cons_zero, List.getElem_cons_succ, List.setIfInBounds_toArray, List.set_cons_zero, List.set_cons_succ]
      refine wpAnyH_take (i := 8) (v := ?_) rfl (by kernel_rfl) (by kernel_rfl) (by kernel_rfl) (fun _ _ _ h => h) (Or.inl ⟨by rfl, ?_⟩) (by assumption) ?_
      rotate_left
      · (intro W hSw; (try dsimp only at hSw); go_simp; try with_reducible rfl)
      try simp only [Act.put, List.getElem_toArray, List.getElem_cons_zero, List.getElem_cons_succ, List.setIfInBounds_toArray, List.set_cons_zero, List.set_cons_succ]
      refine wpAnyH_take (i := 9) (v := ?_) rfl (by kernel_rfl) (by kernel_rfl) (by kernel_rfl) (fun _ _ _ h => h) (Or.inl ⟨by rfl, ?_⟩) (by assumption) ?_
      rotate_left
      · (intro W hSw; (try dsimp only at hSw); go_simp; try with_reducible rfl)
      try simp only [Act.put, List.getElem_toArray, List.getElem_cons_zero, List.getElem_cons_succ, List.setIfInBounds_toArray, List.set_cons_zero, List.set_cons_succ]
      refine wpAnyH_ready (rs := [4]) (by kernel_rfl) (by simp) ?_
      refine AllReadyH.cons rfl (fun K hK => ?_) AllReadyH.nil
      go_simp
      refine Calls.mono (HF1.out wr.drew ((Below.refl wr.heap.size wr).drew)) ?_
      rintro e w1 ⟨a7, c7, rfl, h7, hb1⟩
      have HB1 := toHid (((Below.refl wr.heap.size wr).drew).trans hb1)
      have HA7 := toHid h7
      clear h7 hb1
      try go_wp2_with fail
      refine hK.out _ _ (HCx.out _ HB1.out) (fun hHeld => ?_)
      clear hK K
      try simp only [Act.put, List.getElem_toArray, List.getElem_cons_zero, List.getElem_cons_succ, List.setIfInBounds_toArray, List.set_cons_zero, List.set_cons_succ]
      refine wpAnyH_ready (rs := [10]) (by kernel_rfl) (by simp) ?_
      refine AllReadyH.cons rfl (fun K hK => ?_) AllReadyH.nil
      go_simp
      refine Calls.mono (HF2.out w1 HB1.out) ?_
      rintro e w2 ⟨a8, c8, rfl, h8, hb2⟩
      have hz1 := HB1.out.size
      have HB2 := toHid (HB1.out.trans (hb2.mono hz1))
      have HA72 := toHid ((HA7.out.low (show wr.heap.size ≤ wr.drew.heap.size from Nat.le_refl _)).below hb2)
      have HA8 := toHid (h8.low hz1)
      clear h8 hb2 HA7
      try go_wp2_with fail
      refine hK.out _ _ (HCx.out _ HB2.out) (fun hHeld => ?_)
      clear hK K
      try simp only [Act.put, List.getElem_toArray, List.getElem_cons_zero, List.getElem_cons_succ, List.setIfInBounds_toArray, List.set_cons_zero, List.set_cons_succ]
      refine wpAnyH_take (i := 11) (v := ?_) rfl (by kernel_rfl) (by kernel_rfl) (by kernel_rfl) (fun _ _ _ h => h) (Or.inl ⟨by rfl, ?_⟩) (by assumption) ?_
      rotate_left
      · (intro W hSw; (try dsimp only at hSw); go_simp; try with_reducible rfl)
      try simp only [Act.put, List.getElem_toArray, List.getElem_cons_zero, List.getElem_cons_succ, List.setIfInBounds_toArray, List.set_cons_zero, List.set_cons_succ]
      refine wpAnyH_take (i := 12) (v := ?_) rfl (by kernel_rfl) (by kernel_rfl) (by kernel_rfl) (fun _ _ _ h => h) (Or.inl ⟨by rfl, ?_⟩) (by assumption) ?_
      rotate_left
      · (intro W hSw; (try dsimp only at hSw); go_simp; try with_reducible rfl)
      try simp only [Act.put, List.getElem_toArray, List.getElem_cons_zero, List.getElem_cons_succ, List.setIfInBounds_toArray, List.set_cons_zero, List.set_cons_succ]
      refine wpAnyH_done (by kernel_rfl) ?_ _
      clear hHeld
      have HCh := toHid (chain19 la lc logs[i] at_ w2 (HSl.out w2 HB2.out) (by omega) HLq.out)
      generalize chainR logs[i] at_ = cr at *
      obtain ⟨ch, er⟩ := cr
      simp only at *
      have c2 := HCx.out _ HB2.out
      go_wp2_with fail
      refine Calls.mono HCh.out ?_
      rintro e w3 ⟨a9, c9, rfl, h9, hb3⟩
      have hz2 := HB2.out.size
      have HB3 := toHid (HB2.out.trans (hb3.mono hz2))
      have HA73 := toHid (HA72.out.below hb3)
      have HA83 := toHid (HA8.out.below hb3)
      have HA9 := toHid (h9.low hz2)
      have c3 := HCx.out _ HB3.out
      have HSm := toHid (same14 a7 c7 logs[i] la lc logs[i] w3 HA73.out.slR (HSl.out w3 HB3.out) HLq.out HLq.out (by omega) (by omega))
      rw [decide_eq_true rfl] at HSm
      clear h9 hb3 HCh c2 HA72 HA8 HB1 HB2 HF1 HF2
      go_wp2_with fail
      refine Calls.mono HSm.out ?_
      rintro e w4 ⟨rfl, hb4⟩
      have hz3 := HB3.out.size
      have HB4 := toHid (HB3.out.trans (hb4.mono hz3))
      have HS7 := toHid (src_of HWr.out (HA73.out.below hb4) hwz)
      have HS8 := toHid (src_of HWr.out (HA83.out.below hb4) hwz)
      have HS9 := toHid (src_of HWr.out (HA9.out.below hb4) hwz)
      have HW4 := toHid (HWr.out.below HB4.out)
      have hz4 : w.heap.size ≤ w4.heap.size := Nat.le_trans hwz HB4.out.size
      clear hb4 HSm HA73 HA83 HA9 HB3 c3
      go_wp2_with (at_builtin; first
        | (refine wpList_app46 w4 rfl _ _ rfl w.heap.size (.slice va out.length vc) (.slice a7 logs[i].length c7) out logs[i] rfl rfl HW4.out HS7.out (by omega) hz4 ?_; intro L1 a5 c5 y1 hl1 hw1 hg1 hf1; have HY1 := toHid hw1; have HS81 := toHid (HS8.out.grow HW4.out hg1 hf1); have HS91 := toHid (HS9.out.grow HW4.out hg1 hf1); have HBy1 := toHid ((Below.refl w.heap.size w4).grown hg1 hz4 (fun k hk => (HW4.out.lt k hk).1)); have hz5 := Nat.le_trans hz4 HBy1.out.size; have hk1 := Nat.le_of_eq hl1; clear hw1 hg1 hf1 hl1)
        | (refine wpList_app46 y1 rfl _ _ rfl w.heap.size (.slice a5 L1.length c5) (.slice a8 fr.length c8) L1 fr rfl rfl HY1.out HS81.out (by omega) hz5 ?_; intro L2 a6 c6 y2 hl2 hw2 hg2 hf2; have HY2 := toHid hw2; have HS92 := toHid (HS91.out.grow HY1.out hg2 hf2); have HBy2 := toHid ((Below.refl w.heap.size y1).grown hg2 hz5 (fun k hk => (HY1.out.lt k hk).1)); have hz6 := Nat.le_trans hz5 HBy2.out.size; have hk2 := Nat.le_of_eq hl2; clear hw2 hg2 hf2 hl2)
        | (refine wpList_app46 y2 rfl _ _ rfl w.heap.size (.slice a6 L2.length c6) (.slice a9 ch.length c9) L2 ch rfl rfl HY2.out HS92.out (by omega) hz6 ?_; intro L3 a10 c10 y3 hl3 hw3 hg3 hf3; have HY3 := toHid hw3; have HBy3 := toHid ((Below.refl w.heap.size y2).grown hg3 hz6 (fun k hk => (HY2.out.lt k hk).1)); have hk3 := Nat.le_of_eq hl3; clear hw3 hg3 hf3 hl3))
      have HBf := toHid ((((HBw.out.trans (HB4.out.mono hwz)).trans HBy1.out).trans HBy2.out).trans HBy3.out)
      have hol3 : L3.length ≤ 900 * (i + 1) := by omega
      go_roundw
      case rel => exact ⟨i + 1, a10, c10, L3, by omega, by go_num, rfl, hol3, HY3.out, HBf.out⟩
      case measure => simp [intOf]; omega
    · obtain rfl : i = logs.length := by omega
      have HM1 := toHid (merge17 a c logs wr (HL.out.below HBw.out) (by omega) (by omega) HLim.out)
      go_wp2_with fail
      refine Calls.mono HM1.out ?_
      rintro e w2 ⟨v1, e1, rfl, hm1, hb2⟩
      obtain ⟨out1, a1, c1, rfl, hr1⟩ := hm1.res
      have HSp := toHid hr1.spec
      have hol1 : out1.length ≤ 300 := Nat.le_trans hr1.spec.len hfl
      have HB2 := toHid (HBw.out.trans (hb2.mono hwz))
      have HS1 := toHid (src_of HWr.out hr1.all hwz)
      have HW2 := toHid (HWr.out.below hb2)
      have hz2 : w.heap.size ≤ w2.heap.size := HB2.out.size
      clear hm1 hr1 hb2 HM1
      go_wp2_with (at_builtin; (refine wpList_app46 w2 rfl _ _ rfl w.heap.size (.slice va out.length vc) (.slice a1 out1.length c1) out out1 rfl rfl HW2.out HS1.out (by omega) hz2 ?_; intro L1 a5 c5 y1 hl1 hw1 hg1 hf1; have HY1 := toHid hw1; have HBy1 := toHid (HB2.out.trans ((Below.refl w.heap.size w2).grown hg1 hz2 (fun k hk => (HW2.out.lt k hk).1))); have hk1 := Nat.le_of_eq hl1; clear hw1 hg1 hf1 hl1))
      have hL1 : (L1.length : Int) ≤ 1000000 := by omega
      go_loopw [13] (fun k W => ∃ i : Nat, i ≤ L1.length ∧ k = .int .i64 i ∧ Wr W w.heap.size (.slice a5 L1.length c5) L1 ∧ Below w.heap.size w W) (fun k _ => L1.length - (intOf k).toNat)
      case atStart => exact ⟨0, Nat.zero_le _, rfl, HY1.out, HBy1.out⟩
      case round =>
        clear HY1 HBy1 HW2 HS1 HWr HB2 HBw hwz hz2
        obtain ⟨i, hi, rfl, hwr, hbw⟩ := hrel
        have HW := toHid hwr
        have HB := toHid hbw
        clear hwr hbw
        by_cases hlt : i < L1.length
        · have hi1 : (i : Int) < (L1.length : Int) := by omega
          have hi2 : 0 ≤ (i : Int) := by omega
          obtain ⟨g, p, rfl, h12, hwn, -⟩ := HW.out.get i hlt
          have hn1 : (L1[i].txns.length : Int) ≤ 9223372036854775807 := by obtain ⟨xs, h⟩ := hwn.t; exact row_len h
          have hn2 : (L1[i].dirty.length : Int) ≤ 9223372036854775807 := by obtain ⟨xs, h⟩ := hwn.d; exact row_len h
          clear h12 hwn
          go_wp2_with fail
          go_loopw [14] (fun k W => ∃ j : Nat, j ≤ L1[i].txns.length ∧ k = .int .i64 j ∧ Wr W w.heap.size (.slice (some ⟨g, 0, none⟩) L1.length c5) L1 ∧ Below w.heap.size w W) (fun k _ => L1[i].txns.length - (intOf k).toNat)
          case atStart => exact ⟨0, Nat.zero_le _, rfl, HW.out, HB.out⟩
          case round =>
            clear HW HB
            obtain ⟨j, hj, rfl, hwr, hbw⟩ := hrel
            have HW := toHid hwr
            have HB := toHid hbw
            clear hwr hbw
            obtain ⟨g', p, e, h12, hwn, -⟩ := HW.out.get i hlt
            simp at e
            subst e
            have d10 := h12.2.2.2.2.2.2.2.2.2.2.1
            obtain ⟨pta, ptc, pda, pdc⟩ := p
            simp only at d10
            by_cases hjl : j < L1[i].txns.length
            · have hj1 : (j : Int) < (L1[i].txns.length : Int) := by omega
              have hj2 : 0 ≤ (j : Int) := by omega
              obtain ⟨xs, hrow⟩ := hwn.t
              obtain ⟨gt, rfl, s0⟩ := row_spot hrow j 0 hjl (by omega)
              obtain ⟨gt', e1, s1⟩ := row_spot hrow j 1 hjl (by omega)
              obtain ⟨gt'', e2, s2⟩ := row_spot hrow j 2 hjl (by omega)
              simp at e1 e2
              subst e1 e2
              obtain ⟨u0, k0⟩ := s0.cell
              obtain ⟨u1, k1⟩ := s1.cell
              obtain ⟨u2, k2⟩ := s2.cell
              have f0 := s0.free
              have f1 := s1.free
              have f2 := s2.free
              have hgl := s0.lt
              have HBk := toHid s0.blk
              have HBs := toHid s0.base
              simp only [Nat.add_zero] at k0 f0
              clear hwn h12 hrow s0 s1 s2
              go_wp2_with fail
              have HWn := toHid (((HW.out.set' HBk.out (by decide) (j * 3) (.int .i64 (-1))).set' (spot_set HBk.out _ _) (by decide) (j * 3 + 1) (.int .i64 0)).set' (spot_set (spot_set HBk.out _ _) _ _) (by decide) (j * 3 + 2) (.int .u64 0))
              have HBn := toHid (((HB.out.setCell (p := ⟨gt, j * 3, none⟩) HBs.out (.int .i64 (-1))).setCell (p := ⟨gt, j * 3 + 1, none⟩) HBs.out (.int .i64 0)).setCell (p := ⟨gt, j * 3 + 2, none⟩) HBs.out (.int .u64 0))
              go_roundw
              case rel => exact ⟨j + 1, by omega, by go_num, HWn.out, HBn.out⟩
              case measure => simp [intOf]; omega
            · obtain rfl : j = L1[i].txns.length := by omega
              clear hwn h12
              go_wp2_with fail
              go_loopw [15] (fun k W => ∃ j : Nat, j ≤ L1[i].dirty.length ∧ k = .int .i64 j ∧ Wr W w.heap.size (.slice (some ⟨g, 0, none⟩) L1.length c5) L1 ∧ Below w.heap.size w W) (fun k _ => L1[i].dirty.length - (intOf k).toNat)
              case atStart => exact ⟨0, Nat.zero_le _, rfl, HW.out, HB.out⟩
              case round =>
                clear HW HB d10
                obtain ⟨j, hj, rfl, hwr, hbw⟩ := hrel
                have HW := toHid hwr
                have HB := toHid hbw
                clear hwr hbw
                obtain ⟨g', p, e, h12, hwn, -⟩ := HW.out.get i hlt
                simp at e
                subst e
                have d11 := h12.2.2.2.2.2.2.2.2.2.2.2
                obtain ⟨pta, ptc, pda, pdc⟩ := p
                simp only at d11
                by_cases hjl : j < L1[i].dirty.length
                · have hj1 : (j : Int) < (L1[i].dirty.length : Int) := by omega
                  have hj2 : 0 ≤ (j : Int) := by omega
                  obtain ⟨xs, hrow⟩ := hwn.d
                  obtain ⟨gt, rfl, s0⟩ := row_spot hrow j 0 hjl (by omega)
                  obtain ⟨gt', e1, s1⟩ := row_spot hrow j 1 hjl (by omega)
                  simp at e1
                  subst e1
                  obtain ⟨u0, k0⟩ := s0.cell
                  obtain ⟨u1, k1⟩ := s1.cell
                  have f0 := s0.free
                  have f1 := s1.free
                  have hgl := s0.lt
                  have HBk := toHid s0.blk
                  have HBs := toHid s0.base
                  simp only [Nat.add_zero] at k0 f0
                  clear hwn h12 hrow s0 s1
                  go_wp2_with fail
                  have HWn := toHid ((HW.out.set' HBk.out (by decide) (j * 2) (.int .i64 (-1))).set' (spot_set HBk.out _ _) (by decide) (j * 2 + 1) (.int .u64 0))
                  have HBn := toHid ((HB.out.setCell (p := ⟨gt, j * 2, none⟩) HBs.out (.int .i64 (-1))).setCell (p := ⟨gt, j * 2 + 1, none⟩) HBs.out (.int .u64 0))
                  go_roundw
                  case rel => exact ⟨j + 1, by omega, by go_num, HWn.out, HBn.out⟩
                  case measure => simp [intOf]; omega
                · obtain rfl : j = L1[i].dirty.length := by omega
                  clear hwn h12
                  go_wp2_with fail
                  go_roundw
                  case rel => exact ⟨i + 1, by omega, by go_num, HW.out, HB.out⟩
                  case measure => simp [intOf]; omega
        · obtain rfl : i = L1.length := by omega
          have HM2 := toHid (merge17 a c logs wr (HL.out.below HB.out) (by omega) (by omega) HLim.out)
          go_wp2_with fail
          refine Calls.mono HM2.out ?_
          rintro e w6 ⟨v6, e6, rfl, hm6, hb6⟩
          obtain ⟨out6, a6, c6, rfl, hr6⟩ := hm6.res
          obtain ⟨rfl, rfl⟩ := HSp.out.unique hr6.spec rfl (List.Perm.refl _)
          have HB6 := toHid (HB.out.trans (hb6.mono HB.out.size))
          have HR6 := toHid hr6.all.slR
          have hee : (e1 != e1) = false := by simp
          have hnn : ((out1.length : Int) != (out1.length : Int)) = false := by simp
          have HSub := toHid hr6.spec.sub
          clear hm6 hr6 hb6 HM2 HW HB
          go_wp2_with fail
          go_loopw [18] (fun k W => ∃ i : Nat, i ≤ out1.length ∧ k = .int .i64 i ∧ ∃ n, W = w6.drewN n) (fun k _ => out1.length - (intOf k).toNat)
          case atStart => exact ⟨0, Nat.zero_le _, rfl, 0, rfl⟩
          case round =>
            obtain ⟨i, hi, rfl, n, rfl⟩ := hrel
            by_cases hlt : i < out1.length
            · have hi1 : (i : Int) < (out1.length : Int) := by omega
              have hi2 : 0 ≤ (i : Int) := by omega
              obtain ⟨b1, o1, rfl, _⟩ := HR6.out.there (by omega)
              obtain ⟨p1, h12, hri⟩ := HR6.out.get i hlt
              have d10 := h12.2.2.2.2.2.2.2.2.2.2.1
              have hlm := (HLF.out out1[i] (HSub.out _ (List.getElem_mem hlt))).1
              have HRI := toHid hri
              clear h12 hri
              go_wp2_with fail
              go_loopw [19] (fun k W => ∃ t : Nat, t ≤ out1[i].txns.length ∧ k = .int .i64 t ∧ ∃ n, W = w6.drewN n) (fun k _ => out1[i].txns.length - (intOf k).toNat)
              case atStart => exact ⟨0, Nat.zero_le _, rfl, n, rfl⟩
              case round =>
                obtain ⟨t, ht, rfl, n3, rfl⟩ := hrel
                by_cases htl : t < out1[i].txns.length
                · obtain ⟨b2, o2, hta, ct⟩ := HRI.out.t.get t htl
                  obtain ⟨pta, ptc, pda, pdc⟩ := p1
                  simp only at hta d10
                  subst hta
                  have ht1 : (t : Int) < (out1[i].txns.length : Int) := by omega
                  have ht2 : 0 ≤ (t : Int) := by omega
                  by_cases he : out1[i].txns[t].id = -1
                  · have q1 : (out1[i].txns[t].id == -1) = true := by simp [he]
                    have HE := toHid he
                    have HGv := toHid (fun (W : World) (hW : Below w.heap.size w W) => given32 a c logs (-1) W (HL.out.below hW) (by omega) (fun q hq => ⟨by obtain ⟨k, hk, rfl⟩ := List.getElem_of_mem hq; exact Nat.le_trans (len_flat hk) (by omega), HLim.out q hq⟩))
                    have HBd := toHid (HB6.out.trans (below_drewN w.heap.size w6 n3))
                    clear he
                    go_wp2_with fail
                    refine Calls.mono (HGv.out _ HBd.out) ?_
                    rintro e w7 ⟨b, rfl, hbf, n7, rfl⟩
                    cases b
                    · exfalso
                      obtain ⟨q, hq, hqr⟩ := List.mem_flatten.1 (HSub.out _ (List.getElem_mem hlt))
                      exact hbf rfl q hq _ hqr _ (List.getElem_mem htl) HE.out
                    · clear hbf
                      go_wp2_with fail
                      go_roundw
                      case rel => exact ⟨t + 1, by omega, by go_num, _, rfl⟩
                      case measure => simp [intOf]; omega
                  · have q1 : (out1[i].txns[t].id == -1) = false := by simp [he]
                    clear he
                    go_wp2_with fail
                    go_roundw
                    case rel => exact ⟨t + 1, by omega, by go_num, _, rfl⟩
                    case measure => simp [intOf]; omega
                · obtain rfl : t = out1[i].txns.length := by omega
                  go_wp2_with fail
                  go_roundw
                  case rel => exact ⟨i + 1, by omega, by go_num, _, rfl⟩
                  case measure => simp [intOf]; omega
            · obtain rfl : i = out1.length := by omega
              have HBd := toHid (HB6.out.trans (below_drewN w.heap.size w6 n))
              go_wp2_with fail
              refine Calls.mono (lives10 _) ?_
              rintro e wl ⟨rfl, hbl⟩
              have HBL := toHid (HBd.out.trans (hbl.mono HBd.out.size))
              clear hbl
              go_wp2
              go_ret
              exact ⟨rfl, HBL.out⟩

end Go.Proofs.Ytnejcjebepidcaa
