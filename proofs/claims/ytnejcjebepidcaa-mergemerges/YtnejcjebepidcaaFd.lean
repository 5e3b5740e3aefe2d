/-
  The walk of Chain.
-/
import Derived.Test.YtnejcjebepidcaaFc
import Derived.Test.YtnejcjebepidcaaFa
namespace Go.Proofs.Ytnejcjebepidcaa
open Go.RowKit

set_option maxRecDepth 100000 in
set_option maxHeartbeats 8000000 in
theorem chain19 (a : Option Addr) (c : Nat) (l : List Rc) (at_ : Nat) (w : World) (hL : SlR w a l) (hl : l.length ≤ 100000) (hlim : ∀ r, r ∈ l → Lim r) :
    Calls Try.prog 19 #[.slice a l.length c, .int .u64 (at_ : Int)] w fun e w' => ∃ a' c', e = .returned (.tuple #[.slice a' (chainR l at_).1.length c', .int .i64 (chainR l at_).2]) ∧ AllOk w' w.heap.size (.slice a' (chainR l at_).1.length c') (chainR l at_).1 ∧ Below w.heap.size w w' := by
  obtain ⟨i0, hi0, hz0, hz1, hz2⟩ := info_parts Try.info46
  have HL := toHid hL
  have HLim := toHid hlim
  have HRi := toHid (rises12 a c l w hL (by omega))
  clear hL hlim
  cases hri : risB l
  · rw [hri] at HRi
    have HE := toHid (show chainR l at_ = ([], 1) by simp [chainR, hri])
    clear hri
    rw [HE.out]
    go_enter Try.func19, Try.ntmps19
    go_wp2_with fail
    refine Calls.mono HRi.out ?_
    rintro e w1 ⟨rfl, n1, rfl⟩
    go_wp2
    go_ret2
    exact ⟨none, 0, rfl, AllOk.nil _ _, ⟨rfl, rfl, rfl, Nat.le_refl _, fun _ _ => rfl⟩⟩
  rw [hri] at HRi
  have HRl := toHid ((risB_iff l).1 hri)
  have HE := toHid (show chainR l at_ = chainL l at_ by simp [chainR, hri])
  clear hri
  rw [HE.out]
  clear HE
  go_enter Try.func19, Try.ntmps19
  go_wp2_with fail
  refine Calls.mono HRi.out ?_
  rintro e w1 ⟨rfl, n1, rfl⟩
  clear HRi
  go_wp2_with fail
  go_loopw [1, 6] (fun x s W => ∃ (cur : Nat) (va : Option Addr) (vc : Nat) (out : List Rc), x = .int .u64 (cur : Int) ∧ s = .slice va out.length vc ∧ AllOk W w.heap.size (.slice va out.length vc) out ∧ Below w.heap.size w W ∧ chainL l at_ = comb out (chainL l cur) ∧ out.length + cnt l cur ≤ l.length) (fun x _ _ => (intOf x).toNat)
  case atStart => exact ⟨at_, none, 0, [], rfl, rfl, AllOk.nil _ _, ⟨rfl, rfl, rfl, Nat.le_refl _, fun _ _ => rfl⟩, (comb_nil _ (chain_err l _ _)).symm, by simpa using cnt_le l at_⟩
  case round =>
    obtain ⟨cur, va, vc, out, rfl, rfl, hall, hbw, hch, hcn⟩ := hrel
    have HAll := toHid hall
    have HBw := toHid hbw
    have HCh := toHid hch
    have HCnt := toHid hcn
    have hof : out.length ≤ 100000 := by omega
    have hwz : w.heap.size ≤ wr.heap.size := hbw.size
    clear hall hbw hch hcn
    by_cases h0 : cur = 0
    · subst h0
      have HE := toHid (show chainL l at_ = (out, 0) by rw [HCh.out, chainL_zero]; simp [comb])
      go_wp2
      go_ret2
      rw [HE.out]
      exact ⟨va, vc, rfl, HAll.out, HBw.out⟩
    · have z1 : ((cur : Int) != 0) = true := by simp; omega
      have z2 : (cur != 0) = true := by simp [h0]
      have HPl := toHid (place39 a c l cur wr (HL.out.below HBw.out) hl HRl.out)
      have H0 := toHid h0
      clear h0
      go_wp2_with fail
      refine Calls.mono HPl.out ?_
      rintro e w2 ⟨k, rfl, hpk, hb2⟩
      have HPk := toHid hpk
      have HB1 := toHid hb2
      have hkl := hpk.le
      clear hpk hb2 HPl z1 z2
      by_cases hk : k < l.length
      rotate_left
      · obtain rfl : k = l.length := by omega
        have HE := toHid (show chainL l at_ = ([], 8) by rw [HCh.out, chainL_none H0.out (plc_none HRl.out HPk.out (fun h => absurd h hk))]; simp [comb])
        have y1 : ((l.length : Int) == (l.length : Int)) = true := by simp
        go_wp2
        go_ret2
        rw [HE.out]
        exact ⟨none, 0, rfl, AllOk.nil _ _, HBw.out.trans (HB1.out.mono hwz)⟩
      obtain ⟨b, o, rfl, hbl⟩ := HL.out.there (by omega)
      obtain ⟨pl0, h12w, -⟩ := HL.out.get k hk
      have cw3 := h12w.2.2.2.1
      have HCy := toHid (fun (V : World) (hV : Below w.heap.size w V) => (hV.cell (p := ⟨b, o + k * 12 + 3, none⟩) hbl).trans cw3)
      obtain ⟨pl, h12, hri⟩ := (HL.out.below HBw.out).get k hk
      have HRI := toHid hri
      have H12 := toHid (h12.stay (w' := w2) (HB1.out.block _ h12.lt))
      have hk1 : (k : Int) < (l.length : Int) := by omega
      have hk2 : 0 ≤ (k : Int) := by omega
      have hk3 : ((k : Int) == (l.length : Int)) = false := by simp; omega
      have hk4 : (k == l.length) = false := by simp; omega
      obtain ⟨d0, d1, d2, d3, d4, d5, d6, d7, d8, d9, d10, d11⟩ := H12.out
      have HLr := toHid (HLim.out l[k] (List.getElem_mem hk))
      clear h12w h12 hri cw3
      by_cases hls : l[k].lsn = cur
      rotate_left
      · have HE := toHid (show chainL l at_ = ([], 8) by rw [HCh.out, chainL_none H0.out (plc_none HRl.out HPk.out (fun _ => hls))]; simp [comb])
        have y1 : ((l[k].lsn : Int) != (cur : Int)) = true := by simp; omega
        have y2 : (l[k].lsn != cur) = true := by simp [hls]
        go_wp2
        go_ret2
        rw [HE.out]
        exact ⟨none, 0, rfl, AllOk.nil _ _, HBw.out.trans (HB1.out.mono hwz)⟩
      have y1 : ((l[k].lsn : Int) != (cur : Int)) = false := by simp; omega
      have y2 : (l[k].lsn != cur) = false := by simp [hls]
      have HFi := toHid (plc_find HPk.out hk hls)
      by_cases hpv : cur ≤ l[k].prev
      · have HE := toHid (show chainL l at_ = ([], 1) by rw [HCh.out, chainL_bad H0.out HFi.out hpv]; simp [comb])
        have x1 : (cur : Int) ≤ (l[k].prev : Int) := by omega
        have x2 : decide ((cur : Int) ≤ (l[k].prev : Int)) = true := by simp; omega
        clear hls
        go_wp2
        go_ret2
        rw [HE.out]
        exact ⟨none, 0, rfl, AllOk.nil _ _, HBw.out.trans (HB1.out.mono hwz)⟩
      · have HNx := toHid (show chainL l at_ = comb (out ++ [l[k]]) (chainL l l[k].prev) by rw [HCh.out, chainL_some H0.out HFi.out hpv, comb_comb])
        have HCn := toHid (show out.length + 1 + cnt l l[k].prev ≤ l.length by have h1 := cnt_lt (List.getElem_mem hk) (p := l[k].prev) (by omega); have h2 := HCnt.out; rw [← hls] at h2; omega)
        have x1 : ¬ (cur : Int) ≤ (l[k].prev : Int) := by omega
        have x2 : decide ((cur : Int) ≤ (l[k].prev : Int)) = false := by simp; omega
        have x3 : l[k].prev < cur := by omega
        obtain ⟨W1, hW1⟩ : ∃ W1, W1 = w2 := ⟨_, rfl⟩
        subst hW1
        clear hls
        go_wp2_with fail
        have HCo := toHid (copied34 l[k] pl W1 (HRI.out.below HB1.out) HLr.out)
        have hsz1 := HB1.out.size
        refine Calls.mono HCo.out ?_
        rintro e w3 ⟨pp, rfl, hO3, hb3⟩
        have HB3 := toHid (HB1.out.trans (hb3.mono HB1.out.size))
        have hsz3 := hb3.size
        have HO3 := toHid (hO3.low (show w.heap.size ≤ W1.heap.size by omega))
        clear hO3 hb3 HCo
        obtain ⟨qs, hq1, hq2, hq3⟩ := HAll.out.below HB3.out
        have HQ1 := toHid hq1
        have HQ3 := toHid hq3
        have HRo := toHid (World.ownsRow.alloc hq2 (.cells (recC l[k] pp) 46))
        have HNw := toHid (news_rec w3 l[k] pp)
        clear hq1 hq2 hq3
        go_wp2_with (at_builtin; go_must (refine wpList_append_fresh _ rfl _ _ 26 rfl w.heap.size 46 i0 _ 12 152 Try.underlying26 hi0 hz0 hz1 hz2 rfl (by decide) _ out.length _ rfl HRo.out ⟨w3.heap.size, 0, none⟩ 1 1 (recL l[k] pp) rfl rfl HNw.out (recL_one l[k] pp) (by unfold maxLen; omega) (by omega) (by simp; omega) ?_; intro v5 y1 hown hgrow hfr; obtain ⟨a5, c5, rfl⟩ := ownsRow_shape hown; have HOW := toHid hown; have HGW := toHid hgrow; clear hown hgrow hfr; have cy := HCy.out y1 (HBw.out.trans ((HB3.out.mono hwz).trans (low_row HAll.out HB3.out HGW.out hwz)))))
        have HY := toHid (kept_row HAll.out HB3.out (o := .cells (recC l[k] pp) 46) HGW.out)
        have HAl := toHid (AllOk.add (r := l[k]) (p := pp) ⟨qs, HQ1.out, HOW.out, fun q hq => (HQ3.out q hq).stay (fun k c hc => by rcases hc with hc | hc; exact HY.out k c 65 ⟨.inr (.inr (.inr (.inl rfl))), hc⟩; exact HY.out k c 67 ⟨.inr (.inr (.inr (.inr rfl))), hc⟩)⟩ (HO3.out.stay (fun k c hc => by rcases hc with hc | hc; exact HY.out k c 65 ⟨.inr (.inr (.inr (.inl rfl))), hc⟩; exact HY.out k c 67 ⟨.inr (.inr (.inr (.inr rfl))), hc⟩)))
        have HBy := toHid (HBw.out.trans ((HB3.out.mono hwz).trans (low_row HAll.out HB3.out HGW.out hwz)))
        clear HNw HRo HQ1 HQ3 HOW HGW HY HO3
        have HBy2 := toHid HBy.out
        go_roundw
        case rel => exact ⟨l[k].prev, a5, c5, out ++ [l[k]], rfl, by rw [List.length_append]; rfl, by rw [List.length_append]; exact HAl.out, HBy.out, HNx.out, by rw [List.length_append, List.length_singleton]; have := HCn.out; omega⟩
        case measure => simp [intOf]; omega

end Go.Proofs.Ytnejcjebepidcaa
