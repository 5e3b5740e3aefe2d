/-
  The walk of the document's Chain.
-/
import Derived.Test.YtnejcjebepidcaaGb
namespace Go.Proofs.Ytnejcjebepidcaa
open Go.RowKit

theorem ShOk.add {w y : World} {B : Nat} {v' : Value} {out : List Rc} {r : Rc} {p : Pl} (h : ∃ qs : List (Rc × Pl), qs.map (·.1) = out ∧ y.ownsRow B 46 12 v' (out.length + 1) ((qs.flatMap fun q => recL q.1 q.2) ++ recL r p) ∧ ∀ q, q ∈ qs → RI w q.1 q.2) (ho : RI w r p) : ShOk w y B v' (out ++ [r]) := by
  obtain ⟨qs, h1, h2, h3⟩ := h
  refine ⟨qs ++ [(r, p)], by simp [h1], ?_, fun q hq => ?_⟩
  · rw [List.length_append, List.flatMap_append, List.flatMap_cons, List.flatMap_nil, List.append_nil]
    exact h2
  · rcases List.mem_append.1 hq with hq | hq
    · exact h3 q hq
    · rw [List.mem_singleton.1 hq]; exact ho

theorem ShOk.own_lt {w W : World} {B : Nat} {v : Value} {out : List Rc} (h : ShOk w W B v out) : ∀ k, v.ownBlock = some k → k < W.heap.size := by
  obtain ⟨qs, _, h2, _⟩ := h
  exact fun k hk => (h2.lt k hk).2
theorem ShOk.own_ge {w W : World} {B : Nat} {v : Value} {out : List Rc} (h : ShOk w W B v out) : ∀ k, v.ownBlock = some k → B ≤ k := by
  obtain ⟨qs, _, h2, _⟩ := h
  exact fun k hk => (h2.lt k hk).1

set_option maxRecDepth 100000 in
set_option maxHeartbeats 8000000 in
theorem chain20 (a : Option Addr) (c : Nat) (l : List Rc) (at_ : Nat) (w : World) (hL : SlR w a l) (hl : l.length ≤ 100000) :
    Calls Try.prog 20 #[.slice a l.length c, .int .u64 (at_ : Int)] w fun e w' => ∃ a' c', e = .returned (.tuple #[.slice a' (chainR l at_).1.length c', .int .i64 (chainR l at_).2]) ∧ ShOk w w' w.heap.size (.slice a' (chainR l at_).1.length c') (chainR l at_).1 ∧ Below w.heap.size w w' := by
  obtain ⟨i0, hi0, hz0, hz1, hz2⟩ := info_parts Try.info46
  have HL := toHid hL
  have HRi := toHid (rises13 a c l w hL (by omega))
  clear hL
  cases hri : risB l
  · rw [hri] at HRi
    have HE := toHid (show chainR l at_ = ([], 1) by simp [chainR, hri])
    clear hri
    rw [HE.out]
    go_enter Try.func20, Try.ntmps20
    go_wp2_with fail
    refine Calls.mono HRi.out ?_
    rintro e w1 ⟨rfl, n1, rfl⟩
    go_wp2
    go_ret2
    exact ⟨none, 0, rfl, ShOk.nil _ _ _, ⟨rfl, rfl, rfl, Nat.le_refl _, fun _ _ => rfl⟩⟩
  rw [hri] at HRi
  have HE := toHid (show chainR l at_ = chainL l at_ by simp [chainR, hri])
  clear hri
  rw [HE.out]
  clear HE
  go_enter Try.func20, Try.ntmps20
  go_wp2_with fail
  refine Calls.mono HRi.out ?_
  rintro e w1 ⟨rfl, n1, rfl⟩
  clear HRi
  go_wp2_with fail
  go_loopw [1, 6] (fun x s W => ∃ (cur : Nat) (va : Option Addr) (vc : Nat) (out : List Rc), x = .int .u64 (cur : Int) ∧ s = .slice va out.length vc ∧ ShOk w W w.heap.size (.slice va out.length vc) out ∧ Below w.heap.size w W ∧ chainL l at_ = comb out (chainL l cur) ∧ out.length + cnt l cur ≤ l.length) (fun x _ _ => (intOf x).toNat)
  case atStart => exact ⟨at_, none, 0, [], rfl, rfl, ShOk.nil _ _ _, ⟨rfl, rfl, rfl, Nat.le_refl _, fun _ _ => rfl⟩, (comb_nil _ (chain_err l _ _)).symm, by simpa using cnt_le l at_⟩
  case round =>
    obtain ⟨cur, va, vc, out, rfl, rfl, hall, hbw, hch, hcn⟩ := hrel
    have HAll := toHid hall
    have HBw := toHid hbw
    have HCh := toHid hch
    have HCnt := toHid hcn
    have hof : out.length ≤ 100000 := by omega
    have hwz : w.heap.size ≤ wr.heap.size := hbw.size
    clear hall hbw hch hcn
    by_cases h0 : cur = 0
    · subst h0
      have HE := toHid (show chainL l at_ = (out, 0) by rw [HCh.out, chainL_zero]; simp [comb])
      go_wp2
      go_ret2
      rw [HE.out]
      exact ⟨va, vc, rfl, HAll.out, HBw.out⟩
    · have z1 : ((cur : Int) != 0) = true := by simp; omega
      have z2 : (cur != 0) = true := by simp [h0]
      have HFi := toHid (find40 a c l cur w wr HL.out HBw.out hl)
      have H0 := toHid h0
      clear h0
      go_wp2_with fail
      refine Calls.mono HFi.out ?_
      rintro e w2 ⟨hfx, hb2⟩
      have HB1 := toHid hb2
      clear hb2 HFi z1 z2
      rcases hfx with ⟨hnone, rfl⟩ | ⟨r, pl, hsome, rfl, hri⟩
      · have HE := toHid (show chainL l at_ = ([], 8) by rw [HCh.out, chainL_none H0.out hnone]; simp [comb])
        clear hnone
        go_wp2
        go_ret2
        rw [HE.out]
        exact ⟨none, 0, rfl, ShOk.nil _ _ _, HBw.out.trans ((HB1.out.mono hwz).alloc (by have := HB1.out.size; omega) _)⟩
      have HRI := toHid hri
      have HBx := toHid (show Below wr.heap.size wr (w2.alloc (.cells (recC r pl) 46)) from HB1.out.alloc HB1.out.size _)
      by_cases hpv : cur ≤ r.prev
      · have HE := toHid (show chainL l at_ = ([], 1) by rw [HCh.out, chainL_bad H0.out hsome hpv]; simp [comb])
        have x1 : (cur : Int) ≤ (r.prev : Int) := by omega
        have x2 : decide ((cur : Int) ≤ (r.prev : Int)) = true := by simp; omega
        clear hsome
        go_wp2
        go_ret2
        rw [HE.out]
        exact ⟨none, 0, rfl, ShOk.nil _ _ _, HBw.out.trans (HBx.out.mono hwz)⟩
      · have hrl : r.lsn = cur := by have := List.find?_some hsome; simpa using this
        have hrm : r ∈ l := List.mem_of_find?_eq_some hsome
        have HNx := toHid (show chainL l at_ = comb (out ++ [r]) (chainL l r.prev) by rw [HCh.out, chainL_some H0.out hsome hpv, comb_comb])
        have HCn := toHid (show out.length + 1 + cnt l r.prev ≤ l.length by have h1 := cnt_lt hrm (p := r.prev) (by omega); have h2 := HCnt.out; rw [← hrl] at h2; omega)
        have x1 : ¬ (cur : Int) ≤ (r.prev : Int) := by omega
        have x2 : decide ((cur : Int) ≤ (r.prev : Int)) = false := by simp; omega
        have x3 : r.prev < cur := by omega
        have hsz2 := HB1.out.size
        obtain ⟨qs, hq1, hq2, hq3⟩ := HAll.out.below HBx.out
        have HQ1 := toHid hq1
        have HQ3 := toHid hq3
        have HRo := toHid (World.ownsRow.alloc hq2 (.cells (recC r pl) 46))
        have HNw := toHid (news_rec (w2.alloc (.cells (recC r pl) 46)) r pl)
        rw [show (w2.alloc (.cells (recC r pl) 46)).heap.size = w2.heap.size + 1 by simp] at HNw
        have HXb := toHid (fun (y : World) (hg : ((w2.alloc (.cells (recC r pl) 46)).alloc (.cells (recC r pl) 46)).grownBy y (Value.slice va out.length vc).ownBlock) => (⟨(hg.block w2.heap.size (by simp; omega) (fun e => by have := (HAll.out.own_lt) _ e.symm; omega)).trans (by rw [heap_alloc_old _ _ (by simp)]; exact heap_alloc_new _ _), HBw.out.trans (((HBx.out.mono hwz).alloc (by simp; omega) _).grown hg (by simp; omega) (fun k hk => HAll.out.own_ge k hk))⟩ : y.heap[w2.heap.size]? = some (.cells (recC r pl) 46) ∧ Below w.heap.size w y))
        clear hq1 hq2 hq3 hri hsome hrl hrm
        go_wp2_with (at_builtin; go_must (refine wpList_append_fresh _ rfl _ _ 26 rfl w.heap.size 46 i0 _ 12 152 Try.underlying26 hi0 hz0 hz1 hz2 rfl (by decide) _ out.length _ rfl HRo.out ⟨w2.heap.size + 1, 0, none⟩ 1 1 (recL r pl) rfl rfl HNw.out (recL_one r pl) (by unfold maxLen; omega) (by omega) (by simp; omega) ?_; intro v5 y1 hown hgrow hfr; obtain ⟨a5, c5, rfl⟩ := ownsRow_shape hown; have HOW := toHid hown; have hxx := HXb.out y1 hgrow; have HBy := toHid hxx.2; obtain ⟨t0, t1, t2, t3, t4, t5, t6, t7, t8, t9, t10, t11, tf⟩ := cell12 hxx.1; clear hown hgrow hfr hxx))
        have HAl := toHid (ShOk.add (r := r) (p := pl) ⟨qs, HQ1.out, HOW.out, HQ3.out⟩ HRI.out)
        go_roundw
        case rel => exact ⟨r.prev, a5, c5, out ++ [r], rfl, by rw [List.length_append]; rfl, by rw [List.length_append]; exact HAl.out, HBy.out, HNx.out, by rw [List.length_append, List.length_singleton]; have := HCn.out; omega⟩
        case measure => simp [intOf]; omega

end Go.Proofs.Ytnejcjebepidcaa
