/-
  The law's copied; SameAll of rows that have the same; messages that can be read; Send and Take of them.
-/
import Derived.Test.YtfdpmffoajjchaaSm
import Derived.Test.YtfdpmffoajjchaaSa
import Derived.Test.YtfdpmffoajjchaaPl
namespace Go.Proofs.Ytfdpmffoajjchaa
open Go.RowKit Go.Conc

set_option maxRecDepth 100000 in
set_option maxHeartbeats 4000000 in
theorem copied23 (m : Ms) (p : Pl) (w : World) (hr : MI w m p) (hl : Lim m) :
    Calls Try.prog 23 #[msV m p] w fun e w' => ∃ p', e = .returned (msV m p') ∧ Own w' w.heap.size m p' ∧ Below w.heap.size w w' := by
  obtain ⟨i0, hi0, hz0, hz1, hz2⟩ := info_parts info71
  obtain ⟨j0, hj0, hy0, hy1, hy2⟩ := info_parts info3
  obtain ⟨ta, tc, da, dc⟩ := p
  obtain ⟨hl1, hl2⟩ := hl
  have hb0 : Below w.heap.size w ((w.alloc (.cells (msC m ⟨ta, tc, da, dc⟩) 31)).alloc (.cells zeroC 31)) := ((Below.refl _ _).alloc (Nat.le_refl _) _).alloc (by simp) _
  have hS : ((w.alloc (.cells (msC m ⟨ta, tc, da, dc⟩) 31)).alloc (.cells zeroC 31)).heap[w.heap.size]? = some (.cells (msC m ⟨ta, tc, da, dc⟩) 31) := heap_alloc2_old _ _ _
  have hZ : ((w.alloc (.cells (msC m ⟨ta, tc, da, dc⟩) 31)).alloc (.cells zeroC 31)).heap[w.heap.size + 1]? = some (.cells zeroC 31) := heap_alloc2_new _ _ _
  have HB0 := toHid hb0
  have HT := toHid ((hr.rw_.below hb0).flat)
  have HD := toHid (fun (W : World) (hW : Below w.heap.size w W) => (hr.rp.below hW).flat)
  have HNT := toHid hr.cw
  have HND := toHid hr.cp
  have HS := toHid hS
  have HZ := toHid hZ
  clear hr hb0 hS hZ
  go_enter Try.func23, Try.ntmps23
  go_wp2_with (at_builtin; first
    | (refine wpList_append_src _ rfl (.tmp 5) (.tmp 7) 28 rfl w.heap.size 71 i0 _ 2 24 Try.underlying28 hi0 hz0 hz1 hz2 rfl (by decide) (.slice none 0 0) 0 [] rfl (World.ownsRow_nil _ _ _ _) ta m.wants.length tc (wsC m.wants) rfl HNT.out (wsC_length _) HT.out (wsC_one _) (by unfold maxLen; omega) (by omega) (by simp; omega) ?_; intro v1 y1 hown hgrow _; rw [Nat.zero_add, List.nil_append] at hown; obtain ⟨a1, c1, rfl⟩ := ownsRow_shape hown; have HO1 := toHid hown; have HG1 := toHid hgrow; have hs1 := (hgrow.block w.heap.size (by simp; omega) (by simp [Value.ownBlock])).trans HS.out; have hz1' := (hgrow.block (w.heap.size + 1) (by simp) (by simp [Value.ownBlock])).trans HZ.out; have HS1 := toHid hs1; have HZ1 := toHid hz1'; have HB1 := toHid (Below.setCell (p := ⟨w.heap.size, 6, none⟩) ((HB0.out.grown hgrow (by simp; omega) (by simp [Value.ownBlock]))) (Nat.le_refl _) (.slice a1 m.wants.length c1)); have hbz := HB1.out.size; have HSW := toHid (cells_set (i := 6) (v := .slice a1 m.wants.length c1) hs1); have HZW := toHid ((heap_setCell_other y1 ⟨w.heap.size, 6, none⟩ (w.heap.size + 1) (.slice a1 m.wants.length c1) (by simp)).trans hz1'); clear hown hgrow hz1'; obtain ⟨q0, q1, q2, q3, q4, q5, q6, q7, q8, qf⟩ := cell9 hs1; clear hs1)
    | (go_must (refine wpList_append_src _ rfl (.tmp 10) (.tmp 12) 29 rfl w.heap.size 3 j0 _ 1 8 Try.underlying29 hj0 hy0 hy1 hy2 rfl (by decide) (.slice none 0 0) 0 [] rfl (World.ownsRow_nil _ _ _ _) da m.pages.length dc (psC m.pages) rfl HND.out (psC_length _) (HD.out _ HB1.out) (psC_one _) (by unfold maxLen; omega) (by omega) hbz ?_; intro v2 y2 hown hgrow _; rw [Nat.zero_add, List.nil_append] at hown; obtain ⟨a2, c2, rfl⟩ := ownsRow_shape hown; have HO2 := toHid hown; have HG2 := toHid hgrow; have hs2 := (hgrow.block w.heap.size (by simpa using (Array.getElem?_eq_some_iff.1 HS1.out).1) (by simp [Value.ownBlock])).trans HSW.out; have hz2' := (hgrow.block (w.heap.size + 1) (by simpa using (Array.getElem?_eq_some_iff.1 HZ1.out).1) (by simp [Value.ownBlock])).trans HZW.out; have HS2 := toHid hs2; have HZ2 := toHid hz2'; clear hown hgrow q0 q1 q2 q3 q4 q5 q6 q7 q8 qf; obtain ⟨q0, q1, q2, q3, q4, q5, q6, q7, q8, qf⟩ := cell9 hs2; obtain ⟨x0, x1, x2, x3, x4, x5, x6, x7, x8, zf⟩ := cell9 hz2'; clear hs2 hz2')))
  have hfin := put9_same (.int .i64 m.kind) (.int .i64 m.txn) (.int .i64 m.page) (.int .i64 m.to) (.bool m.fast) (.int .u64 (m.lsn : Int)) (.slice a1 m.wants.length c1) (.slice a2 m.pages.length c2) (.string (txt m.body)) ((heap_setCell_other y2 ⟨w.heap.size, 7, none⟩ (w.heap.size + 1) (.slice a2 m.pages.length c2) (by simp)).trans HZ2.out)
  refine bodyPost_ret (v := msV m ⟨a1, c1, a2, c2⟩) (results_cell_row (P := Try.prog) Try.results23 _ _ (w.heap.size + 1) 31 _ (0, 0) _ rfl hfin Try.underlying31 rfl (by kernel_rfl)) rfl ⟨⟨a1, c1, a2, c2⟩, rfl, ⟨?_, ?_⟩, ?_⟩
  · refine own_stay HO1.out (fun k c hk hc => ?_)
    have n1 : k ≠ w.heap.size := kind_ne hc HS1.out (by decide)
    have n2 : k ≠ w.heap.size + 1 := kind_ne hc HZ1.out (by decide)
    have hlt : k < y1.heap.size := (Array.getElem?_eq_some_iff.1 hc).1
    refine (put9_other _ _ _ _ _ _ _ _ _ k n2).trans ?_
    rw [heap_setCell_other _ _ _ _ n1, HG2.out.block k (by simpa using hlt) (by simp [Value.ownBlock]), heap_setCell_other _ _ _ _ n1]
  · refine own_stay HO2.out (fun k c hk hc => ?_)
    have n1 : k ≠ w.heap.size := kind_ne hc HS2.out (by decide)
    have n2 : k ≠ w.heap.size + 1 := kind_ne hc HZ2.out (by decide)
    refine (put9_other _ _ _ _ _ _ _ _ _ k n2).trans ?_
    rw [heap_setCell_other _ _ _ _ n1]
  · exact put9_below _ _ _ _ _ _ _ _ _ ((HB1.out.grown HG2.out hbz (by simp [Value.ownBlock])).setCell (Nat.le_refl _) _) (by omega)


theorem AllR.at {W : World} {B c : Nat} {a : Option Addr} {ms : List Ms} {ps : List Pl} (h : AllR W B (.slice a ms.length c) ms ps) (i : Nat) (hi : i < ms.length) :
    ∃ g p, a = some ⟨g, 0, none⟩ ∧ g < W.heap.size ∧ Own W B ms[i] p ∧ ∀ j u, (msL ms[i] p)[j]? = some u → W.cell? ⟨g, i * 9 + j, none⟩ = some u := by
  have hl := h.len
  have hip : i < ps.length := by omega
  rcases own_addr h.row with ⟨_, e, _⟩ | ⟨g, cur, rfl, _, hg, _⟩
  · omega
  · refine ⟨g, ps[i], rfl, (Array.getElem?_eq_some_iff.1 hg).1, h.each i _ _ (List.getElem?_eq_getElem hi) (List.getElem?_eq_getElem hip), fun j u hj => ?_⟩
    have hj9 : j < 9 := (List.getElem?_eq_some_iff.1 hj).1
    have e := allC_get ms ps i _ _ j (List.getElem?_eq_getElem hi) (List.getElem?_eq_getElem hip) hj9
    exact own_cell h.row (e.trans hj)

/-- Nine cells of a message somewhere. -/
theorem nine {W : World} {g o : Nat} {m : Ms} {p : Pl} (h : ∀ j u, (msL m p)[j]? = some u → W.cell? ⟨g, o + j, none⟩ = some u) :
    W.cell? ⟨g, o, none⟩ = some (.int .i64 m.kind) ∧ W.cell? ⟨g, o + 1, none⟩ = some (.int .i64 m.txn) ∧ W.cell? ⟨g, o + 2, none⟩ = some (.int .i64 m.page) ∧ W.cell? ⟨g, o + 3, none⟩ = some (.int .i64 m.to) ∧ W.cell? ⟨g, o + 4, none⟩ = some (.bool m.fast) ∧ W.cell? ⟨g, o + 5, none⟩ = some (.int .u64 (m.lsn : Int)) ∧
    W.cell? ⟨g, o + 6, none⟩ = some (.slice p.wa m.wants.length p.wc) ∧ W.cell? ⟨g, o + 7, none⟩ = some (.slice p.pa m.pages.length p.pc) ∧ W.cell? ⟨g, o + 8, none⟩ = some (.string (txt m.body)) :=
  ⟨h 0 _ rfl, h 1 _ rfl, h 2 _ rfl, h 3 _ rfl, h 4 _ rfl, h 5 _ rfl, h 6 _ rfl, h 7 _ rfl, h 8 _ rfl⟩

set_option maxRecDepth 100000 in
set_option maxHeartbeats 2000000 in
theorem sameAll24 (v v' : Value) (B B' : Nat) (ms : List Ms) (ps qs : List Pl) (w : World) (h : AllR w B v ms ps) (h' : AllR w B' v' ms qs) (hL : ∀ m, m ∈ ms → Lim m) (hl : ms.length ≤ 1000) :
    Calls Try.prog 24 #[v, v'] w fun e w' => e = .returned (.bool true) ∧ Below w.heap.size w w' := by
  obtain ⟨a, c, rfl⟩ := h.shape
  obtain ⟨a', c', rfl⟩ := h'.shape
  have H := toHid h
  have H' := toHid h'
  have HL := toHid hL
  clear h h' hL
  go_enter Try.func24, Try.ntmps24
  go_wp2_with fail
  go_loopw [5] (fun i W => ∃ k : Nat, k ≤ ms.length ∧ i = .int .i64 k ∧ Below w.heap.size w W) (fun i _ => ms.length - (intOf i).toNat)
  case atStart => exact ⟨0, Nat.zero_le _, rfl, Below.refl _ _⟩
  case round =>
    obtain ⟨k, hk, rfl, hB⟩ := hrel
    have HB := toHid hB
    by_cases hlt : k < ms.length
    · obtain ⟨g, p, hg, hgl, hO, hc⟩ := (H.out.keep (KeepC.below hB)).at k hlt
      obtain ⟨g', p', hg', hgl', hO', hc'⟩ := (H'.out.keep (KeepC.below hB)).at k hlt
      subst hg
      subst hg'
      obtain ⟨m, hm⟩ : ∃ m, m = ms[k] := ⟨_, rfl⟩
      rw [← hm] at hO hO' hc hc'
      have HLm : Hid (Lim m) := HL.out m (by rw [hm]; exact List.getElem_mem hlt)
      obtain ⟨c0, c1, c2, c3, c4, c5, c6, c7, c8⟩ := nine hc
      obtain ⟨d0, d1, d2, d3, d4, d5, d6, d7, d8⟩ := nine hc'
      have HO := toHid hO
      have HO' := toHid hO'
      have e1 : (k : Int) < (ms.length : Int) := by omega
      have e2 : 0 ≤ (k : Int) := by omega
      clear hm hO hO' hc hc' hB
      obtain ⟨wa, wc, pa, pc⟩ := p
      obtain ⟨wa', wc', pa', pc'⟩ := p'
      simp only at c6 c7 d6 d7
      go_wp2_with fail
      refine wp_region_quiet_tail 8 Try.mixed (by kernel_rfl) ?_
      simp only [List.take_succ_cons, List.take_zero, List.drop_succ_cons, List.drop_zero]
      repeat (go_big_quiet_step (fail))
      refine wpQuiet_nil ?_
      go_wp2_with fail
      go_at_call 11
      refine Calls.mono (same11 m ⟨wa, wc, pa, pc⟩ ⟨wa', wc', pa', pc'⟩ _ (HO.out.mi.below ((Below.refl _ _).drew)) (HO'.out.mi.below ((Below.refl _ _).drew)) HLm.out) ?_
      rintro e w3 ⟨rfl, hB3⟩
      have HB3 := toHid (HB.out.drew.trans (hB3.mono HB.out.drew.size))
      clear hB3 c0 c1 c2 c3 c4 c5 c6 c7 c8 d0 d1 d2 d3 d4 d5 d6 d7 d8
      go_wp2_with fail
      go_roundw
      case rel => exact ⟨k + 1, by omega, by go_num, HB3.out⟩
      case measure => simp [intOf]; omega
    · have e1 : ¬ (k : Int) < (ms.length : Int) := by omega
      clear hB
      go_wp2_with fail
      go_ret
      exact ⟨rfl, HB.out⟩

/-- A message that can be read. -/
def Good (W : World) (b : Nat) : Prop := ∃ m p, Lim m ∧ W.heap[b]? = some (.cells (msC m p) 31) ∧ MI W m p
theorem Good.keep {W W' : World} {b : Nat} (h : Good W b) (hk : KeepC W W') : Good W' b := let ⟨m, p, h1, h2, h3⟩ := h; ⟨m, p, h1, hk _ _ _ _ h2, h3.keep hk⟩
def AllGood (W : World) (n : Nat) (R : Nat → List Nat) : Prop := ∀ j, j < 2 * n → ∀ b, b ∈ R j → Good W b
theorem AllGood.keep {W W' : World} {n : Nat} {R : Nat → List Nat} (h : AllGood W n R) (hk : KeepC W W') : AllGood W' n R := fun j hj b hb => (h j hj b hb).keep hk
theorem rowM_of {W : World} : ∀ (l : List Nat), (∀ b, b ∈ l → Good W b) → ∃ ms, RowM W l ms
  | [], _ => ⟨[], rfl, fun i b m h => by simp at h⟩
  | b :: l, h => by
    obtain ⟨ms, hm⟩ := rowM_of l (fun c hc => h c (List.mem_cons_of_mem _ hc))
    obtain ⟨m, p, h1, h2, h3⟩ := h b (List.mem_cons_self ..)
    refine ⟨m :: ms, by simp [hm.len], fun i c x hc hx => ?_⟩
    cases i with
    | zero =>
      simp at hc hx
      subst hc
      subst hx
      exact ⟨h1, p, h2, h3⟩
    | succ i => exact hm.each i c x (by simpa using hc) (by simpa using hx)

theorem send_good {w : World} {s n : Nat} {R : Nat → List Nat} (h : NetOk w s n R) (hg : AllGood w n R) (f t : Int) (m : Ms) (p : Pl) (hm : MI w m p) (hL : Lim m) :
    Calls Try.prog 12 #[netP s n, .int .i64 f, .int .i64 t, msV m p] w fun e w' => ∃ (v : Int) (R' : Nat → List Nat), e = .returned (.int .i64 v) ∧ NetOk w' s n R' ∧ AllGood w' n R' ∧ Tn s n w w' := by
  cases hx : rix n f t with
  | none =>
    refine Calls.mono (send_none h f t hx m p) ?_
    rintro e w' ⟨rfl, hB⟩
    exact ⟨1, R, rfl, h.below hB, hg.keep (KeepC.below hB), Tn.below hB⟩
  | some k =>
    by_cases hl : (R k).length < 256
    · refine Calls.mono (send_room h f t hx hl m p hm hL) ?_
      rintro e w' ⟨rfl, b, p', hN, hM, hO, _, hT⟩
      refine ⟨0, _, rfl, hN, fun j hj c hc => ?_, hT⟩
      by_cases e : j = k
      · subst e
        rw [upd_same] at hc
        rcases List.mem_append.1 hc with hc | hc
        · exact (hg j hj c hc).keep (hT.keepC h)
        · simp at hc
          subst hc
          exact ⟨m, p', hL, hM, hO.mi⟩
      · rw [upd_other _ _ _ _ e] at hc
        exact (hg j hj c hc).keep (hT.keepC h)
    · refine Calls.mono (send_full h f t hx (by have := h.len k (rix_lt hx); omega) m p hm hL) ?_
      rintro e w' ⟨rfl, hN, hT⟩
      exact ⟨7, _, rfl, hN, hg.keep (hT.keepC h), hT⟩

theorem take_good {w : World} {s n : Nat} {R : Nat → List Nat} (h : NetOk w s n R) (hg : AllGood w n R) (f t : Int) :
    Calls Try.prog 10 #[netP s n, .int .i64 f, .int .i64 t] w fun e w' => ∃ (v : Value) (R' : Nat → List Nat), e = .returned v ∧ NetOk w' s n R' ∧ AllGood w' n R' ∧ Tn s n w w' := by
  cases hx : rix n f t with
  | none =>
    refine Calls.mono (take_none h f t hx) ?_
    rintro e w' ⟨rfl, hB⟩
    exact ⟨_, R, rfl, h.below hB, hg.keep (KeepC.below hB), Tn.below hB⟩
  | some k =>
    cases he : R k with
    | nil =>
      refine Calls.mono (take_e h f t hx he) ?_
      rintro e w' ⟨rfl, hB⟩
      exact ⟨_, R, rfl, h.below hB, hg.keep (KeepC.below hB), Tn.below hB⟩
    | cons b l =>
      obtain ⟨m, p, h1, h2, h3⟩ := hg k (rix_lt hx) b (by rw [he]; exact List.mem_cons_self ..)
      refine Calls.mono (take_c h f t hx he m p h2) ?_
      rintro e w' ⟨rfl, hN, hT⟩
      refine ⟨_, _, rfl, hN, fun j hj c hc => ?_, hT⟩
      by_cases e : j = k
      · subst e
        rw [upd_same] at hc
        exact (hg j hj c (by rw [he]; exact List.mem_cons_of_mem _ hc)).keep (hT.keepC h)
      · rw [upd_other _ _ _ _ e] at hc
        exact (hg j hj c hc).keep (hT.keepC h)

end Go.Proofs.Ytfdpmffoajjchaa
