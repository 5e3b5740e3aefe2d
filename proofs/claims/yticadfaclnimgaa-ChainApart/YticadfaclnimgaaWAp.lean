/-
  The walk of ChainApart.
-/
import Derived.Test.YticadfaclnimgaaLm
import Derived.Deep.DeepCutAuto
namespace Go.Proofs.Yticadfaclnimgaa
open Go.RowKit Go.Maps

/-- What the loop holds. -/
def LoopA (w : World) (K : List Lit) (W : World) (M : Nat) : Prop := ∃ σ, Tb W w.heap.size (w.heap.size + 1) w.heap.size K M σ ∧ Below w.heap.size w W ∧ KeysW σ.f
/-- What the switch leaves. -/
def MidA (w : World) (K : List Lit) (W : World) (M : Nat) (f : Int → Option Tn) (t id : Int) (g8 : Nat) : Prop := ∃ σ, Tb W w.heap.size (w.heap.size + 1) w.heap.size K M σ ∧ Below w.heap.size w W ∧ KeysW σ.f ∧ (t ≠ id → σ.f id = f id) ∧ W.heap[g8]? = some (.cells (txV id (f id)) 43)
theorem mid_of {w : World} {K : List Lit} {W W' : World} {M M' : Nat} {σ : Sg} {t id : Int} {g8 : Nat} (hT : Tb W w.heap.size (w.heap.size + 1) w.heap.size K M σ) (hB : Below w.heap.size w W) (hK : KeysW σ.f) (h8 : W.heap[g8]? = some (.cells (txV id (σ.f id)) 43)) (ht : Turns W w.heap.size (w.heap.size + 1) w.heap.size K M' σ t W') : MidA w K W' M' σ.f t id g8 := by
  obtain ⟨σ', h1, h2, h3, h4⟩ := ht
  exact ⟨σ', h1, hB.trans (h2.below hT hB.size), h4 hK, fun hne => h3 id (fun e => hne e.symm), h2.kind hT h8 (by decide) (by decide)⟩
theorem MidA.mono {w : World} {K : List Lit} {W : World} {M M' : Nat} {f : Int → Option Tn} {t id : Int} {g8 : Nat} (h : MidA w K W M f t id g8) (hM : M ≤ M') : MidA w K W M' f t id g8 := by
  obtain ⟨σ, h1, h2⟩ := h
  exact ⟨σ, h1.mono hM, h2⟩

set_option maxRecDepth 100000 in
set_option maxHeartbeats 8000000 in
theorem apart_walk (w : World) (a : Option Addr) (l : List OpL) (c : Nat) (id : Int) (hl : SlO w a l) (hm : l.length ≤ maxLen) (hid : Wt id) : Calls Try.prog 7 #[.slice a l.length c, .int .i64 id] w fun e w' => e = .returned (.bool true) ∧ Below w.heap.size w w' := by
  unfold maxLen at hm
  obtain ⟨K, hK⟩ : ∃ K : List Lit, (l.take 100).map (fun o => Lit.int .i64 o.txn) = K := ⟨_, rfl⟩
  have HK := toHid hK
  have hnew := new8 K (by rw [← hK]; simp; omega) w
  have HLv := toHid lives10
  have HO := toHid hl
  have HId := toHid hid
  clear hl hK hid
  go_enter Try.func7, Try.ntmps7
  go_wp2_with (go_at_call 8; refine hnew.mono ?_; rintro e w1 ⟨rfl, h1, b1⟩; have HT1 := toHid h1; have HB1 := toHid b1; clear h1 b1)
  go_loopw [6] (fun i W => ∃ k : Nat, k ≤ 100 ∧ k ≤ l.length ∧ i = .int .i64 k ∧ LoopA w K W (k * 200)) (fun i _ => l.length - (intOf i).toNat)
  case atStart => exact ⟨0, by omega, by omega, rfl, _, HT1.out, HB1.out, fun t x h => by cases h⟩
  case round =>
    obtain ⟨k, hk1, hk2, rfl, σ, hT, hB, hKW⟩ := hrel
    have HT := toHid hT
    have HB := toHid hB
    have HKW := toHid hKW
    clear hT hB HT1 HB1 hnew hKW
    by_cases hlt : k < l.length
    · by_cases hlh : k < 100
      · have HIn := toHid (show Lit.int .i64 l[k].txn ∈ K from by
          rw [← HK.out]
          refine List.mem_map.2 ⟨l[k], ?_, rfl⟩
          rw [List.mem_take_iff_getElem]
          exact ⟨k, by omega, rfl⟩)
        obtain ⟨b, o, rfl, hat, hoi⟩ := (HO.out.below HB.out).get hlt
        obtain ⟨q, hq⟩ : ∃ q, l[k] = q := ⟨_, rfl⟩
        rw [hq] at hat hoi HIn
        clear hq
        have HI := toHid hoi
        have hlt' : ((k : Nat) : Int) < (l.length : Int) := by omega
        have hlh' : ((k : Nat) : Int) < 100 := by omega
        obtain ⟨a0, a1, a2, a3, a4, a5, a6, a7, a8, a9, a10, a11, a12, a13, a14⟩ := hat
        go_wp2_with fail
        have HLg := toHid (light9 (w := wr.alloc (.cells (opC q) 36)) (r := q.r) (ta := q.ta) (tc := q.tc) (da := q.da) (dc := q.dc) HI.out.ri.lt HI.out.ri.ld)
        have hW5 : (wr.alloc (.cells (opC q) 36)).heap[wr.heap.size]? = some (.cells (opC q) 36) := heap_alloc_new wr _
        have HT5 := toHid (HT.out.below ((Below.refl _ _).alloc (Nat.le_refl _) (.cells (opC q) 36)))
        have HB5 := toHid (HB.out.alloc HB.out.size (.cells (opC q) 36))
        have HI5 := toHid (HI.out.below ((Below.refl _ _).alloc (Nat.le_refl _) (.cells (opC q) 36)))
        have hs5 : wr.heap.size < (wr.alloc (.cells (opC q) 36)).heap.size := by simp
        simp only [opC] at hW5 HT5 HB5 HI5 HLg hs5
        generalize hg5 : wr.heap.size = g5 at *
        generalize wr.alloc (.cells #[.int .i64 q.kind, .int .i64 q.txn, .int .i64 q.n, .int .i64 q.r.kind, .int .u64 (q.r.lsn : Int), .int .i64 q.r.txn, .int .u64 (q.r.prev : Int), .int .u64 (q.r.undo : Int), .int .i64 q.r.page, .int .i64 q.r.ak, .string (txt q.r.key), .string (txt q.r.old), .string (txt q.r.new), .slice q.ta q.r.txns.length q.tc, .slice q.da q.r.dirty.length q.dc] 36) = W5 at *
        clear a0 a1 a2 a3 a4 a5 a6 a7 a8 a9 a10 a11 a12 a13 a14 HI hoi
        refine Calls.mono HLg.out ?_
        rintro e w2 ⟨lb, rfl, hb2⟩
        have HB2 := toHid (HB5.out.trans (hb2.mono HB5.out.size))
        cases lb with
        | false =>
          go_wp2_with (go_at_call 10; refine Calls.mono (HLv.out _) ?_; rintro e w6 ⟨rfl, hb6⟩; have HB6 := toHid hb6; clear hb6)
          go_ret
          exact ⟨rfl, HB2.out.trans (HB6.out.mono HB2.out.size)⟩
        | true =>
          have HT2 := toHid (HT5.out.below hb2)
          have HI2 := toHid (HI5.out.below hb2)
          have HX2 := toHid ((hb2.block _ hs5).trans hW5)
          have hs2 : g5 < w2.heap.size := Nat.lt_of_lt_of_le hs5 hb2.size
          clear HT5 HB5 HI5 hW5 hs5 hb2 HLg HB HO HT
          obtain ⟨e0, e1, e2, e3, e4, e5, e6, e7, e8, e9, e10, e11, e12, e13, e14⟩ := op15 HX2.out
          go_wp2_with fail
          refine Calls.mono (row12 HT2.out HId.out) ?_
          rintro e w3 ⟨rfl, hb3⟩
          have hbA := hb3.alloc hb3.size (.cells (txV id (σ.f id)) 43)
          have HT3 := toHid (HT2.out.below hbA)
          have HI3 := toHid (HI2.out.below hbA)
          have HB3 := toHid (HB2.out.trans (hbA.mono HB2.out.size))
          have HX3 := toHid ((hbA.block _ hs2).trans HX2.out)
          have H83 := toHid (show (w3.alloc (.cells (txV id (σ.f id)) 43)).heap[w3.heap.size]? = some (.cells (txV id (σ.f id)) 43) from heap_alloc_new w3 _)
          have HK3 := toHid (kept14 HT3.out HId.out)
          have HN3 := toHid (next15 HT3.out HId.out)
          clear e0 e1 e2 e3 e4 e5 e6 e7 e8 e9 e10 e11 e12 e13 e14 hb3 hbA HT2 HI2 HB2 HX2
          simp only [txV] at HT3 HI3 HB3 HX3 H83 HK3 HN3
          go_upto_region 9 with fail
          generalize w3.heap.size = g8 at *
          generalize w3.alloc (.cells #[.int .i64 (idO id (σ.f id)), .int .i64 (stO (σ.f id)), .int .u64 (lastO (σ.f id) : Int)] 43) = W3 at *
          obtain ⟨e0, e1, e2, e3, e4, e5, e6, e7, e8, e9, e10, e11, e12, e13, e14⟩ := op15 HX3.out
          have hs3 := some_lt HX3.out
          go_upto_block 2 with (first
            | (go_at_call 14; refine Calls.mono HK3.out ?_; rintro e w20 ⟨rfl, hw⟩; obtain rfl := hw.symm)
            | (go_at_call 15; refine Calls.mono HN3.out ?_; rintro e w20 ⟨rfl, hw⟩; obtain rfl := hw.symm))
          go_cut [12, 59] (fun wh tag wc => tag = .int .i64 q.kind ∧ ∃ t, wh = .int .i64 t ∧ MidA w K wc ((k + 1) * 200) σ.f t id g8)
          case first =>
            by_cases h0 : q.kind = 0
            · have g0 : (q.kind == 0) = true := by simpa using h0
              clear h0
              as_aux_lemma =>
                go_wp2_with (go_at_call 11; refine Calls.mono (open11 HT3.out (fun _ _ => HIn.out)) ?_; rintro e w4 ⟨rfl, σ4, t4, s4, f4⟩; have HF := toHid (mid_of HT3.out HB3.out HKW.out H83.out (show Turns _ _ _ _ _ _ _ q.txn w4 from ⟨σ4, t4, s4, by rw [f4]; exact oth_open _ _⟩)); clear t4 s4 f4)
                go_meet
                case rel => exact ⟨rfl, q.txn, rfl, HF.out.mono (by omega)⟩
            · have g0 : (q.kind == 0) = false := by simpa using h0
              by_cases h12 : q.kind = 1 ∨ q.kind = 2
              · rcases h12 with h12 | h12
                · have g1 : (q.kind == 1) = true := by simpa using h12
                  clear h0 h12
                  as_aux_lemma =>
                    go_wp2_with fail
                    refine Calls.mono (row12 HT3.out HI3.out.wt) ?_
                    rintro e w4 ⟨rfl, hb4⟩
                    have hbA := hb4.alloc hb4.size (.cells (txV q.txn (σ.f q.txn)) 43)
                    have HT4 := toHid (HT3.out.below hbA)
                    have HI4 := toHid (HI3.out.below hbA)
                    have HB4 := toHid (HB3.out.trans (hbA.mono HB3.out.size))
                    have HX4 := toHid ((hbA.block _ hs3).trans HX3.out)
                    have H84 := toHid ((hbA.block _ (some_lt H83.out)).trans H83.out)
                    have hn4 : (w4.alloc (.cells (txV q.txn (σ.f q.txn)) 43)).heap[w4.heap.size]? = some (.cells (txV q.txn (σ.f q.txn)) 43) := heap_alloc_new w4 _
                    clear e0 e1 e2 e3 e4 e5 e6 e7 e8 e9 e10 e11 e12 e13 e14 hb4 hbA HT3 HI3 HB3 HX3 H83 HK3 HN3
                    simp only [txV] at HT4 HI4 HB4 HX4 H84 hn4
                    go_upto_region 17 with fail
                    generalize w4.heap.size = g13 at *
                    generalize w4.alloc (.cells #[.int .i64 (idO q.txn (σ.f q.txn)), .int .i64 (stO (σ.f q.txn)), .int .u64 (lastO (σ.f q.txn) : Int)] 43) = W4 at *
                    obtain ⟨e0, e1, e2, e3, e4, e5, e6, e7, e8, e9, e10, e11, e12, e13, e14⟩ := op15 HX4.out
                    obtain ⟨y0, y1, y2⟩ := cellsB hn4
                    go_wp2_with fail
                    refine Calls.mono (record13 q (lastO (σ.f q.txn)) k _ (by omega)) ?_
                    rintro e w5 ⟨rfl, hb5⟩
                    obtain ⟨rr, hrr⟩ : ∃ rr, recordR q.kind q.txn q.r (lastO (σ.f q.txn)) k = rr := ⟨_, rfl⟩
                    have hbB := hb5.alloc hb5.size (.cells (recC rr q.ta q.tc q.da q.dc) 34)
                    have HT5 := toHid (HT4.out.below hbB)
                    have HI5 := toHid (HI4.out.below hbB)
                    have HB5 := toHid (HB4.out.trans (hbB.mono HB4.out.size))
                    have H85 := toHid ((hbB.block _ (some_lt H84.out)).trans H84.out)
                    have hn5 : (w5.alloc (.cells (recC rr q.ta q.tc q.da q.dc) 34)).heap[w5.heap.size]? = some (.cells (recC rr q.ta q.tc q.da q.dc) 34) := heap_alloc_new w5 _
                    have HR := toHid (show (∀ W, OpI W q → RI W rr q.ta q.da) ∧ Wt rr.txn from by
                      have h1 := record_rows q.kind q.txn q.r (lastO (σ.f q.txn)) k
                      have h2 : Wt (recordR q.kind q.txn q.r (lastO (σ.f q.txn)) k).txn := by
                        unfold recordR
                        split
                        · exact HI5.out.wt
                        · exact HI5.out.wr
                      rw [hrr] at h1 h2
                      exact ⟨fun W h => ⟨by rw [h1.1]; exact h.ri.t, by rw [h1.2.1]; exact h.ri.d, by rw [h1.1]; exact h.ri.lt, by rw [h1.2.1]; exact h.ri.ld⟩, h2⟩)
                    rw [hrr]
                    clear hrr hb5 hbB HT4 HI4 HB4 HX4 H84 hn4 y0 y1 y2 e0 e1 e2 e3 e4 e5 e6 e7 e8 e9 e10 e11 e12 e13 e14
                    go_upto_region 18 with fail
                    generalize w5.heap.size = g15 at *
                    generalize w5.alloc (.cells (recC rr q.ta q.tc q.da q.dc) 34) = W5 at *
                    obtain ⟨f0, f1, f2, f3, f4, f5, f6, f7, f8, f9, f10, f11⟩ := box_of hn5
                    go_wp2_with (go_at_call 16; refine Calls.mono (note16 HT5.out (by omega) (HR.out.1 _ HI5.out) HR.out.2) ?_; rintro e w6 ⟨rfl, σ6, t6, s6, f6'⟩; have HF := toHid (mid_of HT5.out HB5.out HKW.out H85.out (show Turns _ _ _ _ _ _ _ rr.txn w6 from ⟨σ6, t6, s6, by rw [f6']; exact oth_note _ _⟩)); clear t6 s6 f6')
                    go_meet
                    case rel => exact ⟨rfl, rr.txn, rfl, HF.out.mono (by omega)⟩
                · have g1 : (q.kind == 1) = false := by simp [h12]
                  have g2 : (q.kind == 2) = true := by simpa using h12
                  clear h0 h12
                  as_aux_lemma =>
                    go_wp2_with fail
                    refine Calls.mono (row12 HT3.out HI3.out.wt) ?_
                    rintro e w4 ⟨rfl, hb4⟩
                    have hbA := hb4.alloc hb4.size (.cells (txV q.txn (σ.f q.txn)) 43)
                    have HT4 := toHid (HT3.out.below hbA)
                    have HI4 := toHid (HI3.out.below hbA)
                    have HB4 := toHid (HB3.out.trans (hbA.mono HB3.out.size))
                    have HX4 := toHid ((hbA.block _ hs3).trans HX3.out)
                    have H84 := toHid ((hbA.block _ (some_lt H83.out)).trans H83.out)
                    have hn4 : (w4.alloc (.cells (txV q.txn (σ.f q.txn)) 43)).heap[w4.heap.size]? = some (.cells (txV q.txn (σ.f q.txn)) 43) := heap_alloc_new w4 _
                    clear e0 e1 e2 e3 e4 e5 e6 e7 e8 e9 e10 e11 e12 e13 e14 hb4 hbA HT3 HI3 HB3 HX3 H83 HK3 HN3
                    simp only [txV] at HT4 HI4 HB4 HX4 H84 hn4
                    go_upto_region 17 with fail
                    generalize w4.heap.size = g13 at *
                    generalize w4.alloc (.cells #[.int .i64 (idO q.txn (σ.f q.txn)), .int .i64 (stO (σ.f q.txn)), .int .u64 (lastO (σ.f q.txn) : Int)] 43) = W4 at *
                    obtain ⟨e0, e1, e2, e3, e4, e5, e6, e7, e8, e9, e10, e11, e12, e13, e14⟩ := op15 HX4.out
                    obtain ⟨y0, y1, y2⟩ := cellsB hn4
                    go_wp2_with fail
                    refine Calls.mono (record13 q (lastO (σ.f q.txn)) k _ (by omega)) ?_
                    rintro e w5 ⟨rfl, hb5⟩
                    obtain ⟨rr, hrr⟩ : ∃ rr, recordR q.kind q.txn q.r (lastO (σ.f q.txn)) k = rr := ⟨_, rfl⟩
                    have hbB := hb5.alloc hb5.size (.cells (recC rr q.ta q.tc q.da q.dc) 34)
                    have HT5 := toHid (HT4.out.below hbB)
                    have HI5 := toHid (HI4.out.below hbB)
                    have HB5 := toHid (HB4.out.trans (hbB.mono HB4.out.size))
                    have H85 := toHid ((hbB.block _ (some_lt H84.out)).trans H84.out)
                    have hn5 : (w5.alloc (.cells (recC rr q.ta q.tc q.da q.dc) 34)).heap[w5.heap.size]? = some (.cells (recC rr q.ta q.tc q.da q.dc) 34) := heap_alloc_new w5 _
                    have HR := toHid (show (∀ W, OpI W q → RI W rr q.ta q.da) ∧ Wt rr.txn from by
                      have h1 := record_rows q.kind q.txn q.r (lastO (σ.f q.txn)) k
                      have h2 : Wt (recordR q.kind q.txn q.r (lastO (σ.f q.txn)) k).txn := by
                        unfold recordR
                        split
                        · exact HI5.out.wt
                        · exact HI5.out.wr
                      rw [hrr] at h1 h2
                      exact ⟨fun W h => ⟨by rw [h1.1]; exact h.ri.t, by rw [h1.2.1]; exact h.ri.d, by rw [h1.1]; exact h.ri.lt, by rw [h1.2.1]; exact h.ri.ld⟩, h2⟩)
                    rw [hrr]
                    clear hrr hb5 hbB HT4 HI4 HB4 HX4 H84 hn4 y0 y1 y2 e0 e1 e2 e3 e4 e5 e6 e7 e8 e9 e10 e11 e12 e13 e14
                    go_upto_region 18 with fail
                    generalize w5.heap.size = g15 at *
                    generalize w5.alloc (.cells (recC rr q.ta q.tc q.da q.dc) 34) = W5 at *
                    obtain ⟨f0, f1, f2, f3, f4, f5, f6, f7, f8, f9, f10, f11⟩ := box_of hn5
                    go_wp2_with (go_at_call 16; refine Calls.mono (note16 HT5.out (by omega) (HR.out.1 _ HI5.out) HR.out.2) ?_; rintro e w6 ⟨rfl, σ6, t6, s6, f6'⟩; have HF := toHid (mid_of HT5.out HB5.out HKW.out H85.out (show Turns _ _ _ _ _ _ _ rr.txn w6 from ⟨σ6, t6, s6, by rw [f6']; exact oth_note _ _⟩)); clear t6 s6 f6')
                    go_meet
                    case rel => exact ⟨rfl, rr.txn, rfl, HF.out.mono (by omega)⟩
              · have g1 : (q.kind == 1) = false := by simp; omega
                have g2 : (q.kind == 2) = false := by simp; omega
                by_cases h3 : q.kind = 3
                · have g3 : (q.kind == 3) = true := by simpa using h3
                  clear h0 h12 h3
                  as_aux_lemma =>
                    go_wp2_with (go_at_call 20; refine Calls.mono (save20 HT3.out HI3.out.wt) ?_; rintro e w4 ⟨n4, z4, rfl, t4⟩; have HF := toHid (mid_of HT3.out HB3.out HKW.out H83.out t4); clear t4)
                    go_meet
                    case rel => exact ⟨rfl, q.txn, rfl, HF.out.mono (by omega)⟩
                · have g3 : (q.kind == 3) = false := by simpa using h3
                  by_cases h5 : q.kind = 5
                  · have g5' : (q.kind == 5) = true := by simpa using h5
                    clear h0 h12 h3 h5
                    as_aux_lemma =>
                      go_wp2_with (go_at_call 21; refine Calls.mono (drop21 HT3.out HI3.out.wt q.n) ?_; rintro e w4 ⟨z4, rfl, t4⟩; have HF := toHid (mid_of HT3.out HB3.out HKW.out H83.out t4); clear t4)
                      go_meet
                      case rel => exact ⟨rfl, q.txn, rfl, HF.out.mono (by omega)⟩
                  · have g5' : (q.kind == 5) = false := by simpa using h5
                    by_cases h6 : q.kind = 6
                    · have g6 : (q.kind == 6) = true := by simpa using h6
                      clear h0 h12 h3 h5 h6
                      as_aux_lemma =>
                        go_wp2_with (go_at_call 19; refine Calls.mono (gone19 HT3.out HI3.out.wt) ?_; rintro e w4 ⟨rfl, t4, s4⟩; have HF := toHid (mid_of HT3.out HB3.out HKW.out H83.out (show Turns _ _ _ _ _ _ _ q.txn w4 from ⟨_, t4, s4, oth_gone _ _⟩)); clear t4 s4)
                        go_meet
                        case rel => exact ⟨rfl, q.txn, rfl, HF.out.mono (by omega)⟩
                    · have g6 : (q.kind == 6) = false := by simpa using h6
                      clear h0 h12 h3 h5 h6
                      as_aux_lemma =>
                        go_wp2
                        go_meet
                        case rel => exact ⟨rfl, q.txn, rfl, (mid_of HT3.out HB3.out HKW.out H83.out (Turns.same HT3.out)).mono (by omega)⟩
          case rest =>
            as_aux_lemma =>
              obtain ⟨rfl, t, rfl, σc, hTc, hBc, hKc, hsame, h8c⟩ := hcut
              have HTc := toHid hTc
              have HBc := toHid hBc
              have HKc := toHid hKc
              have HSm := toHid hsame
              clear hTc hBc hKc hsame HT3 HI3 HB3 HX3 H83 HK3 HN3 HIn e0 e1 e2 e3 e4 e5 e6 e7 e8 e9 e10 e11 e12 e13 e14 hs3
              go_wp2_with fail
              refine Calls.mono (row12 HTc.out HId.out) ?_
              rintro e w4 ⟨rfl, hb4⟩
              have hbA := hb4.alloc hb4.size (.cells (txV id (σc.f id)) 43)
              have HT4 := toHid (HTc.out.below hbA)
              have HB4 := toHid (HBc.out.trans (hbA.mono HBc.out.size))
              have h84 := (hbA.block _ (some_lt h8c)).trans h8c
              have hn4 : (w4.alloc (.cells (txV id (σc.f id)) 43)).heap[w4.heap.size]? = some (.cells (txV id (σc.f id)) 43) := heap_alloc_new w4 _
              have HK4 := toHid (kept14 HT4.out HId.out)
              have HN4 := toHid (next15 HT4.out HId.out)
              have HRw := toHid (rows24 HT4.out HKc.out)
              clear hb4 hbA h8c
              simp only [txV] at HT4 HB4 h84 hn4 HK4 HN4 HRw
              go_upto_region 27 with fail
              generalize w4.heap.size = g16 at *
              generalize w4.alloc (.cells #[.int .i64 (idO id (σc.f id)), .int .i64 (stO (σc.f id)), .int .u64 (lastO (σc.f id) : Int)] 43) = W4 at *
              by_cases ht : t = id
              · have gt : (t != id) = false := by simp [ht]
                obtain ⟨y0, y1, y2⟩ := cellsB hn4
                obtain ⟨x0, x1, x2⟩ := cellsB h84
                have heq := txq_same
                clear ht
                go_wp2_with (first
                  | (go_at_call 14; refine Calls.mono HK4.out ?_; rintro e w20 ⟨rfl, hw⟩; obtain rfl := hw.symm)
                  | (go_at_call 15; refine Calls.mono HN4.out ?_; rintro e w20 ⟨rfl, hw⟩; obtain rfl := hw.symm)
                  | (go_at_call 24; refine Calls.mono HRw.out ?_; rintro e w5 ⟨v5, ts, rfl, hr5, hp5, hm5, hl5, hb5⟩; obtain ⟨ra, rc, rfl⟩ := ownsRow_shape2 hr5; have HR5 := toHid hr5; have HB5 := toHid hb5; have hll : (rowsL σc.f ts).length ≤ 1000 := Nat.le_trans (List.length_filterMap_le _ _) hl5; have HRi := toHid (rowsL_rise (f := σc.f) hp5); have HLa := toHid (fun p (hp : p ∈ rowsL σc.f ts) => rowsL_mem hp); clear hr5 hp5 hm5 hl5 hb5))
                generalize rowsL σc.f ts = L at *
                have HF5 := toHid (show LoopA w K w5 ((k + 1) * 200) from ⟨σc, HT4.out.below HB5.out, HB4.out.trans (HB5.out.mono HB4.out.size), HKc.out⟩)
                clear HT4 HB4 HK4 HN4 HRw HB5 HTc HBc
                go_loopw [19] (fun i W => ∃ j : Nat, j ≤ L.length ∧ i = .int .i64 j ∧ Below w5.heap.size w5 W) (fun i _ => L.length - (intOf i).toNat)
                case atStart => exact ⟨0, by omega, rfl, Below.refl _ _⟩
                case round =>
                  obtain ⟨j, hj, rfl, hbj⟩ := hrel
                  have HBj := toHid hbj
                  clear hbj
                  by_cases hj1 : j < L.length
                  · have q1 : (j : Int) < (L.length : Int) := by omega
                    obtain ⟨rg, rfl, hcs⟩ : ∃ rg, ra = some ⟨rg, 0, none⟩ ∧ ∀ i, i < L.length → wr.cell? ⟨rg, i * 3, none⟩ = some (.int .i64 (L.getD i (0, tn0)).1) ∧ wr.cell? ⟨rg, i * 3 + 2, none⟩ = some (.int .u64 ((L.getD i (0, tn0)).2.last : Int)) := by
                      rcases HR5.out.2 with ⟨h0, h1⟩ | ⟨rg, cap, cur, e, hb, hg, _⟩
                      · omega
                      · injection e with e1 e2 e3
                        subst e1
                        refine ⟨rg, rfl, fun i hi => ?_⟩
                        obtain ⟨c0, _, c2⟩ := rcells_get L i hi
                        have d0 := HR5.out.cells (g := rg) rfl _ _ c0
                        have d2 := HR5.out.cells (g := rg) rfl _ _ c2
                        rw [addr_add] at d0 d2
                        have hlt := some_lt hg
                        rw [HBj.out.cell (p := ⟨rg, _, none⟩) hlt, HBj.out.cell (p := ⟨rg, _, none⟩) hlt, d0, d2]
                        simp [hi]
                    obtain ⟨c0, c2⟩ := hcs j hj1
                    have hla : ¬ (L.getD j (0, tn0)).2.last = 0 := HLa.out _ (by simp [hj1])
                    generalize hz9 : (L.getD j (0, tn0)).2.last = z9 at *
                    have hz1 : ((z9 : Int) == 0) = false := by simp; omega
                    have hz2 : (z9 == 0) = false := by simpa using hla
                    by_cases hj0 : j = 0
                    · have p1 : ¬ 0 < j := by omega
                      have p2 : decide ((0 : Int) < (j : Int)) = false := by simp; omega
                      generalize (L.getD j (0, tn0)).1 = z0 at *
                      clear hj0 hz9 hcs
                      go_wp2_with fail
                      go_quiet (fail)
                      go_wp2
                      go_roundw
                      case rel => exact ⟨j + 1, by omega, by go_num, below_drewN HBj.out _⟩
                      case measure => simp [intOf]; omega
                    · obtain ⟨m, hm9⟩ : ∃ m, j = m + 1 := ⟨j - 1, by omega⟩
                      obtain ⟨d0, _⟩ := hcs m (by omega)
                      have hri : (L.getD m (0, tn0)).1 < (L.getD j (0, tn0)).1 := by
                        have := List.pairwise_iff_getElem.1 HRi.out m j (by omega) hj1 (by omega)
                        simpa [hj1, show m < L.length by omega] using this
                      generalize (L.getD j (0, tn0)).1 = z0 at *
                      generalize (L.getD m (0, tn0)).1 = z1 at *
                      have p1 : 0 < j := by omega
                      have p2 : decide ((0 : Int) < (j : Int)) = true := by simp; omega
                      have p3 : (j : Int) - 1 = (m : Int) := by omega
                      have p4 : IntKind.i64.wrap ((j : Int) - 1) = (m : Int) := by rw [IntKind.wrap_i64]; omega
                      have p5 : (m : Int) < (L.length : Int) := by omega
                      have p5' : m < L.length := by omega
                      have p6 : ¬ z0 ≤ z1 := by omega
                      have p7 : decide (z0 ≤ z1) = false := by simpa using p6
                      clear hj0 hz9 hm9 hcs
                      go_wp2_with fail
                      go_quiet (fail)
                      go_wp2
                      go_roundw
                      case rel => exact ⟨j + 1, by omega, by go_num, below_drewN HBj.out _⟩
                      case measure => simp [intOf]; omega
                  · have q1 : ¬ (j : Int) < (L.length : Int) := by omega
                    go_wp2
                    go_roundw
                    case rel =>
                      obtain ⟨σf, tf, bf, kf⟩ := HF5.out
                      exact ⟨k + 1, by omega, by omega, by go_num, σf, tf.below HBj.out, bf.trans (HBj.out.mono bf.size), kf⟩
                    case measure => simp [intOf]; omega
              · have gt : (t != id) = true := by simp [ht]
                have he := HSm.out ht
                rw [he] at hn4 HK4 HN4 ⊢
                obtain ⟨y0, y1, y2⟩ := cellsB hn4
                obtain ⟨x0, x1, x2⟩ := cellsB h84
                have heq := txq_same
                clear ht he
                go_wp2_with (first
                  | (go_at_call 14; refine Calls.mono HK4.out ?_; rintro e w20 ⟨rfl, hw⟩; obtain rfl := hw.symm)
                  | (go_at_call 15; refine Calls.mono HN4.out ?_; rintro e w20 ⟨rfl, hw⟩; obtain rfl := hw.symm)
                  | (go_at_call 24; refine Calls.mono HRw.out ?_; rintro e w5 ⟨v5, ts, rfl, hr5, hp5, hm5, hl5, hb5⟩; obtain ⟨ra, rc, rfl⟩ := ownsRow_shape2 hr5; have HR5 := toHid hr5; have HB5 := toHid hb5; have hll : (rowsL σc.f ts).length ≤ 1000 := Nat.le_trans (List.length_filterMap_le _ _) hl5; have HRi := toHid (rowsL_rise (f := σc.f) hp5); have HLa := toHid (fun p (hp : p ∈ rowsL σc.f ts) => rowsL_mem hp); clear hr5 hp5 hm5 hl5 hb5))
                generalize rowsL σc.f ts = L at *
                have HF5 := toHid (show LoopA w K w5 ((k + 1) * 200) from ⟨σc, HT4.out.below HB5.out, HB4.out.trans (HB5.out.mono HB4.out.size), HKc.out⟩)
                clear HT4 HB4 HK4 HN4 HRw HB5 HTc HBc
                go_loopw [19] (fun i W => ∃ j : Nat, j ≤ L.length ∧ i = .int .i64 j ∧ Below w5.heap.size w5 W) (fun i _ => L.length - (intOf i).toNat)
                case atStart => exact ⟨0, by omega, rfl, Below.refl _ _⟩
                case round =>
                  obtain ⟨j, hj, rfl, hbj⟩ := hrel
                  have HBj := toHid hbj
                  clear hbj
                  by_cases hj1 : j < L.length
                  · have q1 : (j : Int) < (L.length : Int) := by omega
                    obtain ⟨rg, rfl, hcs⟩ : ∃ rg, ra = some ⟨rg, 0, none⟩ ∧ ∀ i, i < L.length → wr.cell? ⟨rg, i * 3, none⟩ = some (.int .i64 (L.getD i (0, tn0)).1) ∧ wr.cell? ⟨rg, i * 3 + 2, none⟩ = some (.int .u64 ((L.getD i (0, tn0)).2.last : Int)) := by
                      rcases HR5.out.2 with ⟨h0, h1⟩ | ⟨rg, cap, cur, e, hb, hg, _⟩
                      · omega
                      · injection e with e1 e2 e3
                        subst e1
                        refine ⟨rg, rfl, fun i hi => ?_⟩
                        obtain ⟨c0, _, c2⟩ := rcells_get L i hi
                        have d0 := HR5.out.cells (g := rg) rfl _ _ c0
                        have d2 := HR5.out.cells (g := rg) rfl _ _ c2
                        rw [addr_add] at d0 d2
                        have hlt := some_lt hg
                        rw [HBj.out.cell (p := ⟨rg, _, none⟩) hlt, HBj.out.cell (p := ⟨rg, _, none⟩) hlt, d0, d2]
                        simp [hi]
                    obtain ⟨c0, c2⟩ := hcs j hj1
                    have hla : ¬ (L.getD j (0, tn0)).2.last = 0 := HLa.out _ (by simp [hj1])
                    generalize hz9 : (L.getD j (0, tn0)).2.last = z9 at *
                    have hz1 : ((z9 : Int) == 0) = false := by simp; omega
                    have hz2 : (z9 == 0) = false := by simpa using hla
                    by_cases hj0 : j = 0
                    · have p1 : ¬ 0 < j := by omega
                      have p2 : decide ((0 : Int) < (j : Int)) = false := by simp; omega
                      generalize (L.getD j (0, tn0)).1 = z0 at *
                      clear hj0 hz9 hcs
                      go_wp2_with fail
                      go_quiet (fail)
                      go_wp2
                      go_roundw
                      case rel => exact ⟨j + 1, by omega, by go_num, below_drewN HBj.out _⟩
                      case measure => simp [intOf]; omega
                    · obtain ⟨m, hm9⟩ : ∃ m, j = m + 1 := ⟨j - 1, by omega⟩
                      obtain ⟨d0, _⟩ := hcs m (by omega)
                      have hri : (L.getD m (0, tn0)).1 < (L.getD j (0, tn0)).1 := by
                        have := List.pairwise_iff_getElem.1 HRi.out m j (by omega) hj1 (by omega)
                        simpa [hj1, show m < L.length by omega] using this
                      generalize (L.getD j (0, tn0)).1 = z0 at *
                      generalize (L.getD m (0, tn0)).1 = z1 at *
                      have p1 : 0 < j := by omega
                      have p2 : decide ((0 : Int) < (j : Int)) = true := by simp; omega
                      have p3 : (j : Int) - 1 = (m : Int) := by omega
                      have p4 : IntKind.i64.wrap ((j : Int) - 1) = (m : Int) := by rw [IntKind.wrap_i64]; omega
                      have p5 : (m : Int) < (L.length : Int) := by omega
                      have p5' : m < L.length := by omega
                      have p6 : ¬ z0 ≤ z1 := by omega
                      have p7 : decide (z0 ≤ z1) = false := by simpa using p6
                      clear hj0 hz9 hm9 hcs
                      go_wp2_with fail
                      go_quiet (fail)
                      go_wp2
                      go_roundw
                      case rel => exact ⟨j + 1, by omega, by go_num, below_drewN HBj.out _⟩
                      case measure => simp [intOf]; omega
                  · have q1 : ¬ (j : Int) < (L.length : Int) := by omega
                    go_wp2
                    go_roundw
                    case rel =>
                      obtain ⟨σf, tf, bf, kf⟩ := HF5.out
                      exact ⟨k + 1, by omega, by omega, by go_num, σf, tf.below HBj.out, bf.trans (HBj.out.mono bf.size), kf⟩
                    case measure => simp [intOf]; omega
      · have hlh' : ¬ ((k : Nat) : Int) < 100 := by omega
        go_wp2_with (go_at_call 10; refine Calls.mono (HLv.out _) ?_; rintro e w6 ⟨rfl, hb6⟩; have HB6 := toHid hb6; clear hb6)
        go_ret
        exact ⟨rfl, HB.out.trans (HB6.out.mono HB.out.size)⟩
    · go_wp2_with (go_at_call 10; refine Calls.mono (HLv.out _) ?_; rintro e w6 ⟨rfl, hb6⟩; have HB6 := toHid hb6; clear hb6)
      go_ret
      exact ⟨rfl, HB.out.trans (HB6.out.mono HB.out.size)⟩
end Go.Proofs.Yticadfaclnimgaa
