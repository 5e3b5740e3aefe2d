/-
  The walk of ChainNeeds.
-/
import Derived.Test.YticadfaclnimgaaLk
namespace Go.Proofs.Yticadfaclnimgaa
open Go.RowKit Go.Maps

/-- What the loop holds: a table, its needs bounded. -/
def LoopN (w : World) (K : List Lit) (W : World) (M : Nat) : Prop := ∃ σ, Tb W w.heap.size (w.heap.size + 1) w.heap.size K M σ ∧ Below w.heap.size w W

/-- What ChainNeeds looks at behind Note. -/
theorem note_seen (f : Int → Option Tn) (r : Rc) : (noteE (f r.txn) r = 0 → (f r.txn).isSome = true ∧ ((noteF f r r.txn).isSome = true ↔ r.kind ≠ 5) ∧ ((noteF f r r.txn).isSome = true → lastO (noteF f r r.txn) = r.lsn)) ∧ (noteE (f r.txn) r ≠ 0 → noteF f r = f) := by
  refine ⟨fun h => ?_, note_same⟩
  have hs : (f r.txn).isSome = true := by
    cases e : f r.txn with
    | none =>
      rw [e] at h
      unfold noteE at h
      split at h <;> simp at h
    | some x => rfl
  unfold noteF
  rw [if_pos h, upd_same]
  by_cases h5 : r.kind = 5
  · rw [if_pos h5]
    exact ⟨hs, by simp [h5], fun h => by cases h⟩
  · rw [if_neg h5]
    obtain ⟨x, hx⟩ := Option.isSome_iff_exists.1 hs
    rw [hx]
    exact ⟨rfl, by simp [h5], fun _ => rfl⟩
theorem kept_nn (o : Option Tn) : ¬ keptO o < 0 := by cases o <;> simp [keptO]

set_option maxRecDepth 100000 in
set_option maxHeartbeats 8000000 in
theorem needs_walk (w : World) (a : Option Addr) (l : List OpL) (c : Nat) (hl : SlO w a l) (hm : l.length ≤ maxLen) : Calls Try.prog 3 #[.slice a l.length c] w fun e w' => e = .returned (.bool true) ∧ Below w.heap.size w w' := by
  unfold maxLen at hm
  obtain ⟨K, hK⟩ : ∃ K : List Lit, (l.take 100).map (fun o => Lit.int .i64 o.txn) = K := ⟨_, rfl⟩
  have HK := toHid hK
  have hnew := new8 K (by rw [← hK]; simp; omega) w
  have HLv := toHid lives10
  have HO := toHid hl
  clear hl hK
  go_enter Try.func3, Try.ntmps3
  go_wp2_with (go_at_call 8; refine hnew.mono ?_; rintro e w1 ⟨rfl, h1, b1⟩; have HT1 := toHid h1; have HB1 := toHid b1; clear h1 b1)
  go_loopw [4] (fun i W => ∃ k : Nat, k ≤ 100 ∧ k ≤ l.length ∧ i = .int .i64 k ∧ LoopN w K W (k * 200)) (fun i _ => l.length - (intOf i).toNat)
  case atStart => exact ⟨0, by omega, by omega, rfl, _, HT1.out, HB1.out⟩
  case round =>
    obtain ⟨k, hk1, hk2, rfl, σ, hT, hB⟩ := hrel
    have HT := toHid hT
    have HB := toHid hB
    clear hT hB HT1 HB1 hnew
    by_cases hlt : k < l.length
    · by_cases hlh : k < 100
      · have HIn := toHid (show Lit.int .i64 l[k].txn ∈ K from by
          rw [← HK.out]
          refine List.mem_map.2 ⟨l[k], ?_, rfl⟩
          rw [List.mem_take_iff_getElem]
          exact ⟨k, by omega, rfl⟩)
        obtain ⟨b, o, rfl, hat, hoi⟩ := (HO.out.below HB.out).get hlt
        obtain ⟨q, hq⟩ : ∃ q, l[k] = q := ⟨_, rfl⟩
        rw [hq] at hat hoi HIn
        clear hq
        have HI := toHid hoi
        have hlt' : ((k : Nat) : Int) < (l.length : Int) := by omega
        have hlh' : ((k : Nat) : Int) < 100 := by omega
        obtain ⟨a0, a1, a2, a3, a4, a5, a6, a7, a8, a9, a10, a11, a12, a13, a14⟩ := hat
        go_wp2_with fail
        have HLg := toHid (light9 (w := wr.alloc (.cells (opC q) 36)) (r := q.r) (ta := q.ta) (tc := q.tc) (da := q.da) (dc := q.dc) HI.out.ri.lt HI.out.ri.ld)
        have hW5 : (wr.alloc (.cells (opC q) 36)).heap[wr.heap.size]? = some (.cells (opC q) 36) := heap_alloc_new wr _
        have HT5 := toHid (HT.out.below ((Below.refl _ _).alloc (Nat.le_refl _) (.cells (opC q) 36)))
        have HB5 := toHid (HB.out.alloc HB.out.size (.cells (opC q) 36))
        have HI5 := toHid (HI.out.below ((Below.refl _ _).alloc (Nat.le_refl _) (.cells (opC q) 36)))
        have hs5 : wr.heap.size < (wr.alloc (.cells (opC q) 36)).heap.size := by simp
        simp only [opC] at hW5 HT5 HB5 HI5 HLg hs5
        generalize hg5 : wr.heap.size = g5 at *
        generalize wr.alloc (.cells #[.int .i64 q.kind, .int .i64 q.txn, .int .i64 q.n, .int .i64 q.r.kind, .int .u64 (q.r.lsn : Int), .int .i64 q.r.txn, .int .u64 (q.r.prev : Int), .int .u64 (q.r.undo : Int), .int .i64 q.r.page, .int .i64 q.r.ak, .string (txt q.r.key), .string (txt q.r.old), .string (txt q.r.new), .slice q.ta q.r.txns.length q.tc, .slice q.da q.r.dirty.length q.dc] 36) = W5 at *
        clear a0 a1 a2 a3 a4 a5 a6 a7 a8 a9 a10 a11 a12 a13 a14 HI hoi
        refine Calls.mono HLg.out ?_
        rintro e w2 ⟨lb, rfl, hb2⟩
        have HB2 := toHid (HB5.out.trans (hb2.mono HB5.out.size))
        cases lb with
        | false =>
          go_wp2_with (go_at_call 10; refine Calls.mono (HLv.out _) ?_; rintro e w6 ⟨rfl, hb6⟩; have HB6 := toHid hb6; clear hb6)
          go_ret
          exact ⟨rfl, HB2.out.trans (HB6.out.mono HB2.out.size)⟩
        | true =>
          have HT2 := toHid (HT5.out.below hb2)
          have HI2 := toHid (HI5.out.below hb2)
          have HX2 := toHid ((hb2.block _ hs5).trans hW5)
          have hs2 : g5 < w2.heap.size := Nat.lt_of_lt_of_le hs5 hb2.size
          clear HT5 HB5 HI5 hW5 hs5 hb2 HLg HB HO HT
          obtain ⟨e0, e1, e2, e3, e4, e5, e6, e7, e8, e9, e10, e11, e12, e13, e14⟩ := op15 HX2.out
          by_cases h0 : q.kind = 0
          · have g0 : (q.kind == 0) = true := by simpa using h0
            clear h0
            go_wp2_with (go_at_call 11; refine Calls.mono (open11 HT2.out (fun _ _ => HIn.out)) ?_; rintro e w3 ⟨rfl, hL⟩; have HL := toHid hL; clear hL)
            go_roundw
            case rel =>
              obtain ⟨σ3, t3, s3, _⟩ := HL.out
              exact ⟨k + 1, by omega, by omega, by go_num, σ3, t3.mono (by omega), HB2.out.trans (s3.below HT2.out HB2.out.size)⟩
            case measure => simp [intOf]; omega
          · have g0 : (q.kind == 0) = false := by simpa using h0
            by_cases h12 : q.kind = 1 ∨ q.kind = 2
            · rcases h12 with h12 | h12
              · have g1 : (q.kind == 1) = true := by simpa using h12
                clear h0 h12
                go_wp2_with fail
                refine Calls.mono (row12 HT2.out HI2.out.wt) ?_
                rintro e w3 ⟨rfl, hb3⟩
                have HT3 := toHid (HT2.out.below hb3)
                have HB3 := toHid (HB2.out.trans (hb3.mono HB2.out.size))
                have HX3 := toHid ((hb3.block _ hs2).trans HX2.out)
                have HI3 := toHid (HI2.out.below hb3)
                have hs3 : g5 < w3.heap.size := Nat.lt_of_lt_of_le hs2 hb3.size
                clear e0 e1 e2 e3 e4 e5 e6 e7 e8 e9 e10 e11 e12 e13 e14 hb3
                obtain ⟨e0, e1, e2, e3, e4, e5, e6, e7, e8, e9, e10, e11, e12, e13, e14⟩ := op15 HX3.out
                go_wp2_with fail
                refine Calls.mono (record13 q (lastO (σ.f q.txn)) k _ (by omega)) ?_
                rintro e w4 ⟨rfl, hb4⟩
                clear e0 e1 e2 e3 e4 e5 e6 e7 e8 e9 e10 e11 e12 e13 e14
                have HI4 := toHid ((HI3.out.below ((Below.refl _ _).alloc (Nat.le_refl _) _)).below hb4)
                have HT4 := toHid ((HT3.out.below ((Below.refl _ _).alloc (Nat.le_refl _) _)).below hb4)
                have hb4' := ((Below.refl w3.heap.size w3).alloc (Nat.le_refl _) _).trans (hb4.mono (by simp))
                have HB4 := toHid (HB3.out.trans (hb4'.mono HB3.out.size))
                clear hb4 hb4'
                obtain ⟨rr, hrr⟩ : ∃ rr, recordR q.kind q.txn q.r (lastO (σ.f q.txn)) k = rr := ⟨_, rfl⟩
                have HR := toHid (show (∀ W, OpI W q → RI W rr q.ta q.da) ∧ Wt rr.txn from by
                  have h1 := record_rows q.kind q.txn q.r (lastO (σ.f q.txn)) k
                  have h2 : Wt (recordR q.kind q.txn q.r (lastO (σ.f q.txn)) k).txn := by
                    unfold recordR
                    split
                    · exact HI4.out.wt
                    · exact HI4.out.wr
                  rw [hrr] at h1 h2
                  exact ⟨fun W h => ⟨by rw [h1.1]; exact h.ri.t, by rw [h1.2.1]; exact h.ri.d, by rw [h1.1]; exact h.ri.lt, by rw [h1.2.1]; exact h.ri.ld⟩, h2⟩)
                rw [hrr]
                clear hrr HT3 HI3 HX3 HX2 HT2 HI2
                go_wp2_with fail
                have hW8 : (w4.alloc (.cells (recC rr q.ta q.tc q.da q.dc) 34)).heap[w4.heap.size]? = some (.cells (recC rr q.ta q.tc q.da q.dc) 34) := heap_alloc_new w4 _
                have HT8 := toHid (HT4.out.below ((Below.refl _ _).alloc (Nat.le_refl _) (.cells (recC rr q.ta q.tc q.da q.dc) 34)))
                have HI8 := toHid (HI4.out.below ((Below.refl _ _).alloc (Nat.le_refl _) (.cells (recC rr q.ta q.tc q.da q.dc) 34)))
                have HB8 := toHid (HB4.out.alloc HB4.out.size (.cells (recC rr q.ta q.tc q.da q.dc) 34))
                refine Calls.mono (row12 HT8.out HR.out.2) ?_
                rintro e w9 ⟨rfl, hb9⟩
                have hX9 := (hb9.block _ (some_lt hW8)).trans hW8
                have HT9 := toHid (HT8.out.below hb9)
                have HI9 := toHid (HI8.out.below hb9)
                have HB9 := toHid (HB8.out.trans (hb9.mono HB8.out.size))
                clear hW8 HT8 HI8 HB8 HT4 HI4 HB4 hb9
                generalize w4.heap.size = g8 at *
                obtain ⟨f0, f1, f2, f3, f4, f5, f6, f7, f8, f9, f10, f11⟩ := box_of hX9
                have hs9 := some_lt hX9
                go_wp2_with fail
                have hX10 : (w9.alloc (.cells (txV rr.txn (σ.f rr.txn)) 43)).heap[g8]? = some (.cells (recC rr q.ta q.tc q.da q.dc) 34) := (heap_alloc_old hs9).trans hX9
                have hY10 : (w9.alloc (.cells (txV rr.txn (σ.f rr.txn)) 43)).heap[w9.heap.size]? = some (.cells (txV rr.txn (σ.f rr.txn)) 43) := heap_alloc_new w9 _
                have HT10 := toHid (HT9.out.below ((Below.refl _ _).alloc (Nat.le_refl _) (.cells (txV rr.txn (σ.f rr.txn)) 43)))
                have HI10 := toHid (HI9.out.below ((Below.refl _ _).alloc (Nat.le_refl _) (.cells (txV rr.txn (σ.f rr.txn)) 43)))
                have HB10 := toHid (HB9.out.alloc HB9.out.size (.cells (txV rr.txn (σ.f rr.txn)) 43))
                generalize w9.heap.size = g9 at *
                generalize w9.alloc (.cells (txV rr.txn (σ.f rr.txn)) 43) = W10 at *
                clear f0 f1 f2 f3 f4 f5 f6 f7 f8 f9 f10 f11 hX9 hs9 HT9 HI9 HB9
                obtain ⟨f0, f1, f2, f3, f4, f5, f6, f7, f8, f9, f10, f11⟩ := box_of hX10
                have HTd := toHid (fun n => HT10.out.below (below_drewN (Below.refl W10.heap.size W10) n))
                go_quiet (first | (go_at_call 14; exact Calls.quiet_of_same (kept14 (HTd.out _) HR.out.2)) | (go_at_call 15; exact Calls.quiet_of_same (next15 (HTd.out _) HR.out.2)))
                have HBd := toHid (below_drewN HB10.out nq)
                have HTn := toHid (HTd.out nq)
                have HIn2 := toHid (HI10.out.below (below_drewN (Below.refl W10.heap.size W10) nq))
                have hXn : (W10.drewN nq).heap[g8]? = some (.cells (recC rr q.ta q.tc q.da q.dc) 34) := hX10
                have hYn : (W10.drewN nq).heap[g9]? = some (.cells (txV rr.txn (σ.f rr.txn)) 43) := hY10
                generalize W10.drewN nq = W11 at *
                clear f0 f1 f2 f3 f4 f5 f6 f7 f8 f9 f10 f11 hX10 hY10 HT10 HI10 HB10 HTd
                obtain ⟨f0, f1, f2, f3, f4, f5, f6, f7, f8, f9, f10, f11⟩ := box_of hXn
                go_wp2_with fail
                refine Calls.mono (note16 HTn.out (by omega) (HR.out.1 _ HIn2.out) HR.out.2) ?_
                rintro e w12 ⟨rfl, σ2, t12, s12, hf12⟩
                have hX12 := s12.kind HTn.out hXn (by decide) (by decide)
                have hY12 := s12.kind HTn.out hYn (by decide) (by decide)
                have HT12 := toHid t12
                have HB12 := toHid (HBd.out.trans (s12.below HTn.out HBd.out.size))
                have HF := toHid hf12
                clear t12 s12 hf12 hXn hYn HTn HBd HIn2 f0 f1 f2 f3 f4 f5 f6 f7 f8 f9 f10 f11
                obtain ⟨f0, f1, f2, f3, f4, f5, f6, f7, f8, f9, f10, f11⟩ := box_of hX12
                go_wp2_with fail
                refine Calls.mono (row12 HT12.out HR.out.2) ?_
                rintro e w13 ⟨rfl, hb13⟩
                have hX13 := (hb13.block _ (some_lt hX12)).trans hX12
                have hY13 := (hb13.block _ (some_lt hY12)).trans hY12
                have HT13 := toHid (HT12.out.below hb13)
                have HB13 := toHid (HB12.out.trans (hb13.mono HB12.out.size))
                clear hX12 hY12 HT12 HB12 hb13 f0 f1 f2 f3 f4 f5 f6 f7 f8 f9 f10 f11
                have HT14 := toHid (HT13.out.below ((Below.refl _ _).alloc (Nat.le_refl _) (.cells (txV rr.txn (σ2.f rr.txn)) 43)))
                have HB14 := toHid (HB13.out.alloc HB13.out.size (.cells (txV rr.txn (σ2.f rr.txn)) 43))
                obtain ⟨f0, f1, f2, f3, f4, f5, f6, f7, f8, f9, f10, f11⟩ := box_of hX13
                obtain ⟨y0, y1, y2⟩ := cellsB hY13
                have hsx := some_lt hX13
                have hsy := some_lt hY13
                have HK14 := toHid (kept14 HT14.out HR.out.2)
                have HN14 := toHid (next15 HT14.out HR.out.2)
                have hsame := txq_same
                have hseen := note_seen σ.f rr
                rw [← HF.out] at hseen
                have HFin := toHid (show LoopN w K (w13.alloc (.cells (txV rr.txn (σ2.f rr.txn)) 43)) ((k + 1) * 200) from ⟨σ2, HT14.out.mono (by omega), HB14.out⟩)
                by_cases hz : noteE (σ.f rr.txn) rr = 0
                · obtain ⟨hs1, hs2', hs3'⟩ := hseen.1 hz
                  have hnn := kept_nn (σ2.f rr.txn)
                  by_cases h5 : rr.kind = 5
                  · have k5 : (rr.kind == 5) = true := by simpa using h5
                    have hst : (σ2.f rr.txn).isSome = false := by
                      cases e : (σ2.f rr.txn).isSome
                      · rfl
                      · exact absurd h5 (hs2'.1 e)
                    clear hseen hs2' hs3' h5
                    go_wp2_with (go_at_call 14; refine Calls.mono HK14.out ?_; rintro e w20 ⟨rfl, hw⟩; obtain rfl := hw.symm)
                    go_roundw
                    case rel => exact ⟨k + 1, by omega, by omega, by go_num, HFin.out⟩
                    case measure => simp [intOf]; omega
                  · have k5 : (rr.kind == 5) = false := by simpa using h5
                    have hst : (σ2.f rr.txn).isSome = true := hs2'.2 h5
                    have hla1 : ((lastO (σ2.f rr.txn) : Int) == (rr.lsn : Int)) = true := by rw [hs3' hst]; simp
                    have hla2 : (lastO (σ2.f rr.txn) == rr.lsn) = true := by rw [hs3' hst]; simp
                    have hla3 : ((lastO (σ2.f rr.txn) : Int) != (rr.lsn : Int)) = false := by rw [hs3' hst]; simp
                    have hla4 : (lastO (σ2.f rr.txn) != rr.lsn) = false := by rw [hs3' hst]; simp
                    clear hseen hs2' hs3' h5
                    go_wp2_with (go_at_call 14; refine Calls.mono HK14.out ?_; rintro e w20 ⟨rfl, hw⟩; obtain rfl := hw.symm)
                    go_roundw
                    case rel => exact ⟨k + 1, by omega, by omega, by go_num, HFin.out⟩
                    case measure => simp [intOf]; omega
                · have hff := hseen.2 hz
                  rw [hff] at HK14 HN14 HFin ⊢
                  clear hseen hff
                  generalize noteE (σ.f rr.txn) rr = ze at *
                  have gz : (ze == 0) = false := by simpa using hz
                  have gz2 : (ze != 0) = true := by simpa using hz
                  go_wp2_with (first
                    | (go_at_call 14; refine Calls.mono HK14.out ?_; rintro e w20 ⟨rfl, hw⟩; obtain rfl := hw.symm)
                    | (go_at_call 15; refine Calls.mono HN14.out ?_; rintro e w20 ⟨rfl, hw⟩; obtain rfl := hw.symm))
                  go_roundw
                  case rel => exact ⟨k + 1, by omega, by omega, by go_num, HFin.out⟩
                  case measure => simp [intOf]; omega
              · have g1 : (q.kind == 1) = false := by simp [h12]
                have g2 : (q.kind == 2) = true := by simpa using h12
                clear h0 h12
                go_wp2_with fail
                refine Calls.mono (row12 HT2.out HI2.out.wt) ?_
                rintro e w3 ⟨rfl, hb3⟩
                have HT3 := toHid (HT2.out.below hb3)
                have HB3 := toHid (HB2.out.trans (hb3.mono HB2.out.size))
                have HX3 := toHid ((hb3.block _ hs2).trans HX2.out)
                have HI3 := toHid (HI2.out.below hb3)
                have hs3 : g5 < w3.heap.size := Nat.lt_of_lt_of_le hs2 hb3.size
                clear e0 e1 e2 e3 e4 e5 e6 e7 e8 e9 e10 e11 e12 e13 e14 hb3
                obtain ⟨e0, e1, e2, e3, e4, e5, e6, e7, e8, e9, e10, e11, e12, e13, e14⟩ := op15 HX3.out
                go_wp2_with fail
                refine Calls.mono (record13 q (lastO (σ.f q.txn)) k _ (by omega)) ?_
                rintro e w4 ⟨rfl, hb4⟩
                clear e0 e1 e2 e3 e4 e5 e6 e7 e8 e9 e10 e11 e12 e13 e14
                have HI4 := toHid ((HI3.out.below ((Below.refl _ _).alloc (Nat.le_refl _) _)).below hb4)
                have HT4 := toHid ((HT3.out.below ((Below.refl _ _).alloc (Nat.le_refl _) _)).below hb4)
                have hb4' := ((Below.refl w3.heap.size w3).alloc (Nat.le_refl _) _).trans (hb4.mono (by simp))
                have HB4 := toHid (HB3.out.trans (hb4'.mono HB3.out.size))
                clear hb4 hb4'
                obtain ⟨rr, hrr⟩ : ∃ rr, recordR q.kind q.txn q.r (lastO (σ.f q.txn)) k = rr := ⟨_, rfl⟩
                have HR := toHid (show (∀ W, OpI W q → RI W rr q.ta q.da) ∧ Wt rr.txn from by
                  have h1 := record_rows q.kind q.txn q.r (lastO (σ.f q.txn)) k
                  have h2 : Wt (recordR q.kind q.txn q.r (lastO (σ.f q.txn)) k).txn := by
                    unfold recordR
                    split
                    · exact HI4.out.wt
                    · exact HI4.out.wr
                  rw [hrr] at h1 h2
                  exact ⟨fun W h => ⟨by rw [h1.1]; exact h.ri.t, by rw [h1.2.1]; exact h.ri.d, by rw [h1.1]; exact h.ri.lt, by rw [h1.2.1]; exact h.ri.ld⟩, h2⟩)
                rw [hrr]
                clear hrr HT3 HI3 HX3 HX2 HT2 HI2
                go_wp2_with fail
                have hW8 : (w4.alloc (.cells (recC rr q.ta q.tc q.da q.dc) 34)).heap[w4.heap.size]? = some (.cells (recC rr q.ta q.tc q.da q.dc) 34) := heap_alloc_new w4 _
                have HT8 := toHid (HT4.out.below ((Below.refl _ _).alloc (Nat.le_refl _) (.cells (recC rr q.ta q.tc q.da q.dc) 34)))
                have HI8 := toHid (HI4.out.below ((Below.refl _ _).alloc (Nat.le_refl _) (.cells (recC rr q.ta q.tc q.da q.dc) 34)))
                have HB8 := toHid (HB4.out.alloc HB4.out.size (.cells (recC rr q.ta q.tc q.da q.dc) 34))
                refine Calls.mono (row12 HT8.out HR.out.2) ?_
                rintro e w9 ⟨rfl, hb9⟩
                have hX9 := (hb9.block _ (some_lt hW8)).trans hW8
                have HT9 := toHid (HT8.out.below hb9)
                have HI9 := toHid (HI8.out.below hb9)
                have HB9 := toHid (HB8.out.trans (hb9.mono HB8.out.size))
                clear hW8 HT8 HI8 HB8 HT4 HI4 HB4 hb9
                generalize w4.heap.size = g8 at *
                obtain ⟨f0, f1, f2, f3, f4, f5, f6, f7, f8, f9, f10, f11⟩ := box_of hX9
                have hs9 := some_lt hX9
                go_wp2_with fail
                have hX10 : (w9.alloc (.cells (txV rr.txn (σ.f rr.txn)) 43)).heap[g8]? = some (.cells (recC rr q.ta q.tc q.da q.dc) 34) := (heap_alloc_old hs9).trans hX9
                have hY10 : (w9.alloc (.cells (txV rr.txn (σ.f rr.txn)) 43)).heap[w9.heap.size]? = some (.cells (txV rr.txn (σ.f rr.txn)) 43) := heap_alloc_new w9 _
                have HT10 := toHid (HT9.out.below ((Below.refl _ _).alloc (Nat.le_refl _) (.cells (txV rr.txn (σ.f rr.txn)) 43)))
                have HI10 := toHid (HI9.out.below ((Below.refl _ _).alloc (Nat.le_refl _) (.cells (txV rr.txn (σ.f rr.txn)) 43)))
                have HB10 := toHid (HB9.out.alloc HB9.out.size (.cells (txV rr.txn (σ.f rr.txn)) 43))
                generalize w9.heap.size = g9 at *
                generalize w9.alloc (.cells (txV rr.txn (σ.f rr.txn)) 43) = W10 at *
                clear f0 f1 f2 f3 f4 f5 f6 f7 f8 f9 f10 f11 hX9 hs9 HT9 HI9 HB9
                obtain ⟨f0, f1, f2, f3, f4, f5, f6, f7, f8, f9, f10, f11⟩ := box_of hX10
                have HTd := toHid (fun n => HT10.out.below (below_drewN (Below.refl W10.heap.size W10) n))
                go_quiet (first | (go_at_call 14; exact Calls.quiet_of_same (kept14 (HTd.out _) HR.out.2)) | (go_at_call 15; exact Calls.quiet_of_same (next15 (HTd.out _) HR.out.2)))
                have HBd := toHid (below_drewN HB10.out nq)
                have HTn := toHid (HTd.out nq)
                have HIn2 := toHid (HI10.out.below (below_drewN (Below.refl W10.heap.size W10) nq))
                have hXn : (W10.drewN nq).heap[g8]? = some (.cells (recC rr q.ta q.tc q.da q.dc) 34) := hX10
                have hYn : (W10.drewN nq).heap[g9]? = some (.cells (txV rr.txn (σ.f rr.txn)) 43) := hY10
                generalize W10.drewN nq = W11 at *
                clear f0 f1 f2 f3 f4 f5 f6 f7 f8 f9 f10 f11 hX10 hY10 HT10 HI10 HB10 HTd
                obtain ⟨f0, f1, f2, f3, f4, f5, f6, f7, f8, f9, f10, f11⟩ := box_of hXn
                go_wp2_with fail
                refine Calls.mono (note16 HTn.out (by omega) (HR.out.1 _ HIn2.out) HR.out.2) ?_
                rintro e w12 ⟨rfl, σ2, t12, s12, hf12⟩
                have hX12 := s12.kind HTn.out hXn (by decide) (by decide)
                have hY12 := s12.kind HTn.out hYn (by decide) (by decide)
                have HT12 := toHid t12
                have HB12 := toHid (HBd.out.trans (s12.below HTn.out HBd.out.size))
                have HF := toHid hf12
                clear t12 s12 hf12 hXn hYn HTn HBd HIn2 f0 f1 f2 f3 f4 f5 f6 f7 f8 f9 f10 f11
                obtain ⟨f0, f1, f2, f3, f4, f5, f6, f7, f8, f9, f10, f11⟩ := box_of hX12
                go_wp2_with fail
                refine Calls.mono (row12 HT12.out HR.out.2) ?_
                rintro e w13 ⟨rfl, hb13⟩
                have hX13 := (hb13.block _ (some_lt hX12)).trans hX12
                have hY13 := (hb13.block _ (some_lt hY12)).trans hY12
                have HT13 := toHid (HT12.out.below hb13)
                have HB13 := toHid (HB12.out.trans (hb13.mono HB12.out.size))
                clear hX12 hY12 HT12 HB12 hb13 f0 f1 f2 f3 f4 f5 f6 f7 f8 f9 f10 f11
                have HT14 := toHid (HT13.out.below ((Below.refl _ _).alloc (Nat.le_refl _) (.cells (txV rr.txn (σ2.f rr.txn)) 43)))
                have HB14 := toHid (HB13.out.alloc HB13.out.size (.cells (txV rr.txn (σ2.f rr.txn)) 43))
                obtain ⟨f0, f1, f2, f3, f4, f5, f6, f7, f8, f9, f10, f11⟩ := box_of hX13
                obtain ⟨y0, y1, y2⟩ := cellsB hY13
                have hsx := some_lt hX13
                have hsy := some_lt hY13
                have HK14 := toHid (kept14 HT14.out HR.out.2)
                have HN14 := toHid (next15 HT14.out HR.out.2)
                have hsame := txq_same
                have hseen := note_seen σ.f rr
                rw [← HF.out] at hseen
                have HFin := toHid (show LoopN w K (w13.alloc (.cells (txV rr.txn (σ2.f rr.txn)) 43)) ((k + 1) * 200) from ⟨σ2, HT14.out.mono (by omega), HB14.out⟩)
                by_cases hz : noteE (σ.f rr.txn) rr = 0
                · obtain ⟨hs1, hs2', hs3'⟩ := hseen.1 hz
                  have hnn := kept_nn (σ2.f rr.txn)
                  by_cases h5 : rr.kind = 5
                  · have k5 : (rr.kind == 5) = true := by simpa using h5
                    have hst : (σ2.f rr.txn).isSome = false := by
                      cases e : (σ2.f rr.txn).isSome
                      · rfl
                      · exact absurd h5 (hs2'.1 e)
                    clear hseen hs2' hs3' h5
                    go_wp2_with (go_at_call 14; refine Calls.mono HK14.out ?_; rintro e w20 ⟨rfl, hw⟩; obtain rfl := hw.symm)
                    go_roundw
                    case rel => exact ⟨k + 1, by omega, by omega, by go_num, HFin.out⟩
                    case measure => simp [intOf]; omega
                  · have k5 : (rr.kind == 5) = false := by simpa using h5
                    have hst : (σ2.f rr.txn).isSome = true := hs2'.2 h5
                    have hla1 : ((lastO (σ2.f rr.txn) : Int) == (rr.lsn : Int)) = true := by rw [hs3' hst]; simp
                    have hla2 : (lastO (σ2.f rr.txn) == rr.lsn) = true := by rw [hs3' hst]; simp
                    have hla3 : ((lastO (σ2.f rr.txn) : Int) != (rr.lsn : Int)) = false := by rw [hs3' hst]; simp
                    have hla4 : (lastO (σ2.f rr.txn) != rr.lsn) = false := by rw [hs3' hst]; simp
                    clear hseen hs2' hs3' h5
                    go_wp2_with (go_at_call 14; refine Calls.mono HK14.out ?_; rintro e w20 ⟨rfl, hw⟩; obtain rfl := hw.symm)
                    go_roundw
                    case rel => exact ⟨k + 1, by omega, by omega, by go_num, HFin.out⟩
                    case measure => simp [intOf]; omega
                · have hff := hseen.2 hz
                  rw [hff] at HK14 HN14 HFin ⊢
                  clear hseen hff
                  generalize noteE (σ.f rr.txn) rr = ze at *
                  have gz : (ze == 0) = false := by simpa using hz
                  have gz2 : (ze != 0) = true := by simpa using hz
                  go_wp2_with (first
                    | (go_at_call 14; refine Calls.mono HK14.out ?_; rintro e w20 ⟨rfl, hw⟩; obtain rfl := hw.symm)
                    | (go_at_call 15; refine Calls.mono HN14.out ?_; rintro e w20 ⟨rfl, hw⟩; obtain rfl := hw.symm))
                  go_roundw
                  case rel => exact ⟨k + 1, by omega, by omega, by go_num, HFin.out⟩
                  case measure => simp [intOf]; omega
            · have g1 : (q.kind == 1) = false := by simp; omega
              have g2 : (q.kind == 2) = false := by simp; omega
              clear h0 h12
              go_wp2
              go_roundw
              case rel => exact ⟨k + 1, by omega, by omega, by go_num, σ, HT2.out.mono (by omega), HB2.out⟩
              case measure => simp [intOf]; omega
      · have hlh' : ¬ ((k : Nat) : Int) < 100 := by omega
        go_wp2_with (go_at_call 10; refine Calls.mono (HLv.out _) ?_; rintro e w6 ⟨rfl, hb6⟩; have HB6 := toHid hb6; clear hb6)
        go_ret
        exact ⟨rfl, HB.out.trans (HB6.out.mono HB.out.size)⟩
    · go_wp2_with (go_at_call 10; refine Calls.mono (HLv.out _) ?_; rintro e w6 ⟨rfl, hb6⟩; have HB6 := toHid hb6; clear hb6)
      go_ret
      exact ⟨rfl, HB.out.trans (HB6.out.mono HB.out.size)⟩
end Go.Proofs.Yticadfaclnimgaa
