/-
  Texts put together: FRn FRk.
-/
import Derived.Test.YticnkppnpfgceaaXB
import Derived.Deep.RegionHeld3
namespace Go.Proofs.Yticnkppnpfgceaa.Mg
open Go.RowKit

theorem trT_ris {a : List Rc} {t : List (Int × Gt)} {x : Tx} (h : Ris t) : Ris (trT a t x) := by
  unfold trT
  split
  · exact h
  · exact putL_ris h
theorem trT_len (a : List Rc) (t : List (Int × Gt)) (x : Tx) : (trT a t x).length ≤ t.length + 1 := by
  unfold trT
  split
  · omega
  · exact putL_len _ _ _
theorem trTs (a : List Rc) (l : List Tx) (t : List (Int × Gt)) (h : Ris t) : Ris (l.foldl (trT a) t) ∧ (l.foldl (trT a) t).length ≤ t.length + l.length := by
  induction l generalizing t with
  | nil => exact ⟨h, by simp⟩
  | cons x r ih =>
    have h1 := ih (trT a t x) (trT_ris h)
    have h2 := trT_len a t x
    exact ⟨h1.1, by simp only [List.foldl_cons, List.length_cons]; omega⟩
theorem trDs (l : List Di) (t : List (Int × Nat)) (h : Ris t) : Ris (l.foldl trD t) ∧ (l.foldl trD t).length ≤ t.length + l.length := by
  induction l generalizing t with
  | nil => exact ⟨h, by simp⟩
  | cons x r ih =>
    have h1 := ih (trD t x) (soil_ris h)
    have h2 := soil_len t x.page x.lsn
    exact ⟨h1.1, by simp only [List.foldl_cons, List.length_cons]; unfold trD at h1 ⊢; omega⟩
theorem ris_nil {β : Type} : Ris ([] : List (Int × β)) := by simp [Ris]
theorem shS_ok {l : List Rc} (hm : ∀ r, r ∈ l → mayB r = true) : ∀ k, k ≤ l.length → (shS l k).Ok ∧ (shS l k).t.length ≤ 64 + k ∧ (shS l k).d.length ≤ 16 + k := by
  intro k
  induction k with
  | zero => intro _; exact ⟨Lf.Ok.nil, by simp [shS, Lf.nil], by simp [shS, Lf.nil]⟩
  | succ k ih =>
    intro hk
    have hk' : k < l.length := by omega
    obtain ⟨h1, h2, h3⟩ := ih (by omega)
    rw [shS, List.getElem?_eq_getElem hk']
    simp only
    split
    · obtain ⟨r1, r2, _, _⟩ := may_rows (hm _ (List.getElem_mem hk'))
      obtain ⟨a1, a2⟩ := trTs (l.take k) l[k].txns [] ris_nil
      obtain ⟨b1, b2⟩ := trDs l[k].dirty [] ris_nil
      exact ⟨⟨a1, b1⟩, by simp only [trustL, Lf.nil]; simp at a2; omega, by simp only [trustL, Lf.nil]; simp at b2; omega⟩
    · have := step_len (shS l k) l[k]
      exact ⟨h1.step _, by omega, by omega⟩
theorem logB_take {l : List Rc} (h : logB l = true) (i : Nat) : logB (l.take i) = true := by
  have hd := (log_down h).2
  unfold logB
  rw [Bool.and_eq_true]
  refine ⟨List.all_eq_true.2 fun r hr => log_all h r (List.mem_of_mem_take hr), (risB_iff _).2 fun j hj => ?_⟩
  have hj' : j + 1 < l.length := by simp at hj; omega
  have := hd j hj'
  simpa using this

set_option maxRecDepth 100000 in
set_option maxHeartbeats 4000000 in
theorem refshort15 (a : Option Addr) (c : Nat) (l : List Rc) (w0 w : World) (hL : SlR w0 a l) (hb0 : Below w0.heap.size w0 w) (hl : l.length ≤ 300) (hlim : ∀ r, r ∈ l → Lim r) (hcap : l.length ≤ c) :
    Calls Try.prog 15 #[.slice a l.length c] w fun e w' => ∃ vt vn vd, e = .returned (.tuple #[.agg (rfC vt vn vd), .bool (logB l)]) ∧ LfR w' 0 vt vn vd (shortX l) ∧ Below w.heap.size w w' := by
  have hb1 : Below w.heap.size w ((w.alloc (.cells rfZ 37)).alloc (.cells rfZ 37)) := ((Below.refl _ _).alloc (Nat.le_refl _) _).alloc (by simp) _
  have hA0 : Ax w ((w.alloc (.cells rfZ 37)).alloc (.cells rfZ 37)) (.slice none 0 0) (.slice none 0 0) (.slice none 0 0) Lf.nil := ⟨hb1, heap_alloc2_old _ _ _, heap_alloc2_new _ _ _, LfR.nil _ _⟩
  have hC := reflog30 a c l w0 ((w.alloc (.cells rfZ 37)).alloc (.cells rfZ 37)) hL (hb0.trans (hb1.mono hb0.size)) (by omega) hlim
  have HA0 := toHid hA0
  cases he : logB l
  · rw [he] at hC
    have HC := toHid hC
    have HX := toHid (show shortX l = Lf.nil by simp [shortX, he])
    clear hC hb1 hA0 hL hb0 he
    go_enter Try.func15, Try.ntmps15
    go_wp2_with fail
    refine Calls.mono HC.out ?_
    rintro e w1 ⟨rfl, hb2⟩
    have hA1 := HA0.out.below hb2
    obtain ⟨v0, v1, v2, _, _, _⟩ := cellsT hA1.var
    obtain ⟨c0, c1, c2, cf0, cf1, cf2⟩ := cellsT hA1.res
    have HA1 := toHid hA1
    clear hb2 hA1
    go_wp2
    refine bodyPost_ret (results_rf Try.results15 _ rfl rfl rfl (put3_same HA1.out.res _ _ _)) rfl ⟨.slice none 0 0, .slice none 0 0, .slice none 0 0, rfl, by rw [HX.out]; exact LfR.nil _ _, put3_below HA1.out.low (Nat.le_refl _) _ _ _⟩
  rw [he] at hC
  have HC := toHid hC
  have HX := toHid (show shortX l = shS l l.length by simp [shortX, he])
  have HSo := toHid (shS_ok (log_all he))
  have HAl := toHid (log_all he)
  have HLt := toHid (logB_take he)
  have HLim := toHid hlim
  have HL := toHid hL
  have HB0 := toHid hb0
  clear hC hb1 hA0 hL hb0 he hlim
  go_enter Try.func15, Try.ntmps15
  go_wp2_with fail
  refine Calls.mono HC.out ?_
  rintro e w1 ⟨rfl, hb2⟩
  have HA1 := toHid (HA0.out.below hb2)
  clear hb2 HC HA0
  go_wp2_with fail
  go_loopw [5] (fun k W => ∃ i : Nat, i ≤ l.length ∧ k = .int .i64 i ∧ ∃ vt vn vd, Ax w W vt vn vd (shS l i)) (fun k _ => l.length - (intOf k).toNat)
  case atStart => exact ⟨0, Nat.zero_le _, rfl, _, _, _, HA1.out⟩
  case round =>
    obtain ⟨i, hi, rfl, vt, vn, vd, ha⟩ := hrel
    obtain ⟨ta, tc, na, nc, da, dc, rfl, rfl, rfl⟩ := ha.shape
    have HA := toHid ha
    obtain ⟨x0, x1, x2, xf0, xf1, xf2⟩ := cellsT ha.var
    clear HA1
    by_cases hlt : i < l.length
    · obtain ⟨b, o, rfl, hbl⟩ := HL.out.there (by omega)
      obtain ⟨p, h12, hri⟩ := HL.out.get i hlt
      have hDW : ∀ W, Below w.heap.size w W → At12 W b (o + i * 12) l[i] p := fun W hb => h12.stay ((hb.block _ (Nat.lt_of_lt_of_le hbl HB0.out.size)).trans (HB0.out.block _ hbl))
      have hRW : ∀ W, Below w.heap.size w W → RI W l[i] p := fun W hb => hri.below (HB0.out.trans (hb.mono HB0.out.size))
      obtain ⟨d0, d1, d2, d3, d4, d5, d6, d7, d8, d9, d10, d11⟩ := hDW _ ha.low
      have hi1 : (i : Int) < (l.length : Int) := by omega
      have hi2 : 0 ≤ (i : Int) := by omega
      have hi3 : (i : Int) ≤ (c : Int) := by omega
      have HSt := toHid (show shS l (i + 1) = if l[i].kind = 8 then trustL (l.take i) Lf.nil l[i] else stepL (shS l i) l[i] by rw [shS, List.getElem?_eq_getElem hlt])
      obtain ⟨hok, hX1, hX2⟩ := HSo.out i hi
      obtain ⟨r1, r2, r3, r4⟩ := may_rows (HAl.out _ (List.getElem_mem hlt))
      have hli := HLim.out _ (List.getElem_mem hlt)
      obtain ⟨X, hX⟩ : ∃ X, shS l i = X := ⟨_, rfl⟩
      obtain ⟨r, hr⟩ : ∃ r, l[i] = r := ⟨_, rfl⟩
      rw [hX] at HSt HA hok hX1 hX2 x0 x1 x2
      rw [hr] at HSt d0 d1 d2 d3 d4 d5 d6 d7 d8 d9 d10 d11 hDW hRW r1 r2 r3 r4 hli
      have HDW := toHid hDW
      have HRW := toHid hRW
      clear hDW hRW h12 hri hX hr r3 r4
      by_cases k8 : r.kind = 8
      · have q8 : (r.kind != 8) = false := by simp [k8]
        rw [if_pos k8] at HSt
        have HNx := toHid (show ∀ (m : Nat) (W : World), Below w0.heap.size w0 W → Calls Try.prog 20 #[.slice (some ⟨b, o, none⟩) i c, .int .u64 (m : Int)] W fun e w' => e = .returned (.int .u64 (nextL (l.take i) m : Int)) ∧ Below W.heap.size W w' from fun m W hb => by
          have := refnext20 (some ⟨b, o, none⟩) c (l.take i) m w0 W (HL.out.take' i) hb (by simp; omega) (fun r hr => HLim.out r (List.mem_of_mem_take hr))
          rw [if_pos (HLt.out i), show (l.take i).length = i by simp; omega] at this
          exact this)
        have HX2 := toHid (ha.put (LfR.nil wr 0))
        clear k8 ha hok hX1 hX2 d0 d1 d2 d3 d4 d5 d6 d7 d8 d9 d10 d11
        obtain ⟨e0, e1, e2, e3, e4, e5, e6, e7, e8, e9, e10, e11⟩ := HDW.out _ HA.out.low
        go_wp2_with fail
        clear e0 e1 e2 e3 e4 e5 e6 e7 e8 e9 e10 e11 x0 x1 x2 xf0 xf1 xf2
        go_loopw [6] (fun k W => ∃ j : Nat, j ≤ r.txns.length ∧ k = .int .i64 j ∧ ∃ vt vn vd, Ax w W vt vn vd ⟨(r.txns.take j).foldl (trT (l.take i)) [], []⟩) (fun k _ => r.txns.length - (intOf k).toNat)
        case atStart => exact ⟨0, Nat.zero_le _, rfl, _, _, _, HX2.out⟩
        case round =>
          clear HX2 HA
          obtain ⟨j, hj, rfl, vt, vn, vd, ha⟩ := hrel
          obtain ⟨ta, tc, na, nc, da, dc, rfl, rfl, rfl⟩ := ha.shape
          have HA := toHid ha
          obtain ⟨x0, x1, x2, xf0, xf1, xf2⟩ := cellsT ha.var
          obtain ⟨d0, d1, d2, d3, d4, d5, d6, d7, d8, d9, d10, d11⟩ := HDW.out _ ha.low
          by_cases hjl : j < r.txns.length
          · obtain ⟨pb, po, hpa, hbl2, y0, y1, y2⟩ := (HRW.out _ ha.low).t.at j hjl
            rw [hpa] at d10
            have HPA := toHid hpa
            have hj1 : (j : Int) < (r.txns.length : Int) := by omega
            have hj2 : 0 ≤ (j : Int) := by omega
            have HSu := toHid (fold_take (trT (l.take i)) [] r.txns hjl)
            obtain ⟨hTr, hTl⟩ := trTs (l.take i) (r.txns.take j) [] ris_nil
            have hTl2 : ((r.txns.take j).foldl (trT (l.take i)) []).length ≤ 1000 := by
              have : (r.txns.take j).length ≤ j := List.length_take_le _ _
              simp only [List.length_nil] at hTl; omega
            obtain ⟨T, hT⟩ : ∃ T, (r.txns.take j).foldl (trT (l.take i)) [] = T := ⟨_, rfl⟩
            obtain ⟨t, ht⟩ : ∃ t, r.txns[j] = t := ⟨_, rfl⟩
            rw [hT] at HSu HA hTr hTl2 x0 x1 x2
            rw [ht] at y0 y1 y2 HSu
            have HTr := toHid hTr
            obtain ⟨W1, hW1⟩ : ∃ W1, W1 = wr.alloc (.cells #[.int .i64 t.id, .int .i64 t.st, .int .u64 (t.last : Int)] 57) := ⟨_, rfl⟩
            have hb1 : Below wr.heap.size wr W1 := hW1 ▸ (Below.refl _ _).alloc (Nat.le_refl _) _
            have HA1 := toHid (HA.out.below hb1)
            have hq1 : W1.heap[wr.heap.size]? = some (.cells #[.int .i64 t.id, .int .i64 t.st, .int .u64 (t.last : Int)] 57) := hW1 ▸ heap_alloc_new _ _
            have HQ1 := toHid hq1
            have HW1 := toHid hW1
            clear hT ht hTr hTl hb1 hW1 hq1 ha hpa
            by_cases hst : t.st = 1
            · have q1 : (t.st != 1) = false := by simp [hst]
              have HE := toHid (show trT (l.take i) T t = T by simp [trT, hst])
              clear hst
              go_wp2_with fail
              rw [← HW1.out]
              go_roundw
              case rel => exact ⟨j + 1, by omega, by go_num, _, _, _, by rw [HSu.out, HE.out]; exact HA1.out⟩
              case measure => simp [intOf]; omega
            · have q1 : (t.st != 1) = true := by simp [hst]
              have HE := toHid (show trT (l.take i) T t = putL T t.id ⟨t.st, t.last, nextL (l.take i) t.last⟩ by simp [trT, hst])
              clear hst
              have HPt := toHid (show ∀ W, Below W1.heap.size W1 W → Calls Try.prog 33 #[.agg (rfC (.slice ta T.length tc) (.slice na T.length nc) (.slice da 0 dc)), .agg (txC3 t.id ⟨t.st, t.last, nextL (l.take i) t.last⟩), .int .u64 (nextL (l.take i) t.last : Int)] W fun e w' => ∃ vt' vn', e = .returned (.agg (rfC vt' vn' (.slice da 0 dc))) ∧ LfR w' 0 vt' vn' (.slice da 0 dc) ⟨trT (l.take i) T t, []⟩ ∧ Below W.heap.size W w' from fun W hb => by
                have := put33 (HA1.out.below hb).row HTr.out hTl2 t.id ⟨t.st, t.last, nextL (l.take i) t.last⟩
                rw [HE.out]
                exact this)
              have HSv := toHid (show ∀ W, Below W1.heap.size W1 W → Ax w W (.slice ta T.length tc) (.slice na T.length nc) (.slice da 0 dc) ⟨T, []⟩ ∧ W.heap[wr.heap.size]? = some (.cells #[.int .i64 t.id, .int .i64 t.st, .int .u64 (t.last : Int)] 57) from fun W hb => ⟨HA1.out.below hb, (hb.block _ (some_lt HQ1.out)).trans HQ1.out⟩)
              go_wp2_with fail
              rw [← HW1.out]
              have hd0 : Below W1.heap.size W1 W1.drew := (Below.refl _ _).drew
              obtain ⟨v0, v1⟩ := HSv.out _ hd0
              obtain ⟨x0, x1, x2, xf0, xf1, xf2⟩ := cellsT v0.var
              obtain ⟨z0, z1, z2⟩ := cells3f v1
              have HNy := toHid (HNx.out t.last _ (HB0.out.trans (v0.low.mono HB0.out.size)))
              clear v0 v1
              go_region_with (first
                | (go_at_call 20; refine Calls.mono HNy.out ?_; rintro e w2 ⟨rfl, hb2⟩; have hb3 := hd0.trans hb2; obtain ⟨v0, v1⟩ := HSv.out _ hb3; obtain ⟨x0, x1, x2, xf0, xf1, xf2⟩ := cellsT v0.var; obtain ⟨z0, z1, z2⟩ := cells3f v1; have HB3 := toHid hb3; clear v0 v1 hb2 hb3)
                | (go_at_call 33; refine Calls.mono (HPt.out _ HB3.out) ?_; rintro e w3 ⟨vt', vn', rfl, hr3, hb4⟩; obtain ⟨ea, ec, rfl⟩ := ownsRow_shape2 hr3.t; obtain ⟨ga, gc, rfl⟩ := ownsRow_shape2 hr3.n; have hA3 := (HSv.out _ HB3.out).1.below hb4; clear x0 x1 x2 xf0 xf1 xf2; obtain ⟨x0, x1, x2, xf0, xf1, xf2⟩ := cellsT hA3.var; have HA3 := toHid (hA3.put hr3); clear hA3 hr3 hb4))
              all_goals
                go_wp2_with fail
                go_roundw
                case rel => exact ⟨j + 1, by omega, by go_num, _, _, _, by rw [HSu.out]; exact HA3.out⟩
                case measure => simp [intOf]; omega
          · obtain rfl : j = r.txns.length := by omega
            rw [List.take_length] at HA ha
            obtain ⟨T, hT⟩ : ∃ T, r.txns.foldl (trT (l.take i)) [] = T := ⟨_, rfl⟩
            rw [hT] at HA
            have HTe := toHid hT
            clear hT ha
            go_wp2_with fail
            clear d0 d1 d2 d3 d4 d5 d6 d7 d8 d9 d10 d11 x0 x1 x2 xf0 xf1 xf2
            go_loopw [8] (fun k W => ∃ j : Nat, j ≤ r.dirty.length ∧ k = .int .i64 j ∧ ∃ vt vn vd, Ax w W vt vn vd ⟨T, (r.dirty.take j).foldl trD []⟩) (fun k _ => r.dirty.length - (intOf k).toNat)
            case atStart => exact ⟨0, Nat.zero_le _, rfl, _, _, _, HA.out⟩
            case round =>
              clear HA hjl hj
              obtain ⟨j, hj, rfl, vt, vn, vd, ha⟩ := hrel
              obtain ⟨ta, tc, na, nc, da, dc, rfl, rfl, rfl⟩ := ha.shape
              have HA := toHid ha
              obtain ⟨x0, x1, x2, xf0, xf1, xf2⟩ := cellsT ha.var
              obtain ⟨d0, d1, d2, d3, d4, d5, d6, d7, d8, d9, d10, d11⟩ := HDW.out _ ha.low
              by_cases hjl : j < r.dirty.length
              · obtain ⟨pb, po, hpa, hbl2, y0, y1⟩ := (HRW.out _ ha.low).d.at j hjl
                rw [hpa] at d11
                have HPA := toHid hpa
                have hj1 : (j : Int) < (r.dirty.length : Int) := by omega
                have hj2 : 0 ≤ (j : Int) := by omega
                have HSu := toHid (fold_take trD [] r.dirty hjl)
                obtain ⟨hTr, hTl⟩ := trDs (r.dirty.take j) [] ris_nil
                have hTl2 : ((r.dirty.take j).foldl trD []).length ≤ 1000 := by
                  have : (r.dirty.take j).length ≤ j := List.length_take_le _ _
                  simp only [List.length_nil] at hTl; omega
                obtain ⟨D, hD⟩ : ∃ D, (r.dirty.take j).foldl trD [] = D := ⟨_, rfl⟩
                obtain ⟨t, ht⟩ : ∃ t, r.dirty[j] = t := ⟨_, rfl⟩
                rw [hD] at HSu HA hTr hTl2 x0 x1 x2
                rw [ht] at y0 y1 HSu
                have HDt := toHid (show ∀ W, Below wr.heap.size wr W → Calls Try.prog 34 #[.agg (rfC (.slice ta T.length tc) (.slice na T.length nc) (.slice da D.length dc)), .int .i64 t.page, .int .u64 (t.lsn : Int)] W fun e w' => ∃ vd', e = .returned (.agg (rfC (.slice ta T.length tc) (.slice na T.length nc) vd')) ∧ LfR w' 0 (.slice ta T.length tc) (.slice na T.length nc) vd' ⟨T, trD D t⟩ ∧ Below W.heap.size W w' from fun W hb => dirty34 (HA.out.below hb).row hTr hTl2 t.page t.lsn)
                clear hD ht hTr hTl ha hpa hTl2
                go_wp2_with fail
                refine wp_region_quiet_tail 19 Try.mixed (by kernel_rfl) ?_
                simp only [List.take_succ_cons, List.take_zero, List.drop_succ_cons, List.drop_zero]
                repeat (first | go_big_quiet_step (fail))
                refine wpQuiet_nil ?_
                go_wp2_with fail
                refine Calls.mono (HDt.out _ (Below.refl _ _).drew) ?_
                rintro e w3 ⟨vd', rfl, hr3, hb4⟩
                obtain ⟨ea, ec, rfl⟩ := ownsRow_shape2 hr3.d
                have hA3 := (HA.out.below (Below.refl _ _).drew).below hb4
                clear x0 x1 x2 xf0 xf1 xf2
                obtain ⟨x0, x1, x2, xf0, xf1, xf2⟩ := cellsT hA3.var
                have HA3 := toHid (hA3.put hr3)
                clear hA3 hr3 hb4
                go_wp2_with fail
                go_roundw
                case rel => exact ⟨j + 1, by omega, by go_num, _, _, _, by rw [HSu.out]; exact HA3.out⟩
                case measure => simp [intOf]; omega
              · obtain rfl : j = r.dirty.length := by omega
                rw [List.take_length] at HA ha
                clear ha x0 x1 x2 xf0 xf1 xf2
                go_wp2_with fail
                go_roundw
                case rel => exact ⟨i + 1, by omega, by go_num, _, _, _, by rw [HSt.out]; unfold trustL; rw [show Lf.nil.t = [] from rfl, show Lf.nil.d = [] from rfl, HTe.out]; exact HA.out⟩
                case measure => simp [intOf]; omega
      · have q8 : (r.kind != 8) = true := by simp [k8]
        rw [if_neg k8] at HSt
        have HSp := toHid (show ∀ W, Below wr.heap.size wr W → Calls Try.prog 26 #[.agg (rfC (.slice ta X.t.length tc) (.slice na X.t.length nc) (.slice da X.d.length dc)), .agg (recC r p)] W fun e w' => ∃ vt' vn' vd', e = .returned (.agg (rfC vt' vn' vd')) ∧ LfR w' 0 vt' vn' vd' (stepL X r) ∧ Below W.heap.size W w' from fun W hb => step26 (HA.out.below hb).row hok (by omega) (by omega) r p)
        clear ha hok hX1 hX2 k8
        go_wp2_with fail
        refine wp_region_quiet_tail 5 Try.mixed (by kernel_rfl) ?_
        simp only [List.take_succ_cons, List.take_zero, List.drop_succ_cons, List.drop_zero]
        repeat (first | go_big_quiet_step (fail))
        refine wpQuiet_nil ?_
        go_wp2_with fail
        refine Calls.mono (HSp.out _ (Below.refl _ _).drew) ?_
        rintro e w2 ⟨ut, un, ud, rfl, hr2, hb2⟩
        have hA2 := (HA.out.below (Below.refl _ _).drew).below hb2
        obtain ⟨ea, ec, rfl⟩ := ownsRow_shape2 hr2.t
        obtain ⟨ga, gc, rfl⟩ := ownsRow_shape2 hr2.n
        obtain ⟨fa, fc, rfl⟩ := ownsRow_shape2 hr2.d
        clear x0 x1 x2 xf0 xf1 xf2
        obtain ⟨x0, x1, x2, xf0, xf1, xf2⟩ := cellsT hA2.var
        have HA3 := toHid (hA2.put hr2)
        clear hA2 hr2 hb2
        go_wp2_with fail
        go_roundw
        case rel => exact ⟨i + 1, by omega, by go_num, _, _, _, by rw [HSt.out]; exact HA3.out⟩
        case measure => simp [intOf]; omega
    · obtain rfl : i = l.length := by omega
      obtain ⟨c0, c1, c2, cf0, cf1, cf2⟩ := cellsT ha.res
      clear ha
      rw [← HX.out] at HA x0 x1 x2
      go_wp2
      refine bodyPost_ret (results_rf Try.results15 _ rfl rfl rfl (put3_same HA.out.res _ _ _)) rfl ⟨_, _, _, rfl, HA.out.row.put37 HA.out.res _ _ _, put3_below HA.out.low (Nat.le_refl _) _ _ _⟩
end Go.Proofs.Yticnkppnpfgceaa.Mg

namespace Go.Proofs.Yticnkppnpfgceaa.Mg
open Go.RowKit

set_option maxRecDepth 100000 in
set_option maxHeartbeats 4000000 in
theorem alike16 {w : World} {vt vn vd ut un ud : Value} {X : Lf} {b : Bool} (h1 : LfR w 0 vt vn vd X) (h2 : LfR w 0 ut un ud X) (hl1 : X.t.length ≤ 1000) (hl2 : X.d.length ≤ 1000) (hn : b = false → X = Lf.nil) :
    Calls Try.prog 16 #[.agg #[vt, vn, vd, .int .u64 (redoL X.d : Int)], .int .i64 (argE b), .agg (rfC ut un ud), .bool b] w fun e w' => e = .returned (.bool true) ∧ Below w.heap.size w w' := by
  cases b
  · obtain rfl := hn rfl
    obtain ⟨ta, tc, rfl⟩ := ownsRow_shape2 h1.t
    obtain ⟨na, nc, rfl⟩ := ownsRow_shape2 h1.n
    obtain ⟨da, dc, rfl⟩ := ownsRow_shape2 h1.d
    obtain ⟨ua, uc, rfl⟩ := ownsRow_shape2 h2.t
    obtain ⟨oa, oc, rfl⟩ := ownsRow_shape2 h2.n
    obtain ⟨ea, ec, rfl⟩ := ownsRow_shape2 h2.d
    have e1 : Lf.nil.t.length = 0 := rfl
    have e2 : Lf.nil.d.length = 0 := rfl
    have e3 : redoL Lf.nil.d = 0 := rfl
    have g0 : ((argE false : Int) == 1) = true := by decide
    have HB := toHid (fun (p q : Obj) => show Below w.heap.size w ((w.alloc p).alloc q) from ((Below.refl _ _).alloc (Nat.le_refl _) _).alloc (by simp) _)
    rw [e1, e2, e3]
    clear h1 h2 hl1 hl2 hn e1 e2 e3
    go_enter Try.func16, Try.ntmps16
    go_wp2
    go_ret
    exact ⟨rfl, HB.out _ _⟩
  · have H1 := toHid h1
    have H2 := toHid h2
    obtain ⟨T, D⟩ := X
    dsimp only at h1 h2 hl1 hl2
    obtain ⟨ta, tc, rfl⟩ := ownsRow_shape2 h1.t
    obtain ⟨na, nc, rfl⟩ := ownsRow_shape2 h1.n
    obtain ⟨da, dc, rfl⟩ := ownsRow_shape2 h1.d
    obtain ⟨ua, uc, rfl⟩ := ownsRow_shape2 h2.t
    obtain ⟨oa, oc, rfl⟩ := ownsRow_shape2 h2.n
    obtain ⟨ea, ec, rfl⟩ := ownsRow_shape2 h2.d
    have g0 : ((argE true : Int) == 0) = true := by decide
    obtain ⟨R, hR⟩ : ∃ R, redoL D = R := ⟨_, rfl⟩
    have HC1 := toHid (fun W (hb : Below w.heap.size w W) => same22 T (H1.out.below hb).t (H2.out.below hb).t hl1)
    have HC2 := toHid (fun W (hb : Below w.heap.size w W) => same23 T (H1.out.below hb).n (H2.out.below hb).n hl1)
    have HC3 := toHid (fun W (hb : Below w.heap.size w W) => same24 D (H1.out.below hb).d (H2.out.below hb).d hl2)
    have HC4 := toHid (fun W (hb : Below w.heap.size w W) => redo35 (H2.out.below hb) hl2)
    dsimp only at HC1 HC2 HC3 HC4
    simp only [hR] at HC4 ⊢
    obtain ⟨W0, hW0⟩ : ∃ W0, W0 = (w.alloc (.cells #[.slice ta T.length tc, .slice na T.length nc, .slice da D.length dc, .int .u64 (R : Int)] 32)).alloc (.cells (rfC (.slice ua T.length uc) (.slice oa T.length oc) (.slice ea D.length ec)) 37) := ⟨_, rfl⟩
    have hb0 : Below w.heap.size w W0 := hW0 ▸ ((Below.refl _ _).alloc (Nat.le_refl _) _).alloc (by simp) _
    have k0 : W0.heap[w.heap.size]? = some (.cells #[.slice ta T.length tc, .slice na T.length nc, .slice da D.length dc, .int .u64 (R : Int)] 32) := hW0 ▸ heap_alloc2_old w _ _
    have k1 : W0.heap[w.heap.size + 1]? = some (.cells (rfC (.slice ua T.length uc) (.slice oa T.length oc) (.slice ea D.length ec)) 37) := hW0 ▸ heap_alloc2_new w _ _
    have HS := toHid (show ∀ W, Below W0.heap.size W0 W → W.cell? ⟨w.heap.size, 0, none⟩ = some (.slice ta T.length tc) ∧ W.cell? ⟨w.heap.size, 1, none⟩ = some (.slice na T.length nc) ∧ W.cell? ⟨w.heap.size, 2, none⟩ = some (.slice da D.length dc) ∧ W.cell? ⟨w.heap.size, 3, none⟩ = some (.int .u64 (R : Int)) ∧ W.cell? ⟨w.heap.size + 1, 0, none⟩ = some (.slice ua T.length uc) ∧ W.cell? ⟨w.heap.size + 1, 1, none⟩ = some (.slice oa T.length oc) ∧ W.cell? ⟨w.heap.size + 1, 2, none⟩ = some (.slice ea D.length ec) ∧ Below W0.heap.size W0 W from fun W hb => by
      have e0 := (hb.block _ (some_lt k0)).trans k0
      have e1 := (hb.block _ (some_lt k1)).trans k1
      obtain ⟨c0, c1, c2, c3, _, _, _, _⟩ := cellsF e0
      obtain ⟨d0, d1, d2⟩ := cells3f e1
      exact ⟨c0, c1, c2, c3, d0, d1, d2, hb⟩)
    have HB0 := toHid hb0
    have HW0 := toHid hW0
    clear h1 h2 hn hb0 k0 k1 hW0 hR hl1 hl2
    go_enter Try.func16, Try.ntmps16
    go_wp2_with fail
    rw [← HW0.out]
    have hS0 := HS.out W0.drew (Below.refl _ _).drew
    have HBd := toHid (show ∀ W, Below W0.heap.size W0 W → Below w.heap.size w W from fun W hb => HB0.out.trans (hb.mono HB0.out.size))
    have hD0 : Below W0.heap.size W0 W0.drew := (Below.refl _ _).drew
    have HC1d := toHid (HC1.out _ (HBd.out _ hD0))
    clear HW0
    go_region_held3 (fun W => W.cell? ⟨w.heap.size, 0, none⟩ = some (.slice ta T.length tc) ∧ W.cell? ⟨w.heap.size, 1, none⟩ = some (.slice na T.length nc) ∧ W.cell? ⟨w.heap.size, 2, none⟩ = some (.slice da D.length dc) ∧ W.cell? ⟨w.heap.size, 3, none⟩ = some (.int .u64 (R : Int)) ∧ W.cell? ⟨w.heap.size + 1, 0, none⟩ = some (.slice ua T.length uc) ∧ W.cell? ⟨w.heap.size + 1, 1, none⟩ = some (.slice oa T.length oc) ∧ W.cell? ⟨w.heap.size + 1, 2, none⟩ = some (.slice ea D.length ec) ∧ Below W0.heap.size W0 W) (with_reducible assumption) (first
      | (go_at_call 22; refine Calls.mono HC1d.out ?_; rintro e w1 ⟨rfl, hb1⟩; have hq1 := hD0.trans hb1; have HQ1 := toHid hq1; have hS1 := HS.out _ hq1; clear hb1 hq1)
      | (go_at_call 23; refine Calls.mono (HC2.out _ (HBd.out _ HQ1.out)) ?_; rintro e w2 ⟨rfl, hb2⟩; have hq2 := HQ1.out.trans (hb2.mono HQ1.out.size); have HQ2 := toHid hq2; have hS2 := HS.out _ hq2; clear hb2 hq2)
      | (go_at_call 24; refine Calls.mono (HC3.out _ (HBd.out _ HQ2.out)) ?_; rintro e w3 ⟨rfl, hb3⟩; have hq3 := HQ2.out.trans (hb3.mono HQ2.out.size); have HQ3 := toHid hq3; have hS3 := HS.out _ hq3; clear hb3 hq3)
      | (go_at_call 35; refine Calls.mono (HC4.out _ (HBd.out _ HQ3.out)) ?_; rintro e w4 ⟨rfl, hb4⟩; have hq4 := HQ3.out.trans (hb4.mono HQ3.out.size); have HQ4 := toHid hq4; have hS4 := HS.out _ hq4; clear hb4 hq4))
    all_goals
      go_wp2
      go_ret
      exact ⟨rfl, HBd.out _ HQ4.out⟩
end Go.Proofs.Yticnkppnpfgceaa.Mg

