/-
  The walk of MergeTurned.
-/
import Derived.Test.YtnejcjebepidcaaTb
namespace Go.Proofs.Ytnejcjebepidcaa
open Go.RowKit

theorem Try.info26 : (Try.prog.info? 26).map (fun i => (i.zero, i.size, i.bytes)) = some (some (.slice none 0 0), 1, 24) := by kernel_rfl

theorem news_val (w : World) (x : Value) (t : Nat) : ∀ j u, ([x] : List Value)[j]? = some u → (w.alloc (.cells #[x] t)).cell? ((⟨w.heap.size, 0, none⟩ : Addr).add j) = some u := by
  intro j u hj
  rcases j with _ | j
  · simp at hj
    subst hj
    rw [add_plain]
    unfold World.cell?
    simp only [heap_alloc_new]
    rfl
  · simp at hj

/-- A row of one's own of logs that lay there before. -/
def RowO (w W : World) (B : Nat) (v : Value) (qs : List (List Rc)) : Prop := ∃ xs : List Value, W.ownsRow B 26 1 v qs.length xs ∧ ∀ (i : Nat) (q : List Rc), qs[i]? = some q → ∃ x, xs[i]? = some x ∧ LgV w x q
theorem RowO.nil (w W : World) (B : Nat) : RowO w W B (.slice none 0 0) [] := ⟨[], World.ownsRow_nil _ _ _ _, fun i q hq => by simp at hq⟩
theorem RowO.rowL {w W : World} {B : Nat} {v : Value} {qs : List (List Rc)} (h : RowO w W B v qs) (hb : Below w.heap.size w W) : RowL W B v qs := by
  obtain ⟨xs, h1, h2⟩ := h
  exact ⟨xs, h1, fun i q hq => by
    obtain ⟨x, k1, k2⟩ := h2 i q hq
    exact ⟨x, k1, k2.below hb⟩⟩
theorem RowO.add {w y : World} {B : Nat} {v' : Value} {qs : List (List Rc)} {q : List Rc} {xs : List Value} {x : Value} (hl : xs.length = qs.length) (hx : ∀ (i : Nat) (q : List Rc), qs[i]? = some q → ∃ x, xs[i]? = some x ∧ LgV w x q)
    (ho : y.ownsRow B 26 1 v' (qs.length + 1) (xs ++ [x])) (hq : LgV w x q) : RowO w y B v' (qs ++ [q]) := by
  refine ⟨xs ++ [x], by rw [List.length_append]; exact ho, fun i q' hq' => ?_⟩
  by_cases hi : i < qs.length
  · rw [List.getElem?_append_left hi] at hq'
    obtain ⟨x', k1, k2⟩ := hx i q' hq'
    exact ⟨x', by rw [List.getElem?_append_left (by omega)]; exact k1, k2⟩
  · rw [List.getElem?_append_right (by omega)] at hq'
    have : i - qs.length = 0 := by
      have := (List.getElem?_eq_some_iff.1 hq').1
      simp at this
      omega
    rw [this] at hq'
    simp at hq'
    subst hq'
    exact ⟨x, by rw [List.getElem?_append_right (by omega), show i - xs.length = 0 by omega]; rfl, hq⟩
theorem SlL.lgv {w : World} {a : Option Addr} {logs : List (List Rc)} (h : SlL w a logs) (i : Nat) (hi : i < logs.length) : ∃ b o x, a = some ⟨b, o, none⟩ ∧ b < w.heap.size ∧ w.cell? ⟨b, o + i, none⟩ = some x ∧ LgV w x logs[i] := by
  obtain ⟨b, o, la, lc, rfl, h1, h2, h3⟩ := h.get i hi
  exact ⟨b, o, _, rfl, World.block_lt_of_cell? _ _ h1, h1, la, lc, rfl, h2, h3⟩
theorem SlL.take {w : World} {a : Option Addr} {logs : List (List Rc)} (h : SlL w a logs) (k : Nat) : SlL w a (logs.take k) :=
  ⟨fun e => by rw [h.nonil e]; simp, fun x hx i q hq => h.place x hx i q (by rw [List.getElem?_take] at hq; split at hq; exact hq; simp at hq)⟩

/-- How many there are in all. -/
def flen (l : List (List Rc)) : Nat := l.flatten.length
theorem flen_cons (q : List Rc) (l : List (List Rc)) : flen (q :: l) = q.length + flen l := by simp [flen]

theorem SlL.vals {w : World} {b o : Nat} {logs : List (List Rc)} (h : SlL w (some ⟨b, o, none⟩) logs) : ∃ xs : List Value, xs.length = logs.length ∧ ∀ (i : Nat) (hi : i < logs.length), ∃ x, xs[i]? = some x ∧ w.cell? ⟨b, o + i, none⟩ = some x ∧ LgV w x logs[i] := by
  refine ⟨(List.range logs.length).map fun i => (w.cell? ⟨b, o + i, none⟩).getD undef, by simp, fun i hi => ?_⟩
  obtain ⟨b', o', x, e, _, hc, hl⟩ := h.lgv i hi
  simp at e
  obtain ⟨rfl, rfl⟩ := e
  exact ⟨x, by simp [hi, hc], hc, hl⟩
theorem own_one (w : World) (B : Nat) (x : Value) (hB : B ≤ w.heap.size) : (w.alloc (.cells #[x] 26)).ownsRow B 26 1 (.slice (some ⟨w.heap.size, 0, none⟩) 1 1) 1 [x] :=
  ⟨rfl, .inr ⟨w.heap.size, 1, #[x], rfl, hB, heap_alloc_new _ _, Nat.le_refl _, by unfold maxLen; omega, rfl, rfl⟩⟩
/-- A log that was told, and logs that lay there before, in a row. -/
theorem RowL.mix {w y : World} {B : Nat} {v' : Value} {qs : List (List Rc)} {q : List Rc} {xs : List Value} {z : Value} (hb : Below w.heap.size w y) (hz : LgV y z q) (hx : ∀ (i : Nat) (r : List Rc), qs[i]? = some r → ∃ x, xs[i]? = some x ∧ LgV w x r)
    (ho : y.ownsRow B 26 1 v' (qs.length + 1) ([z] ++ xs)) : RowL y B v' (q :: qs) := by
  refine ⟨z :: xs, by simpa using ho, fun i r hr => ?_⟩
  rcases i with _ | i
  · simp at hr
    subst hr
    exact ⟨z, rfl, hz⟩
  · simp at hr
    obtain ⟨x, k1, k2⟩ := hx i r hr
    exact ⟨x, by simpa using k1, k2.below hb⟩

theorem heap_cell_old (w : World) (o : Obj) {b k : Nat} (h : b < w.heap.size) : (w.alloc o).cell? ⟨b, k, none⟩ = w.cell? ⟨b, k, none⟩ := World.cell?_of_block (w := w) (a := ⟨b, k, none⟩) (heap_alloc_old _ _ h)
theorem tail_below {w w6 y : World} {o : Obj} {n c : Nat} (hb : Below w.heap.size w w6) (hg : (w6.alloc o).grownBy y (Value.slice (some ⟨w6.heap.size, 0, none⟩) n c).ownBlock) : Below w.heap.size w y :=
  (hb.alloc hb.size o).grown hg (by have := hb.size; simp; omega) (fun k hk => by simp [Value.ownBlock] at hk; have := hb.size; omega)
theorem tail_res {w w6 y : World} {o : Obj} {n c : Nat} {B : Nat} {logs : List (List Rc)} {out : List Rc} {a : Option Addr} {c' : Nat} {e : Int} (h : Res w6 B logs out a c' e) (_hb : Below w.heap.size w w6) (hg : (w6.alloc o).grownBy y (Value.slice (some ⟨w6.heap.size, 0, none⟩) n c).ownBlock) : Res y B logs out a c' e :=
  ⟨h.all.stay (fun k c t ht hc => by
    have hlt := (Array.getElem?_eq_some_iff.1 hc).1
    rw [hg.block k (by simp; omega) (fun e => by simp [Value.ownBlock] at e; omega), heap_alloc_old _ _ hlt]), h.spec⟩

set_option maxRecDepth 100000 in
set_option maxHeartbeats 20000000 in
theorem turned_walk (a : Option Addr) (c : Nat) (logs : List (List Rc)) (w : World) (hL : SlL w a logs) (hl : logs.length ≤ 140737488355328) (hlc : logs.length ≤ c) (hW : ∀ q, q ∈ logs → q.length ≤ 140737488355328 ∧ ∀ r, r ∈ q → Wd r) :
    Calls Try.prog 4 #[.slice a logs.length c] w fun e w' => e = .returned (.bool true) ∧ Below w.heap.size w w' := by
  obtain ⟨i0, hi0, hz0, hz1, hz2⟩ := info_parts Try.info26
  have HL := toHid hL
  have HS := toHid (small9 a c logs w hL hl hW)
  clear hL hW
  go_enter Try.func4, Try.ntmps4
  go_wp2_with fail
  refine Calls.mono HS.out ?_
  rintro e w1 ⟨b, rfl, hb, n1, rfl⟩
  have HB0 := toHid (below_drewN w.heap.size w n1)
  clear HS
  cases b
  · go_wp2_with fail
    refine Calls.mono (lives10 _) ?_
    rintro e wl ⟨rfl, hbl⟩
    have HBL := toHid (HB0.out.trans (hbl.mono HB0.out.size))
    clear hbl
    go_wp2
    go_ret
    exact ⟨rfl, HBL.out⟩

  obtain ⟨h40, htot⟩ := hb rfl
  have hfl : logs.flatten.length ≤ 300 := Nat.le_trans (tot_len _) htot
  have hlimF : ∀ r, r ∈ logs.flatten → Lim r := fun r hr => by have := tot_mem hr; simp only [wt] at this; exact ⟨by omega, by omega⟩
  have hlim : ∀ l, l ∈ logs → ∀ r, r ∈ l → Lim r := fun l hl r hr => hlimF r (List.mem_flatten.2 ⟨l, hl, hr⟩)
  have HLF := toHid hlimF
  have HM1 := toHid (merge17 a c logs (w.drewN n1) (HL.out.below HB0.out) (by omega) (by omega) hlim)
  clear hb hlim hlimF htot
  go_wp2_with fail
  refine Calls.mono HM1.out ?_
  rintro e w2 ⟨v1, e1, rfl, hm1, hb2⟩
  obtain ⟨out1, a1, c1, rfl, hr1⟩ := hm1.res
  have HR1 := toHid hr1
  have HB2 := toHid (HB0.out.trans (hb2.mono HB0.out.size))
  clear hm1 hr1 hb2 HM1
  have hj0 : (logs.length : Int) - 1 = ((logs.length : Nat) : Int) - 1 := rfl
  go_wp2_with fail
  go_loopw [5, 6, 7] (fun n s k W => ∃ (j : Nat) (v : Value), j ≤ logs.length ∧ k = .int .i64 ((j : Int) - 1) ∧ n = .int .i64 (flen (logs.drop j) : Int) ∧ s = v ∧ RowO w W w.heap.size v (logs.drop j).reverse ∧ Res W (w.drewN n1).heap.size logs out1 a1 c1 e1 ∧ Below w.heap.size w W) (fun _ _ k _ => (intOf k + 1).toNat)
  case atStart => exact ⟨logs.length, _, Nat.le_refl _, rfl, by simp [flen], rfl, by simpa using RowO.nil w w2 _, HR1.out, HB2.out⟩
  case round =>
    obtain ⟨j, v, hj, rfl, rfl, hsv, hro, hrs, hbw⟩ := hrel
    obtain rfl := hsv.symm
    have HRo := toHid hro
    have HRs := toHid hrs
    have HBw := toHid hbw
    clear hro hrs hbw HR1 HB2
    have hwz : w.heap.size ≤ wr.heap.size := HBw.out.size
    rcases j with _ | j
    · simp only [List.drop_zero] at HRo ⊢
      obtain ⟨a2, c2, rfl⟩ := (HRo.out.rowL HBw.out).shape
      have HM2 := toHid (merge17 a2 c2 logs.reverse wr (HRo.out.rowL HBw.out).slL (by simp; omega) (by rw [(flat_rev logs).length_eq]; omega) (fun l hl r hr => HLF.out r ((flat_rev logs).mem_iff.1 (List.mem_flatten.2 ⟨l, hl, hr⟩))))
      rw [List.length_reverse] at HM2
      go_wp2_with fail
      refine Calls.mono HM2.out ?_
      rintro e w3 ⟨v2, e2, rfl, hm2, hb3⟩
      obtain ⟨out2, a3, c3, rfl, hr2⟩ := hm2.res
      obtain ⟨rfl, rfl⟩ := HRs.out.spec.unique hr2.spec (all_rev logs).symm (flat_rev logs).symm
      have HB3 := toHid (HBw.out.trans (hb3.mono HBw.out.size))
      have HR3 := toHid (HRs.out.below hb3)
      have HL1 := toHid (fun r hr => HLF.out r (HRs.out.spec.sub r hr))
      have hol : out1.length ≤ 300 := Nat.le_trans HRs.out.spec.len hfl
      have HSm := toHid (same14 a1 c1 out1 a3 c3 out1 w3 HR3.out.all.slR hr2.all.slR HL1.out HL1.out (by omega) (by omega))
      rw [decide_eq_true rfl] at HSm
      have hee : (e1 != e1) = false := by simp
      clear hm2 hr2 hb3 HM2 HRs HRo
      go_wp2_with fail
      refine Calls.mono HSm.out ?_
      rintro e w4 ⟨rfl, hb4⟩
      have HB4 := toHid (HB3.out.trans (hb4.mono HB3.out.size))
      have HR4 := toHid (HR3.out.below hb4)
      clear hb4 HSm hee
      rcases HR4.out.spec.err with he0 | ⟨he1, hout⟩
      rotate_left
      · have he2 : (e1 != 0) = true := by simpa using he1
        subst hout
        clear he1
        simp only [List.length_nil]
        go_wp2_with fail
        refine Calls.mono (lives10 _) ?_
        rintro e wl ⟨rfl, hbl⟩
        have HBL := toHid (HB4.out.trans (hbl.mono HB4.out.size))
        clear hbl
        go_wp2
        go_ret
        exact ⟨rfl, HBL.out⟩

      have HOk := toHid (HR4.out.spec.zero he0)
      subst he0
      have hnl : ((out1.length : Int) != (flen logs : Int)) = false := by rw [HOk.out.2.2.1.length_eq]; simp [flen]
      have HRi := toHid (rises12 a1 c1 out1 w4 HR4.out.all.slR (by omega))
      rw [HOk.out.2.2.2] at HRi
      go_wp2_with fail
      refine Calls.mono HRi.out ?_
      rintro e w5 ⟨rfl, n5, rfl⟩
      have HB5 := toHid (HB4.out.trans (below_drewN _ _ n5))
      have HR5 := toHid (HR4.out.below (below_drewN _ _ n5))
      clear HRi hnl HR4 HR3
      by_cases h2 : logs.length < 2
      · have h2i : (logs.length : Int) < 2 := by omega
        go_wp2_with fail
        refine Calls.mono (lives10 _) ?_
        rintro e wl ⟨rfl, hbl⟩
        have HBL := toHid (HB5.out.trans (hbl.mono HB5.out.size))
        clear hbl
        go_wp2
        go_ret
        exact ⟨rfl, HBL.out⟩

      have h2i : ¬ (logs.length : Int) < 2 := by omega
      obtain ⟨b, o, x0, rfl, hbl, -, -⟩ := HL.out.lgv 0 (by omega)
      have hl2 : (logs.take 2).length = 2 := by simp; omega
      have HFs := toHid (show (logs.take 2).flatten ++ (logs.drop 2).flatten = logs.flatten by rw [← List.flatten_append, List.take_append_drop])
      have hft : (logs.take 2).flatten.length ≤ 300 := by have := congrArg List.length HFs.out; rw [List.length_append] at this; omega
      have HM3 := toHid (merge17 (some ⟨b, o, none⟩) c (logs.take 2) (w4.drewN n5) ((HL.out.below HB5.out).take 2) (by omega) (by omega) (fun l hl r hr => HLF.out r (by rw [← HFs.out]; exact List.mem_append_left _ (List.mem_flatten.2 ⟨l, hl, hr⟩))))
      rw [hl2] at HM3
      have k1 : (2 : Int) ≤ (c : Int) := by omega
      have k2 : (2 : Int) ≤ (logs.length : Int) := by omega
      have k3 : 2 ≤ c := by omega
      clear hl2
      go_wp2_with fail
      refine Calls.mono HM3.out ?_
      rintro e w6 ⟨v6, e6, rfl, hm6, hb6⟩
      obtain ⟨out3, a4, c4, rfl, hr6⟩ := hm6.res
      obtain ⟨rfl, hp6, hs6⟩ := hr6.spec.ok (List.all_eq_true.2 (fun l hl => List.all_eq_true.1 HOk.out.1 l (List.mem_of_mem_take hl))) (by have := HOk.out.2.1; rw [← HFs.out, List.map_append] at this; exact (List.nodup_append.1 this).1)
      have HB6 := toHid (HB5.out.trans (hb6.mono HB5.out.size))
      have HR6 := toHid (HR5.out.below hb6)
      have HZ6 := toHid hr6
      have HFl := toHid (show (out3 :: logs.drop 2).flatten.Perm logs.flatten by rw [List.flatten_cons, ← HFs.out]; exact hp6.append_right _)
      have HAl8 := toHid (show (out3 :: logs.drop 2).all risB = true from List.all_eq_true.2 (fun l hl => by rcases List.mem_cons.1 hl with rfl | hl; exact hs6; exact List.all_eq_true.1 HOk.out.1 l (List.mem_of_mem_drop hl)))
      have HNd8 := toHid (show ((out3 :: logs.drop 2).flatten.map Rc.lsn).Nodup from ((HFl.out.map Rc.lsn).nodup_iff).2 HOk.out.2.1)
      obtain ⟨xs, hxl, hxs⟩ := HL.out.vals
      have HXL := toHid hxl
      have HXC := toHid (show ∀ (i : Nat) (x : Value), xs[i]? = some x → w.cell? ⟨b, o + i, none⟩ = some x ∧ ∃ hil : i < logs.length, LgV w x logs[i] from fun i x hi => by
        have hil : i < logs.length := by have := (List.getElem?_eq_some_iff.1 hi).1; omega
        obtain ⟨x', k1, k2, k3⟩ := hxs i hil
        rw [hi] at k1
        injection k1 with k1
        subst k1
        exact ⟨k2, hil, k3⟩)
      have HXD := toHid (show ∀ (i : Nat) (r : List Rc), (logs.drop 2)[i]? = some r → ∃ x, (xs.drop 2)[i]? = some x ∧ LgV w x r from fun i r hr => by
        rw [List.getElem?_drop] at hr
        obtain ⟨hil, he⟩ := List.getElem?_eq_some_iff.1 hr
        obtain ⟨x', k1, k2, k3⟩ := hxs (2 + i) hil
        exact ⟨x', by rw [List.getElem?_drop]; exact k1, by rw [← he]; exact k3⟩)
      have hwz6 : w.heap.size ≤ w6.heap.size := HB6.out.size
      have HO1 := toHid (own_one w6 w.heap.size (.slice a4 out3.length c4) hwz6)
      have HZC := toHid (show out3.length ≤ c4 by obtain ⟨qs, -, hq2, -⟩ := HZ6.out.all; rcases own_addr hq2 with ⟨-, e, -⟩ | ⟨g, cur, -, -, -, h, -⟩; omega; exact h)
      obtain ⟨L7, hL7⟩ : ∃ L7, L7 = (out3 :: logs.drop 2).length := ⟨_, rfl⟩
      have HL7 := toHid hL7
      clear hm6 hr6 hb6 hp6 hs6 HM3 hxl hxs k1 k2 hL7
      by_cases hc2 : c = 2
      · have hln : logs.length = 2 := by omega
        have hx0 : xs.drop 2 = [] := List.drop_of_length_le (by rw [HXL.out]; omega)
        have HX0 := toHid hx0
        have k6 : (2 : Int) ≤ (logs.length : Int) := by omega
        have k7 : (logs.length : Int) ≤ 2 := by omega
        have k8 : logs.length ≤ 2 := by omega
        subst hc2
        clear hx0 hln
        go_wp2_with (at_builtin; go_must (refine wpList_append_fresh _ rfl _ _ 22 rfl w.heap.size 26 i0 _ 1 24 Try.underlying22 hi0 hz0 hz1 hz2 rfl (by decide) (.slice (some ⟨w6.heap.size, 0, none⟩) 1 1) 1 [.slice a4 out3.length c4] rfl HO1.out ⟨b, o, none⟩ 0 0 (xs.drop 2) rfl (by rw [List.length_drop, HXL.out]; omega) (fun j u hj => by rw [HX0.out] at hj; simp at hj) (fun u hu => by obtain ⟨i, hi, rfl⟩ := List.getElem_of_mem hu; obtain ⟨-, hil, la, lc, e, -⟩ := HXC.out (2 + i) _ (by rw [← List.getElem?_drop, List.getElem?_eq_getElem hi]); rw [e]; rfl) (by unfold maxLen; omega) (by omega) (by simp; omega) ?_; intro v7 y7 hown hgrow _; rw [show 1 + 0 = L7 by rw [HL7.out]; simp; omega] at hown; have HOW := toHid hown; have HGW := toHid hgrow; clear hown hgrow; obtain ⟨a7, c7, rfl⟩ := ownsRow_shape HOW.out; have HY7 := toHid (tail_below HB6.out HGW.out); have HR7 := toHid (tail_res HR6.out HB6.out HGW.out); have HZ7 := toHid (tail_res HZ6.out HB6.out HGW.out)))
        rw [HL7.out]
        have HRw := toHid (show RowL y7 w.heap.size (.slice a7 (out3 :: logs.drop 2).length c7) (out3 :: logs.drop 2) from RowL.mix HY7.out ⟨a4, c4, rfl, HZ7.out.all.slR, HZC.out⟩ HXD.out (by have := HOW.out; rw [HL7.out, List.length_cons] at this; rw [List.length_cons]; exact this))
        have HM8 := toHid (merge17 a7 c7 (out3 :: logs.drop 2) y7 HRw.out.slL (by simp; omega) (by rw [HFl.out.length_eq]; omega) (fun l hl r hr => HLF.out r (HFl.out.mem_iff.1 (List.mem_flatten.2 ⟨l, hl, hr⟩))))
        clear HOW HGW HRw
        refine Calls.mono HM8.out ?_
        rintro e w8 ⟨v8, e8, rfl, hm8, hb8⟩
        obtain ⟨out8, a8, c8, rfl, hr8⟩ := hm8.res
        obtain ⟨rfl, hp8, hs8⟩ := hr8.spec.ok HAl8.out HNd8.out
        obtain rfl : out8 = out1 := ris_unique hs8 HOk.out.2.2.2 (hp8.trans (HFl.out.trans HOk.out.2.2.1.symm))
        have HB8 := toHid (HY7.out.trans (hb8.mono HY7.out.size))
        have HSm := toHid (same14 a8 c8 out8 a1 c1 out8 w8 hr8.all.slR (HR7.out.below hb8).all.slR HL1.out HL1.out (by omega) (by omega))
        rw [decide_eq_true rfl] at HSm
        clear hm8 hr8 hb8 hp8 hs8 HM8
        go_wp2_with fail
        refine Calls.mono HSm.out ?_
        rintro e w9 ⟨rfl, hb9⟩
        have HB9 := toHid (HB8.out.trans (hb9.mono HB8.out.size))
        clear hb9 HSm
        go_wp2_with fail
        refine Calls.mono (lives10 _) ?_
        rintro e wl ⟨rfl, hbl⟩
        have HBL := toHid (HB9.out.trans (hbl.mono HB9.out.size))
        clear hbl
        go_wp2
        go_ret
        exact ⟨rfl, HBL.out⟩
      · have k4 : ¬ c - 2 = 0 := by omega
        have k5 : ¬ c ≤ 2 := by omega
        have k6 : (2 : Int) ≤ (logs.length : Int) := by omega
        have k7 : (logs.length : Int) ≤ (c : Int) := by omega
        go_wp2_with (at_builtin; go_must (refine wpList_append_fresh _ rfl _ _ 22 rfl w.heap.size 26 i0 _ 1 24 Try.underlying22 hi0 hz0 hz1 hz2 rfl (by decide) (.slice (some ⟨w6.heap.size, 0, none⟩) 1 1) 1 [.slice a4 out3.length c4] rfl HO1.out ⟨b, o + 2, none⟩ (logs.length - 2) (c - 2) (xs.drop 2) rfl (by rw [List.length_drop, HXL.out]; omega) (fun j u hj => by rw [List.getElem?_drop] at hj; rw [add_plain]; have := (HXC.out (2 + j) u hj).1; rw [show o + 2 + j = o + (2 + j) by omega]; rw [heap_cell_old w6 _ (Nat.lt_of_lt_of_le hbl hwz6), HB6.out.cell (p := ⟨b, o + (2 + j), none⟩) hbl]; exact this) (fun u hu => by obtain ⟨i, hi, rfl⟩ := List.getElem_of_mem hu; obtain ⟨-, hil, la, lc, e, -⟩ := HXC.out (2 + i) _ (by rw [← List.getElem?_drop, List.getElem?_eq_getElem hi]); rw [e]; rfl) (by unfold maxLen; omega) (by omega) (by simp; omega) ?_; intro v7 y7 hown hgrow _; rw [show 1 + (logs.length - 2) = L7 by rw [HL7.out]; simp; omega] at hown; have HOW := toHid hown; have HGW := toHid hgrow; clear hown hgrow; obtain ⟨a7, c7, rfl⟩ := ownsRow_shape HOW.out; have HY7 := toHid (tail_below HB6.out HGW.out); have HR7 := toHid (tail_res HR6.out HB6.out HGW.out); have HZ7 := toHid (tail_res HZ6.out HB6.out HGW.out)))
        rw [HL7.out]
        have HRw := toHid (show RowL y7 w.heap.size (.slice a7 (out3 :: logs.drop 2).length c7) (out3 :: logs.drop 2) from RowL.mix HY7.out ⟨a4, c4, rfl, HZ7.out.all.slR, HZC.out⟩ HXD.out (by have := HOW.out; rw [HL7.out, List.length_cons] at this; rw [List.length_cons]; exact this))
        have HM8 := toHid (merge17 a7 c7 (out3 :: logs.drop 2) y7 HRw.out.slL (by simp; omega) (by rw [HFl.out.length_eq]; omega) (fun l hl r hr => HLF.out r (HFl.out.mem_iff.1 (List.mem_flatten.2 ⟨l, hl, hr⟩))))
        clear HOW HGW HRw
        refine Calls.mono HM8.out ?_
        rintro e w8 ⟨v8, e8, rfl, hm8, hb8⟩
        obtain ⟨out8, a8, c8, rfl, hr8⟩ := hm8.res
        obtain ⟨rfl, hp8, hs8⟩ := hr8.spec.ok HAl8.out HNd8.out
        obtain rfl : out8 = out1 := ris_unique hs8 HOk.out.2.2.2 (hp8.trans (HFl.out.trans HOk.out.2.2.1.symm))
        have HB8 := toHid (HY7.out.trans (hb8.mono HY7.out.size))
        have HSm := toHid (same14 a8 c8 out8 a1 c1 out8 w8 hr8.all.slR (HR7.out.below hb8).all.slR HL1.out HL1.out (by omega) (by omega))
        rw [decide_eq_true rfl] at HSm
        clear hm8 hr8 hb8 hp8 hs8 HM8
        go_wp2_with fail
        refine Calls.mono HSm.out ?_
        rintro e w9 ⟨rfl, hb9⟩
        have HB9 := toHid (HB8.out.trans (hb9.mono HB8.out.size))
        clear hb9 HSm
        go_wp2_with fail
        refine Calls.mono (lives10 _) ?_
        rintro e wl ⟨rfl, hbl⟩
        have HBL := toHid (HB9.out.trans (hbl.mono HB9.out.size))
        clear hbl
        go_wp2
        go_ret
        exact ⟨rfl, HBL.out⟩
    · have hjl : j < logs.length := by omega
      obtain ⟨b, o, x, rfl, hbl, cx, hlg⟩ := HL.out.lgv j hjl
      rw [← HBw.out.cell (p := ⟨b, o + j, none⟩) hbl] at cx
      have HCx := toHid (fun (W : World) (hW : Below w.heap.size wr W) => (hW.cell (p := ⟨b, o + j, none⟩) hbl).trans cx)
      have HLg := toHid hlg
      obtain ⟨la, lc, hxe, -, hlc2⟩ := hlg
      obtain ⟨xs, ho, hxs⟩ := HRo.out
      have HXS := toHid hxs
      have hxl : xs.length = (logs.drop (j + 1)).reverse.length := by simpa using ho.1
      have HO0 := toHid (World.ownsRow.alloc ho (.cells #[x] 26))
      have HNw := toHid (news_val wr x 26)
      have hj3 : ((j + 1 : Nat) : Int) - 1 = (j : Int) := by omega
      have hj4 : (j : Int) < (logs.length : Int) := by omega
      have hj5 : 0 ≤ (j : Int) := by omega
      have hdr : logs.drop j = logs[j] :: logs.drop (j + 1) := List.drop_eq_getElem_cons hjl
      have HDR := toHid hdr
      have hfl2 : flen (logs.drop (j + 1)) + logs[j].length ≤ 300 := by
        have h1 : (logs.drop j).flatten.length ≤ logs.flatten.length := by
          have h2 : logs.flatten = (logs.take j).flatten ++ (logs.drop j).flatten := by rw [← List.flatten_append, List.take_append_drop]
          rw [h2, List.length_append]; omega
        rw [hdr, List.flatten_cons, List.length_append] at h1
        unfold flen
        omega
      have hrl : (logs.drop (j + 1)).reverse.length ≤ 40 := by simp; omega
      rw [hj3]
      clear hj3 ho hxs hdr
      subst hxe
      go_wp2_with (at_builtin; go_must (refine wpList_append_fresh _ rfl _ _ 22 rfl w.heap.size 26 i0 _ 1 24 Try.underlying22 hi0 hz0 hz1 hz2 rfl (by decide) v _ xs rfl HO0.out ⟨wr.heap.size, 0, none⟩ 1 1 [.slice la logs[j].length lc] rfl rfl HNw.out (by intro u hu; simp at hu; subst hu; rfl) (by unfold maxLen; omega) (by omega) (by simp; omega) ?_; intro v3 y1 hown hgrow _; have HOW := toHid hown; have HGW := toHid hgrow; have HYB := toHid ((((Below.refl w.heap.size wr).alloc hwz _).grown hgrow (by simp; omega) (fun k hk => (HO0.out.lt k hk).1))); have cy := HCx.out y1 HYB.out; clear hown hgrow))
      have HRn := toHid (RowO.add hxl HXS.out HOW.out HLg.out)
      have HRs2 := toHid (show Res y1 (w.drewN n1).heap.size logs out1 a1 c1 e1 from ⟨HRs.out.all.stay (fun k c t ht hc => by
        have hlt := (Array.getElem?_eq_some_iff.1 hc).1
        rw [HGW.out.block k (by simp; omega) (fun e => ?_), heap_alloc_old _ _ hlt]
        obtain ⟨c', fz, hc'⟩ := Lib.ownsRow_kind HO0.out k e.symm
        rw [heap_alloc_old _ _ hlt, hc] at hc'
        injection hc' with hc'
        injection hc' with _ hc'
        subst hc'
        omega), HRs.out.spec⟩)
      have HBy := toHid (HBw.out.trans HYB.out)
      go_roundw
      case rel =>
        refine ⟨j, v3, by omega, rfl, ?_, rfl, ?_, HRs2.out, HBy.out⟩
        · rw [HDR.out, flen_cons]
          go_num
        · rw [HDR.out, List.reverse_cons]
          exact HRn.out
      case measure => simp [intOf]

end Go.Proofs.Ytnejcjebepidcaa
