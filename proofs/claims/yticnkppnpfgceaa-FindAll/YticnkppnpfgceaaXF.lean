/-
  Texts put together: XD MOg.
-/
import Derived.Test.YticnkppnpfgceaaXC
import Derived.Great.BuildSlice
import Derived.ProofKit
import Derived.OpenShut
import Derived.SizedLaws
import Derived.ChangeMaps5
import Derived.Deep.Grids
import Derived.Test.YticnkppnpfgceaaMSb
import Derived.Test.YticnkppnpfgceaaMTa
import Derived.ShutString
import Derived.Deep.Strs
namespace Go.Proofs.Yticnkppnpfgceaa.Mg
open Go.RowKit

theorem allX_nil {l : List Rc} : logB l = false → allX l = Lf.nil := fun h => by simp [allX, h]
theorem shortX_nil {l : List Rc} : logB l = false → shortX l = Lf.nil := fun h => by simp [shortX, h]
theorem allX_len (l : List Rc) : (allX l).t.length ≤ l.length ∧ (allX l).d.length ≤ l.length := by
  unfold allX
  split
  · have := over_len Lf.nil l
    have e1 : Lf.nil.t.length = 0 := rfl
    have e2 : Lf.nil.d.length = 0 := rfl
    omega
  · exact ⟨Nat.zero_le _, Nat.zero_le _⟩
theorem shortX_len {l : List Rc} (h : l.length ≤ 300) : (shortX l).t.length ≤ 1000 ∧ (shortX l).d.length ≤ 1000 := by
  unfold shortX
  split
  · rename_i e
    have := shS_ok (log_all e) l.length (Nat.le_refl _)
    omega
  · exact ⟨Nat.zero_le _, Nat.zero_le _⟩

set_option maxRecDepth 100000 in
set_option maxHeartbeats 4000000 in
theorem all_walk (a : Option Addr) (c : Nat) (l : List Rc) (w : World) (hL : SlR w a l) (hl : l.length ≤ 140737488355328) (hnil : a = none → c = 0) (hcap : l.length ≤ c) (hW : ∀ r, r ∈ l → Wd r) :
    Calls Try.prog 3 #[.slice a l.length c] w fun e w' => e = .returned (.bool true) ∧ Below w.heap.size w w' := by
  have HS := toHid (small9 a c l w hL hl hW)
  have HL := toHid hL
  have HNil := toHid hnil
  clear hL hW hnil
  go_enter Try.func3, Try.ntmps3
  go_wp2_with fail
  refine Calls.mono HS.out ?_
  rintro e w1 ⟨b, rfl, hb, n, rfl⟩
  have HB1 := toHid (below_drew (w := w) n)
  clear HS
  cases b
  · clear hb
    have HV := toHid (lives10 (w.drewN n))
    go_wp2_with fail
    refine Calls.mono HV.out ?_
    rintro e w2 ⟨rfl, hb2⟩
    go_wp2
    go_ret
    exact ⟨rfl, HB1.out.trans hb2⟩
  obtain ⟨hl3, hlim⟩ := lim_tot (hb rfl)
  have HLim := toHid hlim
  clear hb hlim
  generalize w.drewN n = w1 at *
  have HC := toHid (copied11 a c l w1 (HL.out.below HB1.out) (by omega) HNil.out)
  go_wp2_with fail
  refine Calls.mono HC.out ?_
  rintro e w2 ⟨ma, mc, rfl, hM, hb2⟩
  have HM := toHid (hM.slR hb2)
  have hcm := hM.cap
  have HB2 := toHid (HB1.out.trans (hb2.mono HB1.out.size))
  have HA := toHid (all12 ma mc l w2 w2 HM.out (Below.refl _ _) (by omega) HLim.out)
  clear hM hb2 HC HB1
  go_wp2_with fail
  refine Calls.mono HA.out ?_
  rintro e w3 ⟨vt, vn, vd, rfl, hR, hb3⟩
  obtain ⟨ta, tc, rfl⟩ := ownsRow_shape2 hR.t
  obtain ⟨na, nc, rfl⟩ := ownsRow_shape2 hR.n
  obtain ⟨da, dc, rfl⟩ := ownsRow_shape2 hR.d
  obtain ⟨W4, hW4⟩ : ∃ W4, W4 = w3.alloc (.cells #[.slice ta (allX l).t.length tc, .slice na (allX l).t.length nc, .slice da (allX l).d.length dc, .int .u64 (redoL (allX l).d : Int)] 32) := ⟨_, rfl⟩
  have hb4 : Below w3.heap.size w3 W4 := hW4 ▸ (Below.refl _ _).alloc (Nat.le_refl _) _
  have HR4 := toHid ((hR.base (Nat.zero_le _)).below hb4)
  have HX4 := toHid (show W4.heap[w3.heap.size]? = some (.cells #[.slice ta (allX l).t.length tc, .slice na (allX l).t.length nc, .slice da (allX l).d.length dc, .int .u64 (redoL (allX l).d : Int)] 32) from hW4 ▸ heap_alloc_new _ _)
  have HM4 := toHid (show Below w2.heap.size w2 W4 from hb3.trans (hb4.mono hb3.size))
  have HW4 := toHid hW4
  have HA13 := toHid (refall13 a c l w W4 HL.out (HB2.out.trans (HM4.out.mono HB2.out.size)) hl3 HLim.out)
  clear hR hb3 hb4 hW4 HA
  go_wp2_with fail
  rw [← HW4.out]
  clear HW4
  refine Calls.mono HA13.out ?_
  rintro e w5 ⟨vt, vn, vd, rfl, hR, hb5⟩
  obtain ⟨ua, uc, rfl⟩ := ownsRow_shape2 hR.t
  obtain ⟨oa, oc, rfl⟩ := ownsRow_shape2 hR.n
  obtain ⟨ea, ec, rfl⟩ := ownsRow_shape2 hR.d
  obtain ⟨W6, hW6⟩ : ∃ W6, W6 = w5.alloc (.cells (rfC (.slice ua (allX l).t.length uc) (.slice oa (allX l).t.length oc) (.slice ea (allX l).d.length ec)) 37) := ⟨_, rfl⟩
  have hb6 : Below w5.heap.size w5 W6 := hW6 ▸ (Below.refl _ _).alloc (Nat.le_refl _) _
  have hb46 : Below W4.heap.size W4 W6 := hb5.trans (hb6.mono hb5.size)
  have HR6 := toHid (hR.below hb6)
  have HX6 := toHid (show W6.heap[w5.heap.size]? = some (.cells (rfC (.slice ua (allX l).t.length uc) (.slice oa (allX l).t.length oc) (.slice ea (allX l).d.length ec)) 37) from hW6 ▸ heap_alloc_new _ _)
  have HR46 := toHid (HR4.out.below hb46)
  have HX46 := toHid ((hb46.block _ (some_lt HX4.out)).trans HX4.out)
  have HM6 := toHid (HM4.out.trans (hb46.mono HM4.out.size))
  have HW6 := toHid hW6
  have HA14 := toHid (short14 ma mc l w2 W6 HM.out HM6.out hl3 HLim.out hcm)
  clear hR hb5 hb6 hb46 hW6 HA13 HR4 HX4 HM4
  go_wp2_with fail
  rw [← HW6.out]
  clear HW6
  refine Calls.mono HA14.out ?_
  rintro e w7 ⟨vt, vn, vd, rfl, hR, hb7⟩
  obtain ⟨ta2, tc2, rfl⟩ := ownsRow_shape2 hR.t
  obtain ⟨na2, nc2, rfl⟩ := ownsRow_shape2 hR.n
  obtain ⟨da2, dc2, rfl⟩ := ownsRow_shape2 hR.d
  obtain ⟨W8, hW8⟩ : ∃ W8, W8 = w7.alloc (.cells #[.slice ta2 (shortX l).t.length tc2, .slice na2 (shortX l).t.length nc2, .slice da2 (shortX l).d.length dc2, .int .u64 (redoL (shortX l).d : Int)] 32) := ⟨_, rfl⟩
  have hb8 : Below w7.heap.size w7 W8 := hW8 ▸ (Below.refl _ _).alloc (Nat.le_refl _) _
  have hb68 : Below W6.heap.size W6 W8 := hb7.trans (hb8.mono hb7.size)
  have HR8 := toHid ((hR.base (Nat.zero_le _)).below hb8)
  have HX8 := toHid (show W8.heap[w7.heap.size]? = some (.cells #[.slice ta2 (shortX l).t.length tc2, .slice na2 (shortX l).t.length nc2, .slice da2 (shortX l).d.length dc2, .int .u64 (redoL (shortX l).d : Int)] 32) from hW8 ▸ heap_alloc_new _ _)
  have HR68 := toHid (HR6.out.below hb68)
  have HX68 := toHid ((hb68.block _ (some_lt HX6.out)).trans HX6.out)
  have HR48 := toHid (HR46.out.below hb68)
  have HX48 := toHid ((hb68.block _ (some_lt HX46.out)).trans HX46.out)
  have HM8 := toHid (HM6.out.trans (hb68.mono HM6.out.size))
  have HW8 := toHid hW8
  have HA15 := toHid (refshort15 a c l w W8 HL.out (HB2.out.trans (HM8.out.mono HB2.out.size)) hl3 HLim.out hcap)
  clear hR hb7 hb8 hb68 hW8 HA14 HR6 HX6 HR46 HX46 HM6
  go_wp2_with fail
  rw [← HW8.out]
  clear HW8
  refine Calls.mono HA15.out ?_
  rintro e w9 ⟨vt, vn, vd, rfl, hR, hb9⟩
  obtain ⟨ua2, uc2, rfl⟩ := ownsRow_shape2 hR.t
  obtain ⟨oa2, oc2, rfl⟩ := ownsRow_shape2 hR.n
  obtain ⟨ea2, ec2, rfl⟩ := ownsRow_shape2 hR.d
  obtain ⟨V, hV⟩ : ∃ V, V = w9.alloc (.cells (rfC (.slice ua2 (shortX l).t.length uc2) (.slice oa2 (shortX l).t.length oc2) (.slice ea2 (shortX l).d.length ec2)) 37) := ⟨_, rfl⟩
  have hb10 : Below w9.heap.size w9 V := hV ▸ (Below.refl _ _).alloc (Nat.le_refl _) _
  have hb8V : Below W8.heap.size W8 V := hb9.trans (hb10.mono hb9.size)
  have HRd := toHid (hR.below hb10)
  have HXd := toHid (show V.heap[w9.heap.size]? = some (.cells (rfC (.slice ua2 (shortX l).t.length uc2) (.slice oa2 (shortX l).t.length oc2) (.slice ea2 (shortX l).d.length ec2)) 37) from hV ▸ heap_alloc_new _ _)
  have HRc := toHid (HR8.out.below hb8V)
  have HXc := toHid ((hb8V.block _ (some_lt HX8.out)).trans HX8.out)
  have HRb := toHid (HR68.out.below hb8V)
  have HXb := toHid ((hb8V.block _ (some_lt HX68.out)).trans HX68.out)
  have HRa := toHid (HR48.out.below hb8V)
  have HXa := toHid ((hb8V.block _ (some_lt HX48.out)).trans HX48.out)
  have HMV := toHid (HM8.out.trans (hb8V.mono HM8.out.size))
  have HV := toHid hV
  have HBV := toHid (show ∀ W, Below V.heap.size V W → Below w.heap.size w W from fun W hb => HB2.out.trans ((HMV.out.trans (hb.mono HMV.out.size)).mono HB2.out.size))
  obtain ⟨hl5, hl6⟩ := allX_len l
  obtain ⟨hl7, hl8⟩ := shortX_len hl3
  have HK1 := toHid (fun W (hb : Below V.heap.size V W) => alike16 (b := logB l) (HRa.out.below hb) (HRb.out.below hb) (by omega) (by omega) allX_nil)
  have HK2 := toHid (fun W (hb : Below V.heap.size V W) => alike16 (b := logB l) (HRc.out.below hb) (HRd.out.below hb) hl7 hl8 shortX_nil)
  have HK3 := toHid (fun W (hb : Below V.heap.size V W) => check17 ma mc l w2 W HM.out (HMV.out.trans (hb.mono HMV.out.size)) (by omega) HLim.out)
  have HK4 := toHid (fun W (hb : Below V.heap.size V W) => same14 ma mc l a c l W (HM.out.below (HMV.out.trans (hb.mono HMV.out.size))) (HL.out.below (HBV.out W hb)) HLim.out HLim.out (by omega) (by omega))
  simp only [decide_true] at HK4
  obtain ⟨x0, x1, x2, x3, _, _, _, _⟩ := cellsF HXa.out
  obtain ⟨y0, y1, y2⟩ := cells3f HXb.out
  have HCl := toHid (show ∀ W, Below V.heap.size V W → (W.heap[w7.heap.size]? = some (.cells #[.slice ta2 (shortX l).t.length tc2, .slice na2 (shortX l).t.length nc2, .slice da2 (shortX l).d.length dc2, .int .u64 (redoL (shortX l).d : Int)] 32) ∧ W.heap[w9.heap.size]? = some (.cells (rfC (.slice ua2 (shortX l).t.length uc2) (.slice oa2 (shortX l).t.length oc2) (.slice ea2 (shortX l).d.length ec2)) 37)) from fun W hb => ⟨(hb.block _ (some_lt HXc.out)).trans HXc.out, (hb.block _ (some_lt HXd.out)).trans HXd.out⟩)
  clear hR hb9 hb10 hb8V hV HA15 HR8 HX8 HR68 HX68 HR48 HX48 HM8 HRa HRb HRc HRd HXa HXb HXc HXd
  clear hl5 hl6 hl7 hl8 hcm
  generalize logB l = lb at *
  generalize (allX l).t.length = n1 at *
  generalize (allX l).d.length = n2 at *
  generalize redoL (allX l).d = n3 at *
  generalize (shortX l).t.length = n4 at *
  generalize (shortX l).d.length = n5 at *
  generalize redoL (shortX l).d = n6 at *
  go_upto_region 8 with fail
  rw [← HV.out]
  clear HV
  go_wp2_with fail
  refine Calls.mono (HK1.out V (Below.refl _ _)) ?_
  rintro e v1 ⟨rfl, hv1⟩
  obtain ⟨f0, f1⟩ := HCl.out _ hv1
  obtain ⟨x0, x1, x2, x3, _, _, _, _⟩ := cellsF f0
  obtain ⟨y0, y1, y2⟩ := cells3f f1
  have HV1 := toHid hv1
  clear f0 f1 hv1
  go_wp2_with fail
  refine Calls.mono (HK2.out v1 HV1.out) ?_
  rintro e v2 ⟨rfl, hv2⟩
  have HV2 := toHid (HV1.out.trans (hv2.mono HV1.out.size))
  clear hv2 x0 x1 x2 x3 y0 y1 y2
  have g1 : (((argE lb : Int) == 0) == lb) = true := by cases lb <;> decide
  go_wp2_with fail
  refine Calls.mono (HK3.out v2 HV2.out) ?_
  rintro e v3 ⟨rfl, hv3⟩
  have HV3 := toHid (HV2.out.trans (hv3.mono HV2.out.size))
  clear hv3
  go_wp2_with fail
  refine Calls.mono (HK4.out v3 HV3.out) ?_
  rintro e v4 ⟨rfl, hv4⟩
  have HV4 := toHid (HV3.out.trans (hv4.mono HV3.out.size))
  clear hv4
  have HLv := toHid (lives10 v4)
  go_wp2_with fail
  refine Calls.mono HLv.out ?_
  rintro e v5 ⟨rfl, hv5⟩
  have HV5 := toHid (HV4.out.trans (hv5.mono HV4.out.size))
  clear hv5
  go_wp2
  go_ret
  exact ⟨rfl, HBV.out _ HV5.out⟩
end Go.Proofs.Yticnkppnpfgceaa.Mg

namespace Go.Proofs.Yticnkppnpfgceaa.Mg
open Go.RowKit

set_option maxRecDepth 20000 in
theorem fill50 (v0 v1 v2 v3 v4 v5 v6 v7 v8 v9 v10 v11 : Value) : Instr.fill (fun i => some (i * 12, 12)) ((Array.range (1 * 12)).map ((Value.agg #[.int .i64 0, .int .u64 0, .int .i64 0, .int .u64 0, .int .u64 0, .int .i64 0, .int .i64 0, .string ⟨#[]⟩, .string ⟨#[]⟩, .string ⟨#[]⟩, .slice none 0 0, .slice none 0 0]).cells[· % (Value.agg #[.int .i64 0, .int .u64 0, .int .i64 0, .int .u64 0, .int .u64 0, .int .i64 0, .int .i64 0, .string ⟨#[]⟩, .string ⟨#[]⟩, .string ⟨#[]⟩, .slice none 0 0, .slice none 0 0]).cells.size]!)) [(0, .agg #[v0, v1, v2, v3, v4, v5, v6, v7, v8, v9, v10, v11])] = some #[v0, v1, v2, v3, v4, v5, v6, v7, v8, v9, v10, v11] := by
  kernel_rfl
theorem wpList_build50 {ops : Array Oper} {rest : List Oper} {o : Oper} {a : Act} {w : World} {Q : Exit → Act → World → Prop} (hg : o.guard = none) (x : Operand) (ho : o.op = .buildSlice 22 1 #[(0, x)]) (r : Rc) (p : Pl) (hx : a.eval x = recV r p)
    (h : wpList Try.prog ops Q rest (a.put o.dst (.slice (some ⟨w.heap.size, 0, none⟩) 1 1)) (w.alloc (.cells (recC r p) 50))) : wpList Try.prog ops Q (o :: rest) a w := by
  obtain ⟨i0, hi0, hz0, hz1, hz2⟩ := info_parts Try.info50
  refine wpList_buildSlice hg 22 50 1 #[(0, x)] ho (recC r p) i0 _ Try.underlying22 hi0 hz0 (by rw [hz1]; decide) (by rw [hz1]; decide) ?_ h
  rw [hz1]
  rw [show (Array.map (fun q : Nat × Operand => (q.1, a.eval q.2)) #[(0, x)]).toList = [(0, recV r p)] from by simp [hx]]
  exact fill50 _ _ _ _ _ _ _ _ _ _ _ _
theorem ShOk.add {w y : World} {B : Nat} {v' : Value} {out : List Rc} {r : Rc} {p : Pl} (h : ∃ qs : List (Rc × Pl), qs.map (·.1) = out ∧ y.ownsRow B 50 12 v' (out.length + 1) ((qs.flatMap fun q => recL q.1 q.2) ++ recL r p) ∧ ∀ q, q ∈ qs → RI w q.1 q.2) (ho : RI w r p) : ShOk w y B v' (out ++ [r]) := by
  obtain ⟨qs, h1, h2, h3⟩ := h
  refine ⟨qs ++ [(r, p)], by simp [h1], ?_, fun q hq => ?_⟩
  · rw [List.length_append, List.flatMap_append, List.flatMap_cons, List.flatMap_nil, List.append_nil]
    exact h2
  · rcases List.mem_append.1 hq with hq | hq
    · exact h3 q hq
    · rw [List.mem_singleton.1 hq]; exact ho

/-- A log without its checkpoints. -/
def plainL (l : List Rc) : List Rc := l.filter fun r => decide (r.kind ≠ 8)
theorem plain_take {l : List Rc} {k : Nat} (h : k < l.length) : plainL (l.take (k + 1)) = plainL (l.take k) ++ (if l[k].kind ≠ 8 then [l[k]] else []) := by
  unfold plainL
  rw [List.take_succ_eq_append_getElem h, List.filter_append]
  by_cases hk : l[k].kind ≠ 8 <;> simp [hk]
theorem plain_len (l : List Rc) : (plainL l).length ≤ l.length := List.length_filter_le _ _
theorem plain_sub (l : List Rc) : (plainL l).Sublist l := List.filter_sublist
theorem ris_pair {l : List Rc} : RisL l ↔ l.Pairwise (fun a b => a.lsn < b.lsn) := by
  constructor
  · intro h
    rw [List.pairwise_iff_getElem]
    intro i j hi hj hij
    induction j with
    | zero => omega
    | succ j ih =>
      by_cases e : i = j
      · subst e; exact h i hj
      · have := ih (by omega) (by omega)
        have := h j hj
        omega
  · intro h i hi
    exact List.pairwise_iff_getElem.1 h i (i + 1) (by omega) hi (by omega)
theorem plain_log {l : List Rc} (h : logB l = true) : logB (plainL l) = true := by
  have hd := (log_down h).2
  unfold logB
  rw [Bool.and_eq_true]
  exact ⟨List.all_eq_true.2 fun r hr => log_all h r ((plain_sub l).subset hr), (risB_iff _).2 (ris_pair.2 ((ris_pair.1 hd).sublist (plain_sub l)))⟩
theorem step_check (x : Lf) {r : Rc} (h : r.kind = 8) : stepL x r = x := by simp [stepL, noteL, chg, h]
theorem over_plain (x : Lf) (l : List Rc) : overL x (plainL l) = overL x l := by
  induction l generalizing x with
  | nil => rfl
  | cons r l ih =>
    by_cases h : r.kind = 8
    · have e : plainL (r :: l) = plainL l := by simp [plainL, h]
      rw [e, ih]
      show overL x l = overL (stepL x r) l
      rw [step_check x h]
    · have e : plainL (r :: l) = r :: plainL l := by simp [plainL, h]
      rw [e]
      show overL (stepL x r) (plainL l) = overL (stepL x r) l
      exact ih _
theorem allX_log {l : List Rc} (h : logB l = true) : allX l = overL Lf.nil l := by simp [allX, h]
theorem allX_plain {l : List Rc} (h : logB l = true) : allX (plainL l) = allX l := by rw [allX_log h, allX_log (plain_log h), over_plain]
theorem shortX_plain {l : List Rc} (h : logB l = true) : shortX (plainL l) = allX l := by
  unfold shortX
  rw [if_pos (plain_log h), shS_plain (fun r hr => by simpa [plainL] using (List.mem_filter.1 hr).2) _ (Nat.le_refl _), List.take_length, over_plain, allX_log h]
theorem soil_ge (d : List (Int × Nat)) (p : Int) (n : Nat) : d.length ≤ (soilL d p n).length := by
  unfold soilL
  split
  · exact Nat.le_refl _
  · have : ∀ (l : List (Int × Nat)), l.length ≤ (putL l p n).length := by
      intro l
      induction l with
      | nil => simp [putL]
      | cons q r ih =>
        obtain ⟨k, u⟩ := q
        rw [putL]
        split
        · simpa using ih
        · split <;> simp
    exact this d
theorem over_ge (x : Lf) (l : List Rc) : x.d.length ≤ (overL x l).d.length := by
  induction l generalizing x with
  | nil => exact Nat.le_refl _
  | cons r l ih =>
    have h1 := ih (stepL x r)
    have h2 : x.d.length ≤ (stepL x r).d.length := by
      simp only [stepL]
      split
      · exact soil_ge _ _ _
      · exact Nat.le_refl _
    exact Nat.le_trans h2 h1
theorem allX_take_le {l : List Rc} (h : logB l = true) (q : Nat) : (allX (l.take q)).d.length ≤ (allX l).d.length := by
  rw [allX_log h, allX_log (logB_take h q)]
  have := over_ge (overL Lf.nil (l.take q)) (l.drop q)
  rw [← overL_app, List.take_append_drop] at this
  exact this
theorem drop_ris {l : List Rc} (h : logB l = true) (q : Nat) : risB (l.drop q) = true := (risB_iff _).2 (ris_pair.2 ((ris_pair.1 (log_down h).2).sublist (List.drop_sublist _ _)))
theorem SlR.dropA {w : World} {y : Addr} {l : List Rc} (h : SlR w (some y) l) (q : Nat) : SlR w (some (y.add (q * 12))) (l.drop q) := by
  by_cases hq : q < l.length
  · obtain ⟨b, o, e, _⟩ := h.there (by omega)
    injection e with e
    subst e
    rw [add_plain]
    exact h.drop' q
  · rw [List.drop_eq_nil_of_le (by omega)]
    exact ⟨fun _ => rfl, fun y hy i r hr => by simp at hr⟩
end Go.Proofs.Yticnkppnpfgceaa.Mg

namespace Go.Proofs.Yticnkppnpfgceaa.Mg
open Go.RowKit

set_option maxRecDepth 100000 in
set_option maxHeartbeats 8000000 in
theorem bits_walk (a : Option Addr) (c : Nat) (l : List Rc) (x : Int) (w : World) (hL : SlR w a l) (hl : l.length ≤ 140737488355328) (hnil : a = none → c = 0) (hcap : l.length ≤ c) (hW : ∀ r, r ∈ l → Wd r) :
    Calls Try.prog 8 #[.slice a l.length c, .int .i64 x] w fun e w' => e = .returned (.bool true) ∧ Below w.heap.size w w' := by
  obtain ⟨i0, hi0, hz0, hz1, hz2⟩ := info_parts Try.info50
  have HS := toHid (small9 a c l w hL hl hW)
  have HL := toHid hL
  have HNil := toHid hnil
  clear hL hW hnil
  go_enter Try.func8, Try.ntmps8
  go_wp2_with fail
  refine Calls.mono HS.out ?_
  rintro e w1 ⟨b, rfl, hb, n, rfl⟩
  have HB1 := toHid (below_drew (w := w) n)
  clear HS
  cases b
  · clear hb
    have HV := toHid (lives10 (w.drewN n))
    go_wp2_with fail
    refine Calls.mono HV.out ?_
    rintro e w2 ⟨rfl, hb2⟩
    go_wp2
    go_ret
    exact ⟨rfl, HB1.out.trans hb2⟩
  obtain ⟨hl3, hlim⟩ := lim_tot (hb rfl)
  have HLim := toHid hlim
  clear hb hlim
  generalize w.drewN n = w1 at *
  have hC := check17 a c l w w1 HL.out HB1.out (by omega) HLim.out
  cases he : logB l
  · rw [he] at hC
    have HC := toHid hC
    have g0 : ((argE false : Int) != 0) = true := by decide
    clear hC
    go_wp2_with fail
    refine Calls.mono HC.out ?_
    rintro e w2 ⟨rfl, hb2⟩
    have HB2 := toHid (HB1.out.trans (hb2.mono HB1.out.size))
    have HV := toHid (lives10 w2)
    clear hb2
    go_wp2_with fail
    refine Calls.mono HV.out ?_
    rintro e w3 ⟨rfl, hb3⟩
    go_wp2
    go_ret
    exact ⟨rfl, HB2.out.trans (hb3.mono HB2.out.size)⟩
  rw [he] at hC
  have HC := toHid hC
  have g0 : ((argE true : Int) != 0) = false := by decide
  have HE := toHid he
  clear hC he
  go_wp2_with fail
  refine Calls.mono HC.out ?_
  rintro e w2 ⟨rfl, hb2⟩
  have HB2 := toHid (HB1.out.trans (hb2.mono HB1.out.size))
  clear hb2 HC HB1
  go_wp2_with fail
  go_loopw [5, 6] (fun v k W => ∃ i pa pc, ∃ out : List Rc, i ≤ l.length ∧ k = .int .i64 ((i : Nat) : Int) ∧ v = .slice pa out.length pc ∧ out = plainL (l.take i) ∧ ShOk w W w2.heap.size (.slice pa out.length pc) out ∧ Below w2.heap.size w2 W) (fun _ k _ => l.length - (intOf k).toNat)
  case atStart => exact ⟨0, none, 0, [], Nat.zero_le _, rfl, rfl, by simp [plainL], ShOk.nil _ _ _, Below.refl _ _⟩
  case round =>
    obtain ⟨i, pa, pc, out, hi, rfl, rfl, ho, hsh, hbw⟩ := hrel
    have hol : out.length ≤ 300 := by rw [ho]; have := plain_len (l.take i); simp at this; omega
    have HO := toHid ho
    have HSh := toHid hsh
    have HBw := toHid hbw
    clear ho hsh hbw
    by_cases hlt : i < l.length
    · obtain ⟨b, o, rfl, hbl⟩ := HL.out.there (by omega)
      obtain ⟨p, h12, hri⟩ := HL.out.get i hlt
      have HRI := toHid hri
      obtain ⟨d0, d1, d2, d3, d4, d5, d6, d7, d8, d9, d10, d11⟩ := h12.stay ((HBw.out.block _ (Nat.lt_of_lt_of_le hbl HB2.out.size)).trans (HB2.out.block _ hbl))
      have hi1 : (i : Int) < (l.length : Int) := by omega
      have hi2 : 0 ≤ (i : Int) := by omega
      have hPT := plain_take hlt
      obtain ⟨r, hr⟩ : ∃ r, l[i] = r := ⟨_, rfl⟩
      rw [hr] at HRI d0 d1 d2 d3 d4 d5 d6 d7 d8 d9 d10 d11 hPT
      rw [← HO.out] at hPT
      clear h12 hri hr
      by_cases k8 : r.kind = 8
      · have q8 : (r.kind != 8) = false := by simp [k8]
        rw [if_neg (by simp [k8]), List.append_nil] at hPT
        have HPT := toHid hPT
        clear hPT k8
        go_wp2_with fail
        go_roundw
        case rel => exact ⟨i + 1, _, _, out, by omega, by go_num, rfl, HPT.out.symm, HSh.out, HBw.out⟩
        case measure => simp [intOf]; omega
      · have q8 : (r.kind != 8) = true := by simp [k8]
        rw [if_pos k8] at hPT
        have HPT := toHid hPT
        clear hPT k8
        obtain ⟨qs, hq1, hq2, hq3⟩ := HSh.out
        have HQ1 := toHid hq1
        have HQ3 := toHid hq3
        have HRo := toHid (World.ownsRow.alloc hq2 (.cells (recC r p) 50))
        have HNw := toHid (news_rec wr r p)
        have hwz := HBw.out.size
        clear hq1 hq2 hq3
        go_wp2_with (first | (refine wpList_build50 rfl (.tmp 42) rfl r p rfl ?_) | (at_builtin; go_must (refine wpList_append_fresh _ rfl _ _ 22 rfl w2.heap.size 50 i0 _ 12 152 Try.underlying22 hi0 hz0 hz1 hz2 rfl (by decide) _ out.length _ rfl HRo.out ⟨wr.heap.size, 0, none⟩ 1 1 (recL r p) rfl rfl HNw.out (recL_one r p) (by unfold maxLen; omega) (by omega) (by simp; omega) ?_; intro v5 y1 hown hgrow hfr; obtain ⟨a5, c5, rfl⟩ := ownsRow_shape hown; have HOW := toHid hown; have HGW := toHid hgrow; clear hown hgrow hfr)))
        have HAl := toHid (ShOk.add (r := r) (p := p) ⟨qs, HQ1.out, HOW.out, HQ3.out⟩ HRI.out)
        have HBy := toHid (show Below w2.heap.size w2 y1 from row_low (HBw.out.alloc hwz (.cells (recC r p) 50)) (by simp; omega) HRo.out HGW.out)
        clear HNw HRo HQ1 HQ3 HOW HGW
        go_roundw
        case rel => exact ⟨i + 1, a5, c5, out ++ [r], by omega, by go_num, by rw [List.length_append]; rfl, HPT.out.symm, by rw [List.length_append]; exact HAl.out, HBy.out⟩
        case measure => simp [intOf]; omega
    · obtain rfl : i = l.length := by omega
      rw [List.take_length] at HO
      obtain rfl := HO.out
      have hpl := plain_len l
      have hcp := HSh.out.cap
      have HBwr := toHid (HB2.out.trans (HBw.out.mono HB2.out.size))
      have HPl := toHid (HSh.out.slR HBwr.out)
      have HPm := toHid (show ∀ r, r ∈ plainL l → Lim r from fun r hr => HLim.out r ((plain_sub l).subset hr))
      have HA1 := toHid (all12 pa pc (plainL l) wr wr HPl.out (Below.refl _ _) (by omega) HPm.out)
      rw [plain_log HE.out, allX_plain HE.out] at HA1
      obtain ⟨hl5, hl6⟩ := allX_len l
      have hmono := allX_take_le HE.out
      have HMono := toHid hmono
      clear hlt hi HSh HO hmono hol
      obtain ⟨X, hX⟩ : ∃ X, allX l = X := ⟨_, rfl⟩
      have HXe := toHid hX
      rw [hX] at HA1 hl5 hl6 HMono
      go_wp2_with fail
      refine Calls.mono HA1.out ?_
      rintro e w3 ⟨vt, vn, vd, rfl, hR, hb3⟩
      obtain ⟨ta, tc, rfl⟩ := ownsRow_shape2 hR.t
      obtain ⟨na, nc, rfl⟩ := ownsRow_shape2 hR.n
      obtain ⟨da, dc, rfl⟩ := ownsRow_shape2 hR.d
      obtain ⟨W4, hW4⟩ : ∃ W4, W4 = w3.alloc (.cells #[.slice ta X.t.length tc, .slice na X.t.length nc, .slice da X.d.length dc, .int .u64 (redoL X.d : Int)] 32) := ⟨_, rfl⟩
      have hb4 : Below w3.heap.size w3 W4 := hW4 ▸ (Below.refl _ _).alloc (Nat.le_refl _) _
      have HR4 := toHid ((hR.base (Nat.zero_le _)).below hb4)
      have HX4 := toHid (show W4.heap[w3.heap.size]? = some (.cells #[.slice ta X.t.length tc, .slice na X.t.length nc, .slice da X.d.length dc, .int .u64 (redoL X.d : Int)] 32) from hW4 ▸ heap_alloc_new _ _)
      have HM4 := toHid (show Below wr.heap.size wr W4 from hb3.trans (hb4.mono hb3.size))
      have HW4 := toHid hW4
      have HA2 := toHid (short14 pa pc (plainL l) wr W4 HPl.out HM4.out (by omega) HPm.out hcp)
      rw [plain_log HE.out, shortX_plain HE.out, HXe.out] at HA2
      clear hR hb3 hb4 hW4 HA1
      go_wp2_with fail
      rw [← HW4.out]
      clear HW4
      refine Calls.mono HA2.out ?_
      rintro e w5 ⟨vt, vn, vd, rfl, hR, hb5⟩
      obtain ⟨ua, uc, rfl⟩ := ownsRow_shape2 hR.t
      obtain ⟨oa, oc, rfl⟩ := ownsRow_shape2 hR.n
      obtain ⟨ea, ec, rfl⟩ := ownsRow_shape2 hR.d
      obtain ⟨W6, hW6⟩ : ∃ W6, W6 = w5.alloc (.cells #[.slice ua X.t.length uc, .slice oa X.t.length oc, .slice ea X.d.length ec, .int .u64 (redoL X.d : Int)] 32) := ⟨_, rfl⟩
      have hb6 : Below w5.heap.size w5 W6 := hW6 ▸ (Below.refl _ _).alloc (Nat.le_refl _) _
      have hb46 : Below W4.heap.size W4 W6 := hb5.trans (hb6.mono hb5.size)
      have HR6 := toHid ((hR.base (Nat.zero_le _)).below hb6)
      have HX6 := toHid (show W6.heap[w5.heap.size]? = some (.cells #[.slice ua X.t.length uc, .slice oa X.t.length oc, .slice ea X.d.length ec, .int .u64 (redoL X.d : Int)] 32) from hW6 ▸ heap_alloc_new _ _)
      have HR46 := toHid (HR4.out.below hb46)
      have HX46 := toHid ((hb46.block _ (some_lt HX4.out)).trans HX4.out)
      have HM6 := toHid (HM4.out.trans (hb46.mono HM4.out.size))
      have HW6 := toHid hW6
      have HA3 := toHid (all12 a c l w W6 HL.out (HBwr.out.trans (HM6.out.mono HBwr.out.size)) (by omega) HLim.out)
      rw [HE.out, HXe.out] at HA3
      clear hR hb5 hb6 hb46 hW6 HA2 HR4 HX4 HM4
      go_wp2_with fail
      rw [← HW6.out]
      clear HW6
      refine Calls.mono HA3.out ?_
      rintro e w7 ⟨vt, vn, vd, rfl, hR, hb7⟩
      obtain ⟨za, zc, rfl⟩ := ownsRow_shape2 hR.t
      obtain ⟨ya, yc, rfl⟩ := ownsRow_shape2 hR.n
      obtain ⟨xa, xc, rfl⟩ := ownsRow_shape2 hR.d
      obtain ⟨V, hV⟩ : ∃ V, V = w7.alloc (.cells #[.slice za X.t.length zc, .slice ya X.t.length yc, .slice xa X.d.length xc, .int .u64 (redoL X.d : Int)] 32) := ⟨_, rfl⟩
      have hb8 : Below w7.heap.size w7 V := hV ▸ (Below.refl _ _).alloc (Nat.le_refl _) _
      have hb68 : Below W6.heap.size W6 V := hb7.trans (hb8.mono hb7.size)
      have HRz := toHid ((hR.base (Nat.zero_le _)).below hb8)
      have HXz := toHid (show V.heap[w7.heap.size]? = some (.cells #[.slice za X.t.length zc, .slice ya X.t.length yc, .slice xa X.d.length xc, .int .u64 (redoL X.d : Int)] 32) from hV ▸ heap_alloc_new _ _)
      have HRy := toHid (HR6.out.below hb68)
      have HXy := toHid ((hb68.block _ (some_lt HX6.out)).trans HX6.out)
      have HRx := toHid (HR46.out.below hb68)
      have HXx := toHid ((hb68.block _ (some_lt HX46.out)).trans HX46.out)
      have HMV := toHid (HM6.out.trans (hb68.mono HM6.out.size))
      have HV := toHid hV
      have HBV := toHid (show ∀ W, Below V.heap.size V W → Below w.heap.size w W from fun W hb => HBwr.out.trans ((HMV.out.trans (hb.mono HMV.out.size)).mono HBwr.out.size))
      have HC1 := toHid (fun W (hb : Below V.heap.size V W) => same22 X.t (HRx.out.below hb).t (HRy.out.below hb).t (by omega))
      have HC2 := toHid (fun W (hb : Below V.heap.size V W) => same22 X.t (HRx.out.below hb).t (HRz.out.below hb).t (by omega))
      have HC3 := toHid (fun W (hb : Below V.heap.size V W) => same23 X.t (HRx.out.below hb).n (HRy.out.below hb).n (by omega))
      have HC4 := toHid (fun W (hb : Below V.heap.size V W) => same24 X.d (HRx.out.below hb).d (HRz.out.below hb).d (by omega))
      have HCl := toHid (show ∀ W, Below V.heap.size V W → (W.heap[w3.heap.size]? = some (.cells #[.slice ta X.t.length tc, .slice na X.t.length nc, .slice da X.d.length dc, .int .u64 (redoL X.d : Int)] 32)) ∧ (W.heap[w5.heap.size]? = some (.cells #[.slice ua X.t.length uc, .slice oa X.t.length oc, .slice ea X.d.length ec, .int .u64 (redoL X.d : Int)] 32)) ∧ W.heap[w7.heap.size]? = some (.cells #[.slice za X.t.length zc, .slice ya X.t.length yc, .slice xa X.d.length xc, .int .u64 (redoL X.d : Int)] 32) from fun W hb => ⟨(hb.block _ (some_lt HXx.out)).trans HXx.out, (hb.block _ (some_lt HXy.out)).trans HXy.out, (hb.block _ (some_lt HXz.out)).trans HXz.out⟩)
      clear hR hb7 hb8 hb68 hV HA3 HR6 HX6 HR46 HX46 HM6
      go_upto_region 12 with fail
      rw [← HV.out]
      clear HV
      obtain ⟨f0, f1, f2⟩ := HCl.out V (Below.refl _ _)
      obtain ⟨x0, x1, x2, x3, _, _, _, _⟩ := cellsF f0
      obtain ⟨y0, y1, y2, y3, _, _, _, _⟩ := cellsF f1
      obtain ⟨z0, z1, z2, z3, _, _, _, _⟩ := cellsF f2
      clear f0 f1 f2
      go_wp2_with fail
      refine Calls.mono (HC1.out V (Below.refl _ _)) ?_
      rintro e v1 ⟨rfl, hv1⟩
      obtain ⟨f0, f1, f2⟩ := HCl.out v1 hv1
      obtain ⟨x0, x1, x2, x3, _, _, _, _⟩ := cellsF f0
      obtain ⟨y0, y1, y2, y3, _, _, _, _⟩ := cellsF f1
      obtain ⟨z0, z1, z2, z3, _, _, _, _⟩ := cellsF f2
      clear f0 f1 f2
      have HV1 := toHid hv1
      clear hv1
      go_wp2_with fail
      refine Calls.mono (HC2.out v1 HV1.out) ?_
      rintro e v2 ⟨rfl, hv⟩
      have hv2 := HV1.out.trans (hv.mono HV1.out.size)
      obtain ⟨f0, f1, f2⟩ := HCl.out v2 hv2
      obtain ⟨x0, x1, x2, x3, _, _, _, _⟩ := cellsF f0
      obtain ⟨y0, y1, y2, y3, _, _, _, _⟩ := cellsF f1
      obtain ⟨z0, z1, z2, z3, _, _, _, _⟩ := cellsF f2
      clear f0 f1 f2
      have HV2 := toHid hv2
      clear hv2 hv
      go_wp2_with fail
      refine Calls.mono (HC3.out v2 HV2.out) ?_
      rintro e v3 ⟨rfl, hv⟩
      have hv3 := HV2.out.trans (hv.mono HV2.out.size)
      obtain ⟨f0, f1, f2⟩ := HCl.out v3 hv3
      obtain ⟨x0, x1, x2, x3, _, _, _, _⟩ := cellsF f0
      obtain ⟨y0, y1, y2, y3, _, _, _, _⟩ := cellsF f1
      obtain ⟨z0, z1, z2, z3, _, _, _, _⟩ := cellsF f2
      clear f0 f1 f2
      have HV3 := toHid hv3
      clear hv3 hv
      go_wp2_with fail
      refine Calls.mono (HC4.out v3 HV3.out) ?_
      rintro e v4 ⟨rfl, hv⟩
      have hv4 := HV3.out.trans (hv.mono HV3.out.size)
      have HV4 := toHid hv4
      clear hv4 hv x0 x1 x2 x3 y0 y1 y2 y3 z0 z1 z2 z3 HC1 HC2 HC3 HC4 HV1 HV2 HV3
      go_upto_region 14 with fail
      go_cut [109] (fun v W => v = .bool (decide (x < 0 ∨ (l.length : Int) < x)) ∧ W = v4)
      case first =>
        by_cases g1 : x < 0
        · have g2 : decide (x < 0) = true := by simp [g1]
          go_wp2
          go_meet
          case rel => exact ⟨by simp [g1], rfl⟩
        · have g2 : decide (x < 0) = false := by simp [g1]
          by_cases g3 : (l.length : Int) < x
          · go_wp2
            go_meet
            case rel => exact ⟨by simp [g3], rfl⟩
          · go_wp2
            go_meet
            case rel => exact ⟨by simp [g1, g3], rfl⟩
      case rest =>
      obtain ⟨rfl, rfl⟩ := hcut
      obtain ⟨bb, hbb⟩ : ∃ bb, decide (x < 0 ∨ (l.length : Int) < x) = bb := ⟨_, rfl⟩
      rw [hbb]
      have HBb := toHid hbb
      clear hbb
      go_upto_if 109 with fail
      go_cut [1] (fun v W => ∃ q : Nat, q ≤ l.length ∧ v = .int .i64 q ∧ W = wc)
      case first =>
        cases bb
        · have hx := HBb.out
          simp only [decide_eq_false_iff_not, not_or] at hx
          have HXn := toHid (show (x : Int) = ((x.toNat : Nat) : Int) from by omega)
          have hxl : x.toNat ≤ l.length := by omega
          clear hx
          go_wp2
          go_meet
          case rel => exact ⟨x.toNat, hxl, by rw [← HXn.out], rfl⟩
        · go_wp2
          go_meet
          case rel => exact ⟨0, Nat.zero_le _, rfl, rfl⟩
      case rest =>
        obtain ⟨q, hq, rfl, hwc⟩ := hcut
        subst hwc
        generalize wc = U0 at *
        have hqi : (q : Int) ≤ (l.length : Int) := by omega
        have hqc : (q : Int) ≤ (c : Int) := by omega
        have hq0 : 0 ≤ (q : Int) := by omega
        have hqn : q ≤ c := by omega
        have HTk := toHid (show (l.take q).length = q by simp; omega)
        have HU := toHid (show Below w.heap.size w U0 from HBV.out _ HV4.out)
        have HA5 := all12 a c (l.take q) w U0 (HL.out.take' q) HU.out (by rw [HTk.out]; omega) (fun r hr => HLim.out r (List.mem_of_mem_take hr))
        rw [HTk.out, logB_take HE.out] at HA5
        have HA5 := toHid HA5
        have HMq := toHid (HMono.out q)
        have HXq := toHid (allX_log (logB_take HE.out q))
        have hYl := allX_len (l.take q)
        rw [HTk.out] at hYl
        obtain ⟨hY1, hY2⟩ := hYl
        have hYok : (allX (l.take q)).Ok := by rw [HXq.out]; exact Lf.Ok.nil.over _
        obtain ⟨Y, hY⟩ : ∃ Y, allX (l.take q) = Y := ⟨_, rfl⟩
        rw [hY] at HA5 HMq HXq hY1 hY2 hYok
        have HRi := toHid (drop_ris HE.out q)
        clear hY
        cases a with
        | none => as_aux_lemma =>
          go_wp2_with fail
          refine Calls.mono HA5.out ?_
          rintro e w9 ⟨vt, vn, vd, rfl, hR, hb9⟩
          obtain ⟨pa2, pc2, rfl⟩ := ownsRow_shape2 hR.t
          obtain ⟨qa2, qc2, rfl⟩ := ownsRow_shape2 hR.n
          obtain ⟨ra2, rc2, rfl⟩ := ownsRow_shape2 hR.d
          obtain ⟨U1, hU1⟩ : ∃ U1, U1 = w9.alloc (.cells #[.slice pa2 Y.t.length pc2, .slice qa2 Y.t.length qc2, .slice ra2 Y.d.length rc2, .int .u64 (redoL Y.d : Int)] 32) := ⟨_, rfl⟩
          have hb10 : Below w9.heap.size w9 U1 := hU1 ▸ (Below.refl _ _).alloc (Nat.le_refl _) _
          have HR10 := toHid ((hR.base (Nat.zero_le _)).below hb10)
          have hx10 : U1.heap[w9.heap.size]? = some (.cells #[.slice pa2 Y.t.length pc2, .slice qa2 Y.t.length qc2, .slice ra2 Y.d.length rc2, .int .u64 (redoL Y.d : Int)] 32) := hU1 ▸ heap_alloc_new _ _
          have HM10 := toHid (HV4.out.trans ((hb9.trans (hb10.mono hb9.size)).mono HV4.out.size))
          have HW10 := toHid hU1
          obtain ⟨f0, f1, f2⟩ := HCl.out U1 HM10.out
          obtain ⟨z0, z1, z2, z3, _, _, _, _⟩ := cellsF f2
          obtain ⟨x0, x1, x2, x3, _, _, _, _⟩ := cellsF hx10
          have HX10 := toHid hx10
          have hm1 : ¬ (X.d.length : Int) < (Y.d.length : Int) := by have := HMq.out; omega
          have hm2 : (Y.d.length : Int) ≤ (X.d.length : Int) := by have := HMq.out; omega
          have hm3 : decide (X.d.length < Y.d.length) = false := by have := HMq.out; simp; omega
          clear f0 f1 f2 hR hb9 hb10 hU1 hx10 HA5
          go_upto_region 17 with fail
          rw [← HW10.out]
          clear HW10
          have hl0 : l = [] := HL.out.nonil rfl
          have hc0 : c = q := by have := HNil.out; simp at this; omega
          have HRs := toHid (rises13 none 0 [] U1 ⟨fun _ => rfl, fun y hy => by cases hy⟩ (by simp))
          rw [List.length_nil, show risB [] = true from rfl] at HRs
          have HC0 := toHid hc0
          clear hl0
          subst hc0
          go_wp2_with fail
          refine Calls.mono HRs.out ?_
          rintro e w11 ⟨rfl, n11, rfl⟩
          clear HRs x0 x1 x2 x3 z0 z1 z2 z3
          have hb11 := (below_drewN1 U1 n11)
          have HM11 := toHid (HM10.out.trans (hb11.mono HM10.out.size))
          have HR11 := toHid (HR10.out.below hb11)
          have hx11 := (hb11.block _ (some_lt HX10.out)).trans HX10.out
          obtain ⟨x0, x1, x2, x3, _, _, _, _⟩ := cellsF hx11
          generalize U1.drewN n11 = U2 at *
          clear hb11
          obtain ⟨U3, hU3⟩ : ∃ U3, U3 = U2.alloc (.cells (rfC (.slice pa2 Y.t.length pc2) (.slice qa2 Y.t.length qc2) (.slice ra2 Y.d.length rc2)) 37) := ⟨_, rfl⟩
          have hb12 : Below U2.heap.size U2 U3 := hU3 ▸ (Below.refl _ _).alloc (Nat.le_refl _) _
          have HM12 := toHid (HM11.out.trans (hb12.mono HM11.out.size))
          have HR12 := toHid (HR11.out.below hb12)
          have HX12 := toHid (show U3.heap[U2.heap.size]? = some (.cells (rfC (.slice pa2 Y.t.length pc2) (.slice qa2 Y.t.length qc2) (.slice ra2 Y.d.length rc2)) 37) from hU3 ▸ heap_alloc_new _ _)
          have hMz := HM11.out.size
          have HW12 := toHid hU3
          clear hU3 hb12 hx11
          go_upto_region 20 with fail
          rw [← HW12.out]
          clear HW12
          go_wp2_with fail
          go_loopw [16] (fun k W => ∃ i vt vn vd, i ≤ l.length ∧ c ≤ i ∧ k = .int .i64 ((i : Nat) : Int) ∧ W.heap[U2.heap.size]? = some (.cells (rfC vt vn vd) 37) ∧ LfR W 0 vt vn vd (overL Lf.nil (l.take i)) ∧ Below V.heap.size V W) (fun k _ => l.length - (intOf k).toNat)
          case atStart => exact ⟨c, _, _, _, hq, Nat.le_refl _, rfl, HX12.out, by rw [← HXq.out]; exact HR12.out, HM12.out⟩
          case round =>
            obtain ⟨i, vt, vn, vd, hi, hqi2, rfl, hxw, hrw, hbw⟩ := hrel
            have HXw := toHid hxw
            have HRw := toHid hrw
            have HBw := toHid hbw
            obtain ⟨pt, qt, rfl⟩ := ownsRow_shape2 hrw.t
            obtain ⟨pn, qn, rfl⟩ := ownsRow_shape2 hrw.n
            obtain ⟨pd, qd, rfl⟩ := ownsRow_shape2 hrw.d
            obtain ⟨x0, x1, x2, xf0, xf1, xf2⟩ := cellsT hxw
            clear hxw hrw hbw HX12 HR12 HM12
            by_cases hlt : i < l.length
            · exact absurd hlt (by omega)
            · obtain rfl : i = l.length := by omega
              rw [List.take_length, ← allX_log HE.out, HXe.out] at HRw x0 x1 x2
              have HRzz := toHid (fun W (hb : Below V.heap.size V W) => HRz.out.below hb)
              have HD1 := toHid (same22 X.t (HRzz.out _ HBw.out).t HRw.out.t (by omega))
              have HD2 := toHid (fun W (hb : Below wr.heap.size wr W) => same23 X.t (HRzz.out _ (HBw.out.trans (hb.mono HBw.out.size))).n (HRw.out.below hb).n (by omega))
              have HD3 := toHid (fun W (hb : Below wr.heap.size wr W) => same24 X.d (HRzz.out _ (HBw.out.trans (hb.mono HBw.out.size))).d (HRw.out.below hb).d (by omega))
              have hXs := some_lt HXw.out
              obtain ⟨f0, f1, f2⟩ := HCl.out wr HBw.out
              obtain ⟨z0, z1, z2, z3, _, _, _, _⟩ := cellsF f2
              rw [List.take_length, ← allX_log HE.out, HXe.out] at HXw
              clear f0 f1 f2
              go_wp2_with fail
              refine Calls.mono HD1.out ?_
              rintro e u1 ⟨rfl, hu1⟩
              obtain ⟨f0, f1, f2⟩ := HCl.out u1 (HBw.out.trans (hu1.mono HBw.out.size))
              obtain ⟨z0, z1, z2, z3, _, _, _, _⟩ := cellsF f2
              have hx1 := (hu1.block _ hXs).trans HXw.out
              clear x0 x1 x2 xf0 xf1 xf2
              obtain ⟨x0, x1, x2⟩ := cells3f hx1
              have HU1 := toHid hu1
              clear f0 f1 f2 hu1 hx1
              go_wp2_with fail
              refine Calls.mono (HD2.out _ HU1.out) ?_
              rintro e u2 ⟨rfl, hu⟩
              have hu2 := HU1.out.trans (hu.mono HU1.out.size)
              clear z0 z1 z2 z3 x0 x1 x2
              obtain ⟨f0, f1, f2⟩ := HCl.out u2 (HBw.out.trans (hu2.mono HBw.out.size))
              obtain ⟨z0, z1, z2, z3, _, _, _, _⟩ := cellsF f2
              have hx1 := (hu2.block _ hXs).trans HXw.out
              obtain ⟨x0, x1, x2⟩ := cells3f hx1
              have HU2 := toHid hu2
              clear f0 f1 f2 hu2 hx1 hu
              go_wp2_with fail
              refine Calls.mono (HD3.out _ HU2.out) ?_
              rintro e u3 ⟨rfl, hu⟩
              have HU3 := toHid (HU2.out.trans (hu.mono HU2.out.size))
              have HLv := toHid (lives10 u3)
              clear hu
              go_wp2_with fail
              refine Calls.mono HLv.out ?_
              rintro e u4 ⟨rfl, hu⟩
              have HU4 := toHid (HU3.out.trans (hu.mono HU3.out.size))
              clear hu
              go_wp2
              go_ret
              exact ⟨rfl, HBV.out _ (HBw.out.trans (HU4.out.mono HBw.out.size))⟩
        | some y => as_aux_lemma =>
          go_wp2_with fail
          refine Calls.mono HA5.out ?_
          rintro e w9 ⟨vt, vn, vd, rfl, hR, hb9⟩
          obtain ⟨pa2, pc2, rfl⟩ := ownsRow_shape2 hR.t
          obtain ⟨qa2, qc2, rfl⟩ := ownsRow_shape2 hR.n
          obtain ⟨ra2, rc2, rfl⟩ := ownsRow_shape2 hR.d
          obtain ⟨U1, hU1⟩ : ∃ U1, U1 = w9.alloc (.cells #[.slice pa2 Y.t.length pc2, .slice qa2 Y.t.length qc2, .slice ra2 Y.d.length rc2, .int .u64 (redoL Y.d : Int)] 32) := ⟨_, rfl⟩
          have hb10 : Below w9.heap.size w9 U1 := hU1 ▸ (Below.refl _ _).alloc (Nat.le_refl _) _
          have HR10 := toHid ((hR.base (Nat.zero_le _)).below hb10)
          have hx10 : U1.heap[w9.heap.size]? = some (.cells #[.slice pa2 Y.t.length pc2, .slice qa2 Y.t.length qc2, .slice ra2 Y.d.length rc2, .int .u64 (redoL Y.d : Int)] 32) := hU1 ▸ heap_alloc_new _ _
          have HM10 := toHid (HV4.out.trans ((hb9.trans (hb10.mono hb9.size)).mono HV4.out.size))
          have HW10 := toHid hU1
          obtain ⟨f0, f1, f2⟩ := HCl.out U1 HM10.out
          obtain ⟨z0, z1, z2, z3, _, _, _, _⟩ := cellsF f2
          obtain ⟨x0, x1, x2, x3, _, _, _, _⟩ := cellsF hx10
          have HX10 := toHid hx10
          have hm1 : ¬ (X.d.length : Int) < (Y.d.length : Int) := by have := HMq.out; omega
          have hm2 : (Y.d.length : Int) ≤ (X.d.length : Int) := by have := HMq.out; omega
          have hm3 : decide (X.d.length < Y.d.length) = false := by have := HMq.out; simp; omega
          clear f0 f1 f2 hR hb9 hb10 hU1 hx10 HA5
          go_upto_region 17 with fail
          rw [← HW10.out]
          clear HW10
          by_cases hcq : c = q
          · have hdl : l.drop q = [] := List.drop_eq_nil_of_le (by omega)
            have HRs := toHid (rises13 (some y) 0 [] U1 ⟨fun _ => rfl, fun y hy i r hr => by simp at hr⟩ (by simp))
            rw [List.length_nil, show risB [] = true from rfl] at HRs
            clear hdl
            subst hcq
            go_wp2_with fail
            refine Calls.mono HRs.out ?_
            rintro e w11 ⟨rfl, n11, rfl⟩
            clear HRs x0 x1 x2 x3 z0 z1 z2 z3
            have hb11 := (below_drewN1 U1 n11)
            have HM11 := toHid (HM10.out.trans (hb11.mono HM10.out.size))
            have HR11 := toHid (HR10.out.below hb11)
            have hx11 := (hb11.block _ (some_lt HX10.out)).trans HX10.out
            obtain ⟨x0, x1, x2, x3, _, _, _, _⟩ := cellsF hx11
            generalize U1.drewN n11 = U2 at *
            clear hb11
            obtain ⟨U3, hU3⟩ : ∃ U3, U3 = U2.alloc (.cells (rfC (.slice pa2 Y.t.length pc2) (.slice qa2 Y.t.length qc2) (.slice ra2 Y.d.length rc2)) 37) := ⟨_, rfl⟩
            have hb12 : Below U2.heap.size U2 U3 := hU3 ▸ (Below.refl _ _).alloc (Nat.le_refl _) _
            have HM12 := toHid (HM11.out.trans (hb12.mono HM11.out.size))
            have HR12 := toHid (HR11.out.below hb12)
            have HX12 := toHid (show U3.heap[U2.heap.size]? = some (.cells (rfC (.slice pa2 Y.t.length pc2) (.slice qa2 Y.t.length qc2) (.slice ra2 Y.d.length rc2)) 37) from hU3 ▸ heap_alloc_new _ _)
            have hMz := HM11.out.size
            have HW12 := toHid hU3
            clear hU3 hb12 hx11
            go_upto_region 20 with fail
            rw [← HW12.out]
            clear HW12
            go_wp2_with fail
            go_loopw [16] (fun k W => ∃ i vt vn vd, i ≤ l.length ∧ c ≤ i ∧ k = .int .i64 ((i : Nat) : Int) ∧ W.heap[U2.heap.size]? = some (.cells (rfC vt vn vd) 37) ∧ LfR W 0 vt vn vd (overL Lf.nil (l.take i)) ∧ Below V.heap.size V W) (fun k _ => l.length - (intOf k).toNat)
            case atStart => exact ⟨c, _, _, _, hq, Nat.le_refl _, rfl, HX12.out, by rw [← HXq.out]; exact HR12.out, HM12.out⟩
            case round =>
              obtain ⟨i, vt, vn, vd, hi, hqi2, rfl, hxw, hrw, hbw⟩ := hrel
              have HXw := toHid hxw
              have HRw := toHid hrw
              have HBw := toHid hbw
              obtain ⟨pt, qt, rfl⟩ := ownsRow_shape2 hrw.t
              obtain ⟨pn, qn, rfl⟩ := ownsRow_shape2 hrw.n
              obtain ⟨pd, qd, rfl⟩ := ownsRow_shape2 hrw.d
              obtain ⟨x0, x1, x2, xf0, xf1, xf2⟩ := cellsT hxw
              clear hxw hrw hbw HX12 HR12 HM12
              by_cases hlt : i < l.length
              · exact absurd hlt (by omega)
              · obtain rfl : i = l.length := by omega
                rw [List.take_length, ← allX_log HE.out, HXe.out] at HRw x0 x1 x2
                have HRzz := toHid (fun W (hb : Below V.heap.size V W) => HRz.out.below hb)
                have HD1 := toHid (same22 X.t (HRzz.out _ HBw.out).t HRw.out.t (by omega))
                have HD2 := toHid (fun W (hb : Below wr.heap.size wr W) => same23 X.t (HRzz.out _ (HBw.out.trans (hb.mono HBw.out.size))).n (HRw.out.below hb).n (by omega))
                have HD3 := toHid (fun W (hb : Below wr.heap.size wr W) => same24 X.d (HRzz.out _ (HBw.out.trans (hb.mono HBw.out.size))).d (HRw.out.below hb).d (by omega))
                have hXs := some_lt HXw.out
                obtain ⟨f0, f1, f2⟩ := HCl.out wr HBw.out
                obtain ⟨z0, z1, z2, z3, _, _, _, _⟩ := cellsF f2
                rw [List.take_length, ← allX_log HE.out, HXe.out] at HXw
                clear f0 f1 f2
                go_wp2_with fail
                refine Calls.mono HD1.out ?_
                rintro e u1 ⟨rfl, hu1⟩
                obtain ⟨f0, f1, f2⟩ := HCl.out u1 (HBw.out.trans (hu1.mono HBw.out.size))
                obtain ⟨z0, z1, z2, z3, _, _, _, _⟩ := cellsF f2
                have hx1 := (hu1.block _ hXs).trans HXw.out
                clear x0 x1 x2 xf0 xf1 xf2
                obtain ⟨x0, x1, x2⟩ := cells3f hx1
                have HU1 := toHid hu1
                clear f0 f1 f2 hu1 hx1
                go_wp2_with fail
                refine Calls.mono (HD2.out _ HU1.out) ?_
                rintro e u2 ⟨rfl, hu⟩
                have hu2 := HU1.out.trans (hu.mono HU1.out.size)
                clear z0 z1 z2 z3 x0 x1 x2
                obtain ⟨f0, f1, f2⟩ := HCl.out u2 (HBw.out.trans (hu2.mono HBw.out.size))
                obtain ⟨z0, z1, z2, z3, _, _, _, _⟩ := cellsF f2
                have hx1 := (hu2.block _ hXs).trans HXw.out
                obtain ⟨x0, x1, x2⟩ := cells3f hx1
                have HU2 := toHid hu2
                clear f0 f1 f2 hu2 hx1 hu
                go_wp2_with fail
                refine Calls.mono (HD3.out _ HU2.out) ?_
                rintro e u3 ⟨rfl, hu⟩
                have HU3 := toHid (HU2.out.trans (hu.mono HU2.out.size))
                have HLv := toHid (lives10 u3)
                clear hu
                go_wp2_with fail
                refine Calls.mono HLv.out ?_
                rintro e u4 ⟨rfl, hu⟩
                have HU4 := toHid (HU3.out.trans (hu.mono HU3.out.size))
                clear hu
                go_wp2
                go_ret
                exact ⟨rfl, HBV.out _ (HBw.out.trans (HU4.out.mono HBw.out.size))⟩
          · have HRs := toHid (rises13 (some (y.add (q * 12))) (c - q) (l.drop q) U1 ((HL.out.dropA q).below (HBV.out _ HM10.out)) (by simp; omega))
            rw [HRi.out, show (l.drop q).length = l.length - q by simp] at HRs
            go_wp2_with fail
            generalize y.add (q * 12) = yq at *
            refine Calls.mono HRs.out ?_
            rintro e w11 ⟨rfl, n11, rfl⟩
            clear HRs x0 x1 x2 x3 z0 z1 z2 z3
            have hb11 := (below_drewN1 U1 n11)
            have HM11 := toHid (HM10.out.trans (hb11.mono HM10.out.size))
            have HR11 := toHid (HR10.out.below hb11)
            have hx11 := (hb11.block _ (some_lt HX10.out)).trans HX10.out
            obtain ⟨x0, x1, x2, x3, _, _, _, _⟩ := cellsF hx11
            generalize U1.drewN n11 = U2 at *
            clear hb11
            obtain ⟨U3, hU3⟩ : ∃ U3, U3 = U2.alloc (.cells (rfC (.slice pa2 Y.t.length pc2) (.slice qa2 Y.t.length qc2) (.slice ra2 Y.d.length rc2)) 37) := ⟨_, rfl⟩
            have hb12 : Below U2.heap.size U2 U3 := hU3 ▸ (Below.refl _ _).alloc (Nat.le_refl _) _
            have HM12 := toHid (HM11.out.trans (hb12.mono HM11.out.size))
            have HR12 := toHid (HR11.out.below hb12)
            have HX12 := toHid (show U3.heap[U2.heap.size]? = some (.cells (rfC (.slice pa2 Y.t.length pc2) (.slice qa2 Y.t.length qc2) (.slice ra2 Y.d.length rc2)) 37) from hU3 ▸ heap_alloc_new _ _)
            have hMz := HM11.out.size
            have HW12 := toHid hU3
            clear hU3 hb12 hx11
            go_upto_region 20 with fail
            rw [← HW12.out]
            clear HW12
            go_wp2_with fail
            go_loopw [16] (fun k W => ∃ i vt vn vd, i ≤ l.length ∧ q ≤ i ∧ k = .int .i64 ((i : Nat) : Int) ∧ W.heap[U2.heap.size]? = some (.cells (rfC vt vn vd) 37) ∧ LfR W 0 vt vn vd (overL Lf.nil (l.take i)) ∧ Below V.heap.size V W) (fun k _ => l.length - (intOf k).toNat)
            case atStart => exact ⟨q, _, _, _, hq, Nat.le_refl _, rfl, HX12.out, by rw [← HXq.out]; exact HR12.out, HM12.out⟩
            case round =>
              obtain ⟨i, vt, vn, vd, hi, hqi2, rfl, hxw, hrw, hbw⟩ := hrel
              have HXw := toHid hxw
              have HRw := toHid hrw
              have HBw := toHid hbw
              obtain ⟨pt, qt, rfl⟩ := ownsRow_shape2 hrw.t
              obtain ⟨pn, qn, rfl⟩ := ownsRow_shape2 hrw.n
              obtain ⟨pd, qd, rfl⟩ := ownsRow_shape2 hrw.d
              obtain ⟨x0, x1, x2, xf0, xf1, xf2⟩ := cellsT hxw
              clear hxw hrw hbw HX12 HR12 HM12
              by_cases hlt : i < l.length
              · obtain ⟨b, o, hy, hbl⟩ := HL.out.there (by omega)
                injection hy with hy
                subst hy
                obtain ⟨p, h12, _⟩ := HL.out.get i hlt
                obtain ⟨d0, d1, d2, d3, d4, d5, d6, d7, d8, d9, d10, d11⟩ := h12.stay (((HBV.out _ HBw.out).block _ hbl))
                have hi1 : (i : Int) < (l.length : Int) := by omega
                have hi2 : 0 ≤ (i : Int) := by omega
                have HSt := toHid (show overL Lf.nil (l.take (i + 1)) = stepL (overL Lf.nil (l.take i)) l[i] by rw [List.take_succ_eq_append_getElem hlt, overL_snoc])
                have hln := over_len Lf.nil (l.take i)
                have hok := Lf.Ok.nil.over (l.take i)
                have hn1 : Lf.nil.t.length = 0 := rfl
                have hn2 : Lf.nil.d.length = 0 := rfl
                have hn3 : (l.take i).length ≤ i := List.length_take_le _ _
                have hX1 : (overL Lf.nil (l.take i)).t.length ≤ 1000 := by omega
                have hX2 : (overL Lf.nil (l.take i)).d.length ≤ 1000 := by omega
                obtain ⟨Z, hZ⟩ : ∃ Z, overL Lf.nil (l.take i) = Z := ⟨_, rfl⟩
                obtain ⟨r, hr⟩ : ∃ r, l[i] = r := ⟨_, rfl⟩
                rw [hZ] at HSt HRw HXw hok hX1 hX2 x0 x1 x2
                rw [hr] at HSt d0 d1 d2 d3 d4 d5 d6 d7 d8 d9 d10 d11
                have HSp := toHid (show ∀ W, Below wr.heap.size wr W → Calls Try.prog 26 #[.agg (rfC (.slice pt Z.t.length qt) (.slice pn Z.t.length qn) (.slice pd Z.d.length qd)), .agg (recC r p)] W fun e w' => ∃ vt' vn' vd', e = .returned (.agg (rfC vt' vn' vd')) ∧ LfR w' 0 vt' vn' vd' (stepL Z r) ∧ Below W.heap.size W w' from fun W hb => step26 (HRw.out.below hb) hok hX1 hX2 r p)
                clear h12 hZ hr hln hok hX1 hX2 hn1 hn2 hn3
                go_wp2_with fail
                refine wp_region_quiet_tail 5 Try.mixed (by kernel_rfl) ?_
                simp only [List.take_succ_cons, List.take_zero, List.drop_succ_cons, List.drop_zero]
                repeat (first | go_big_quiet_step (fail))
                refine wpQuiet_nil ?_
                go_wp2_with fail
                refine Calls.mono (HSp.out _ (Below.refl _ _).drew) ?_
                rintro e u2 ⟨vt, vn, vd, rfl, hr2, hu⟩
                have hb2 : Below wr.heap.size wr u2 := (Below.refl _ _).drew.trans hu
                obtain ⟨ea3, ec3, rfl⟩ := ownsRow_shape2 hr2.t
                obtain ⟨ga3, gc3, rfl⟩ := ownsRow_shape2 hr2.n
                obtain ⟨fa3, fc3, rfl⟩ := ownsRow_shape2 hr2.d
                have hx2 := (hb2.block _ (some_lt HXw.out)).trans HXw.out
                clear x0 x1 x2 xf0 xf1 xf2
                obtain ⟨x0, x1, x2, xf0, xf1, xf2⟩ := cellsT hx2
                have HB3 := toHid (HBw.out.trans (hb2.mono HBw.out.size))
                have HX2 := toHid hx2
                have HR2 := toHid hr2
                clear hr2 hb2 hx2 hu
                go_wp2_with fail
                go_roundw
                case rel =>
                  have HY2 := put3_same HX2.out (.slice ea3 (stepL Z r).t.length ec3) (.slice ga3 (stepL Z r).t.length gc3) (.slice fa3 (stepL Z r).d.length fc3)
                  have HZ2 := HR2.out.put37 HX2.out (.slice ea3 (stepL Z r).t.length ec3) (.slice ga3 (stepL Z r).t.length gc3) (.slice fa3 (stepL Z r).d.length fc3)
                  have HB4 := put3_below HB3.out hMz (.slice ea3 (stepL Z r).t.length ec3) (.slice ga3 (stepL Z r).t.length gc3) (.slice fa3 (stepL Z r).d.length fc3)
                  refine ⟨i + 1, .slice ea3 (stepL Z r).t.length ec3, .slice ga3 (stepL Z r).t.length gc3, .slice fa3 (stepL Z r).d.length fc3, by omega, by omega, by go_num, HY2, ?_, HB4⟩
                  rw [HSt.out]
                  exact HZ2
                case measure => simp [intOf]; omega
              · obtain rfl : i = l.length := by omega
                rw [List.take_length, ← allX_log HE.out, HXe.out] at HRw x0 x1 x2
                have HRzz := toHid (fun W (hb : Below V.heap.size V W) => HRz.out.below hb)
                have HD1 := toHid (same22 X.t (HRzz.out _ HBw.out).t HRw.out.t (by omega))
                have HD2 := toHid (fun W (hb : Below wr.heap.size wr W) => same23 X.t (HRzz.out _ (HBw.out.trans (hb.mono HBw.out.size))).n (HRw.out.below hb).n (by omega))
                have HD3 := toHid (fun W (hb : Below wr.heap.size wr W) => same24 X.d (HRzz.out _ (HBw.out.trans (hb.mono HBw.out.size))).d (HRw.out.below hb).d (by omega))
                have hXs := some_lt HXw.out
                obtain ⟨f0, f1, f2⟩ := HCl.out wr HBw.out
                obtain ⟨z0, z1, z2, z3, _, _, _, _⟩ := cellsF f2
                rw [List.take_length, ← allX_log HE.out, HXe.out] at HXw
                clear f0 f1 f2
                go_wp2_with fail
                refine Calls.mono HD1.out ?_
                rintro e u1 ⟨rfl, hu1⟩
                obtain ⟨f0, f1, f2⟩ := HCl.out u1 (HBw.out.trans (hu1.mono HBw.out.size))
                obtain ⟨z0, z1, z2, z3, _, _, _, _⟩ := cellsF f2
                have hx1 := (hu1.block _ hXs).trans HXw.out
                clear x0 x1 x2 xf0 xf1 xf2
                obtain ⟨x0, x1, x2⟩ := cells3f hx1
                have HU1 := toHid hu1
                clear f0 f1 f2 hu1 hx1
                go_wp2_with fail
                refine Calls.mono (HD2.out _ HU1.out) ?_
                rintro e u2 ⟨rfl, hu⟩
                have hu2 := HU1.out.trans (hu.mono HU1.out.size)
                clear z0 z1 z2 z3 x0 x1 x2
                obtain ⟨f0, f1, f2⟩ := HCl.out u2 (HBw.out.trans (hu2.mono HBw.out.size))
                obtain ⟨z0, z1, z2, z3, _, _, _, _⟩ := cellsF f2
                have hx1 := (hu2.block _ hXs).trans HXw.out
                obtain ⟨x0, x1, x2⟩ := cells3f hx1
                have HU2 := toHid hu2
                clear f0 f1 f2 hu2 hx1 hu
                go_wp2_with fail
                refine Calls.mono (HD3.out _ HU2.out) ?_
                rintro e u3 ⟨rfl, hu⟩
                have HU3 := toHid (HU2.out.trans (hu.mono HU2.out.size))
                have HLv := toHid (lives10 u3)
                clear hu
                go_wp2_with fail
                refine Calls.mono HLv.out ?_
                rintro e u4 ⟨rfl, hu⟩
                have HU4 := toHid (HU3.out.trans (hu.mono HU3.out.size))
                clear hu
                go_wp2
                go_ret
                exact ⟨rfl, HBV.out _ (HBw.out.trans (HU4.out.mono HBw.out.size))⟩
end Go.Proofs.Yticnkppnpfgceaa.Mg

namespace Go.Proofs.Yticnkppnpfgceaa.Mg
open Go.ChangeShapes Go.WideShapes Go.ChangeAt Go.RowKit Go.Deep

theorem Try.own : ownKnob Try.prog.godebug = none := by kernel_rfl
theorem Try.laidOut : laidOutB Try.prog = true := by kernel_rfl
theorem Try.cells3 : Try.prog.cellsOf 3 = 1 := by kernel_rfl
theorem Try.cells4 : Try.prog.cellsOf 4 = 1 := by kernel_rfl
theorem Try.cells9 : Try.prog.cellsOf 9 = 1 := by kernel_rfl
theorem Try.cells45 : Try.prog.cellsOf 45 = 1 := by kernel_rfl
theorem Try.cells30 : Try.prog.cellsOf 30 = 1 := by kernel_rfl
theorem Try.cells46 : Try.prog.cellsOf 46 = 1 := by kernel_rfl
theorem Try.cells48 : Try.prog.cellsOf 48 = 4 := by kernel_rfl
theorem Try.cells26 : Try.prog.cellsOf 26 = 1 := by kernel_rfl
theorem Try.cells28 : Try.prog.cellsOf 28 = 1 := by kernel_rfl
theorem Try.cells50 : Try.prog.cellsOf 50 = 12 := by kernel_rfl
theorem Try.cells55 : Try.prog.cellsOf 55 = 1 := by kernel_rfl
theorem Try.cells57 : Try.prog.cellsOf 57 = 3 := by kernel_rfl
theorem Try.cells60 : Try.prog.cellsOf 60 = 2 := by kernel_rfl
theorem Try.cells22 : Try.prog.cellsOf 22 = 1 := by kernel_rfl
theorem Try.bytes65 : Try.prog.bytesOf 57 = 24 := by kernel_rfl
theorem Try.bytes67 : Try.prog.bytesOf 60 = 16 := by kernel_rfl
theorem Try.bytes46 : Try.prog.bytesOf 50 = 152 := by kernel_rfl
theorem Try.bytes26 : Try.prog.bytesOf 22 = 24 := by kernel_rfl

/-- What came in lies within reach. -/
def Wt {H : Type} (d : DataW H) (t : TypeId) : Prop := ∀ n, n ∈ d.weights Try.prog t → n ≤ reachBytes

theorem wt_len {H : Type} {t e : TypeId} {n : Nat} {D : Nat → DataW H} {sp : List (DataW H)} {pl : List MemPlace} (h : Wt ((DataW.slice ((List.range n).map D) sp, pl) : DataW H × List MemPlace).1 t) (hu : Try.prog.underlying t = some (.slice e)) : n * Try.prog.bytesOf e ≤ 140737488355328 := by
  have := h ((((List.range n).map D).length + sp.length) * Try.prog.bytesOf e) (by simp [DataW.weights, hu])
  have hr := reachBytes_lt
  simp only [List.length_map, List.length_range, Nat.add_mul] at this
  omega
theorem mem_all {H : Type} {P : Program} {e : TypeId} {d : DataW H} : ∀ {l : List (DataW H)}, d ∈ l → ∀ n, n ∈ d.weights P e → n ∈ DataW.weightsAll P e l
  | x :: r, hd, n, hn => by
    simp only [DataW.weightsAll, List.mem_append]
    rcases List.mem_cons.1 hd with rfl | hd
    · exact .inl hn
    · exact .inr (mem_all hd n hn)
theorem wt_at {H : Type} {t e : TypeId} {n : Nat} {D : Nat → DataW H} {sp : List (DataW H)} {pl : List MemPlace} (h : Wt ((DataW.slice ((List.range n).map D) sp, pl) : DataW H × List MemPlace).1 t) (hu : Try.prog.underlying t = some (.slice e)) {i : Nat} (hi : i < n) : Wt (D i) e := fun k hk => by
  refine h k ?_
  simp only [DataW.weights, hu, List.mem_cons, List.mem_append]
  exact .inr (.inl (mem_all (List.mem_map.2 ⟨i, List.mem_range.2 hi, rfl⟩) k hk))
theorem wt_field {H : Type} {t : TypeId} {fs : Array Field} {parts : List (DataW H)} {pl : List MemPlace} (h : Wt ((DataW.agg parts, pl) : DataW H × List MemPlace).1 t) (hu : Try.prog.underlying t = some (.struct fs)) {i : Nat} {f : Field} {d : DataW H} (hf : fs[i]? = some f) (hd : parts[i]? = some d) : Wt d f.type := fun k hk => by
  refine h k ?_
  simp only [DataW.weights, hu]
  exact DataW.weights_mem_each (j := i) (t := f.type) (by simp [hf]) hd k hk

theorem cells_q3 {w : World} {base : Nat} {a : Addr} {cs : List Value} (h : w.cells? base a 3 = some cs) : ∃ v0 v1 v2, cs = [v0, v1, v2] ∧ w.cell? a = some v0 ∧ w.cell? (a.add 1) = some v1 ∧ w.cell? (a.add 2) = some v2 := by
  obtain ⟨hb, hl, hc⟩ := World.cells?_some h
  match cs, hl with
  | [v0, v1, v2], _ =>
    have h0 := hc 0 (by simp)
    have h1 := hc 1 (by simp)
    have h2 := hc 2 (by simp)
    exact ⟨v0, v1, v2, rfl, by simpa [Addr.add] using h0, by simpa using h1, by simpa using h2⟩
theorem cells_q2 {w : World} {base : Nat} {a : Addr} {cs : List Value} (h : w.cells? base a 2 = some cs) : ∃ v0 v1, cs = [v0, v1] ∧ w.cell? a = some v0 ∧ w.cell? (a.add 1) = some v1 := by
  obtain ⟨hb, hl, hc⟩ := World.cells?_some h
  match cs, hl with
  | [v0, v1], _ =>
    have h0 := hc 0 (by simp)
    have h1 := hc 1 (by simp)
    exact ⟨v0, v1, rfl, by simpa [Addr.add] using h0, by simpa using h1⟩

theorem u64_nat {n : Int} (w : (Lit.int .u64 n).wf = true) : n = ((n.toNat : Nat) : Int) := by
  simp [Lit.wf, IntKind.min, IntKind.max, IntKind.signed, IntKind.bits] at w
  omega

set_option maxRecDepth 20000 in
theorem open_txns {H : Type} {enc : TypeId × Value → H} {W : World} {base : Nat} {spare : Nat → Bool} {held : Bool} {fuel : Nat} {v : Value} {x : DataW H × List MemPlace}
    (hf : DataW.trod enc Try.prog W base spare held fuel 26 [v] = some x) (hw : Wt x.1 26) : ∃ a c, ∃ l : List Tx, v = .slice a l.length c ∧ SlT W a l ∧ l.length ≤ 140737488355328 ∧ (a = none → c = 0) := by
  rcases open_slice Try.underlying26 hf with ⟨hcs, _⟩ | ⟨ad, n, cap, m, nf, D, Pl, hcs, _, hl, hm, hmm, hxe, hx⟩
  · simp at hcs
    subst hcs
    exact ⟨none, 0, [], rfl, ⟨fun _ => rfl, fun y hy => by simp at hy⟩, by simp, fun _ => rfl⟩
  · simp at hcs
    subst hcs
    have hlm : n ≤ m := by rw [hmm]; split <;> omega
    have hsp : 0 < n → ad.spot = none := by
      intro h0
      obtain ⟨cs', hc, _⟩ := hx 0 (by omega)
      rw [Try.cells57] at hc
      obtain ⟨v0, v1, v2, rfl, e0, _, _⟩ := cells_q3 hc
      have := World.cell?_spot e0
      simpa [Addr.add] using this
    have each : ∀ i, i < n → ∃ q : Int × Int × Nat, ad.spot = none ∧ W.cell? ⟨ad.block, ad.off + i * 3, none⟩ = some (.int .i64 q.1) ∧ W.cell? ⟨ad.block, ad.off + i * 3 + 1, none⟩ = some (.int .i64 q.2.1) ∧ W.cell? ⟨ad.block, ad.off + i * 3 + 2, none⟩ = some (.int .u64 (q.2.2 : Nat)) := by
      intro i hi
      obtain ⟨cs', hc, ht⟩ := hx i (by omega)
      rw [Try.cells57] at hc
      obtain ⟨v0, v1, v2, rfl, e0, e1, e2⟩ := cells_q3 hc
      obtain ⟨y0, y1, y2, nn, _, _, t0, t1, t2⟩ := trod_struct3 Try.underlying57 ht
      obtain ⟨n0, q0, _, _⟩ := DataW.trod_int Try.underlying3 t0
      obtain ⟨n1, q1, _, _⟩ := DataW.trod_int Try.underlying55 t1
      obtain ⟨n2, q2, _, w2⟩ := DataW.trod_int Try.underlying30 t2
      simp [Try.cells3, Try.cells55, Try.cells30] at q0 q1 q2
      subst q0 q1 q2
      obtain ⟨ab, ao, asp⟩ := ad
      obtain rfl : asp = none := hsp (by omega)
      have eb : ∀ q j, (⟨ab, q, none⟩ : Addr).add j = ⟨ab, q + j, none⟩ := fun q j => by unfold Addr.add; split <;> simp_all
      rw [eb] at e0 e1 e2
      rw [eb] at e1 e2
      refine ⟨(n0, n1, n2.toNat), rfl, e0, e1, ?_⟩
      show _ = some (Value.int .u64 ((n2.toNat : Nat) : Int))
      rw [← u64_nat w2]
      exact e2
    obtain ⟨q, hq⟩ := choose_lt each
    have hln : ((List.range n).map fun i => (⟨(q i).1, (q i).2.1, (q i).2.2⟩ : Tx)).length = n := by simp
    refine ⟨some ad, cap, (List.range n).map fun i => (⟨(q i).1, (q i).2.1, (q i).2.2⟩ : Tx), by rw [hln], ⟨fun h => by simp at h, fun y hy i t ht => ?_⟩, by rw [hln]; have := wt_len (by rw [hxe] at hw; exact hw) Try.underlying26; rw [Try.bytes65] at this; omega, fun h => by simp at h⟩
    simp at hy
    subst hy
    have hi : i < n := by have := (List.getElem?_eq_some_iff.1 ht).1; omega
    simp [hi] at ht
    subst ht
    exact hq i hi

set_option maxRecDepth 20000 in
theorem open_dirty {H : Type} {enc : TypeId × Value → H} {W : World} {base : Nat} {spare : Nat → Bool} {held : Bool} {fuel : Nat} {v : Value} {x : DataW H × List MemPlace}
    (hf : DataW.trod enc Try.prog W base spare held fuel 28 [v] = some x) (hw : Wt x.1 28) : ∃ a c, ∃ l : List Di, v = .slice a l.length c ∧ SlD W a l ∧ l.length ≤ 140737488355328 ∧ (a = none → c = 0) := by
  rcases open_slice Try.underlying28 hf with ⟨hcs, _⟩ | ⟨ad, n, cap, m, nf, D, Pl, hcs, _, hl, hm, hmm, hxe, hx⟩
  · simp at hcs
    subst hcs
    exact ⟨none, 0, [], rfl, ⟨fun _ => rfl, fun y hy => by simp at hy⟩, by simp, fun _ => rfl⟩
  · simp at hcs
    subst hcs
    have hlm : n ≤ m := by rw [hmm]; split <;> omega
    have hsp : 0 < n → ad.spot = none := by
      intro h0
      obtain ⟨cs', hc, _⟩ := hx 0 (by omega)
      rw [Try.cells60] at hc
      obtain ⟨v0, v1, rfl, e0, _⟩ := cells_q2 hc
      have := World.cell?_spot e0
      simpa [Addr.add] using this
    have each : ∀ i, i < n → ∃ q : Int × Nat, ad.spot = none ∧ W.cell? ⟨ad.block, ad.off + i * 2, none⟩ = some (.int .i64 q.1) ∧ W.cell? ⟨ad.block, ad.off + i * 2 + 1, none⟩ = some (.int .u64 (q.2 : Nat)) := by
      intro i hi
      obtain ⟨cs', hc, ht⟩ := hx i (by omega)
      rw [Try.cells60] at hc
      obtain ⟨v0, v1, rfl, e0, e1⟩ := cells_q2 hc
      obtain ⟨y0, y1, nn, _, _, t0, t1⟩ := trod_struct2 Try.underlying60 ht
      obtain ⟨n0, q0, _, _⟩ := DataW.trod_int Try.underlying3 t0
      obtain ⟨n2, q2, _, w2⟩ := DataW.trod_int Try.underlying30 t1
      simp [Try.cells3, Try.cells30] at q0 q2
      subst q0 q2
      obtain ⟨ab, ao, asp⟩ := ad
      obtain rfl : asp = none := hsp (by omega)
      have eb : ∀ q j, (⟨ab, q, none⟩ : Addr).add j = ⟨ab, q + j, none⟩ := fun q j => by unfold Addr.add; split <;> simp_all
      rw [eb] at e0 e1
      rw [eb] at e1
      refine ⟨(n0, n2.toNat), rfl, e0, ?_⟩
      show _ = some (Value.int .u64 ((n2.toNat : Nat) : Int))
      rw [← u64_nat w2]
      exact e1
    obtain ⟨q, hq⟩ := choose_lt each
    have hln : ((List.range n).map fun i => (⟨(q i).1, (q i).2⟩ : Di)).length = n := by simp
    refine ⟨some ad, cap, (List.range n).map fun i => (⟨(q i).1, (q i).2⟩ : Di), by rw [hln], ⟨fun h => by simp at h, fun y hy i t ht => ?_⟩, by rw [hln]; have := wt_len (by rw [hxe] at hw; exact hw) Try.underlying28; rw [Try.bytes67] at this; omega, fun h => by simp at h⟩
    simp at hy
    subst hy
    have hi : i < n := by have := (List.getElem?_eq_some_iff.1 ht).1; omega
    simp [hi] at ht
    subst ht
    exact hq i hi

theorem txt_of (s : ByteArray) : txt s.data.toList = s := by
  cases s
  simp [txt]

set_option maxRecDepth 20000 in
theorem open_recL {H : Type} {enc : TypeId × Value → H} {W : World} {base : Nat} {spare : Nat → Bool} {held : Bool} {fuel : Nat} {l : List Value} {x : DataW H × List MemPlace} (hsz : l.length = 12)
    (hf : DataW.trod enc Try.prog W base spare held fuel 50 l = some x) (hw : Wt x.1 50) : ∃ r p, l = recL r p ∧ RI W r p ∧ Wd r := by
  obtain ⟨xs, n, _, hxe, _, hxl, hx⟩ := DataW.trod_struct Try.underlying50 hf
  match l, hsz with
  | [v0, v1, v2, v3, v4, v5, v6, v7, v8, v9, v10, v11], _ =>
    have hxs : xs.length = 9 := hxl
    have get : ∀ i, i < 9 → ∃ y, xs[i]? = some y := fun i hi => ⟨xs[i]'(by omega), List.getElem?_eq_getElem (by omega)⟩
    obtain ⟨y0, g0⟩ := get 0 (by omega)
    obtain ⟨y1, g1⟩ := get 1 (by omega)
    obtain ⟨y2, g2⟩ := get 2 (by omega)
    obtain ⟨y3, g3⟩ := get 3 (by omega)
    obtain ⟨y4, g4⟩ := get 4 (by omega)
    obtain ⟨y5, g5⟩ := get 5 (by omega)
    obtain ⟨y6, g6⟩ := get 6 (by omega)
    obtain ⟨y7, g7⟩ := get 7 (by omega)
    obtain ⟨y8, g8⟩ := get 8 (by omega)
    have t0 := (hx 0 _ rfl).trans g0
    have t1 := (hx 1 _ rfl).trans g1
    have t2 := (hx 2 _ rfl).trans g2
    have t3 := (hx 3 _ rfl).trans g3
    have t4 := (hx 4 _ rfl).trans g4
    have t5 := (hx 5 _ rfl).trans g5
    have t6 := (hx 6 _ rfl).trans g6
    have t7 := (hx 7 _ rfl).trans g7
    have t8 := (hx 8 _ rfl).trans g8
    obtain ⟨n0, q0, _, _⟩ := DataW.trod_int Try.underlying45 t0
    obtain ⟨n1, q1, _, u1⟩ := DataW.trod_int Try.underlying30 t1
    obtain ⟨n2, q2, _, _⟩ := DataW.trod_int Try.underlying3 t2
    obtain ⟨n3, q3, _, u3⟩ := DataW.trod_int Try.underlying30 t3
    obtain ⟨n4, q4, _, u4⟩ := DataW.trod_int Try.underlying30 t4
    obtain ⟨n5, q5, _, _⟩ := DataW.trod_int Try.underlying3 t5
    simp [Try.cells45, Try.cells30, Try.cells3] at q0 q1 q2 q3 q4 q5
    simp [Try.cells48, Try.cells26, Try.cells28] at t6 t7 t8
    subst q0 q1 q2 q3 q4 q5
    obtain ⟨zs, m, _, _, _, hzl, hz⟩ := DataW.trod_struct Try.underlying48 t6
    have hzs : zs.length = 4 := hzl
    have getz : ∀ i, i < 4 → ∃ y, zs[i]? = some y := fun i hi => ⟨zs[i]'(by omega), List.getElem?_eq_getElem (by omega)⟩
    obtain ⟨z0, k0⟩ := getz 0 (by omega)
    obtain ⟨z1, k1⟩ := getz 1 (by omega)
    obtain ⟨z2, k2⟩ := getz 2 (by omega)
    obtain ⟨z3, k3⟩ := getz 3 (by omega)
    obtain ⟨m0, p0, _, _⟩ := DataW.trod_int Try.underlying46 ((hz 0 _ rfl).trans k0)
    obtain ⟨s1, p1, _, _⟩ := DataW.trod_string Try.underlying9 ((hz 1 _ rfl).trans k1)
    obtain ⟨s2, p2, _, _⟩ := DataW.trod_string Try.underlying9 ((hz 2 _ rfl).trans k2)
    obtain ⟨s3, p3, _, _⟩ := DataW.trod_string Try.underlying9 ((hz 3 _ rfl).trans k3)
    simp [Try.cells46, Try.cells9] at p0 p1 p2 p3
    subst p0 p1 p2 p3
    obtain ⟨ta, tc, lt, rfl, hT, hTl, hTc⟩ := open_txns t7 (wt_field (by rw [hxe] at hw; exact hw) Try.underlying50 (i := 7) rfl (by simp [g7]))
    obtain ⟨da, dc, ld, rfl, hD, hDl, hDc⟩ := open_dirty t8 (wt_field (by rw [hxe] at hw; exact hw) Try.underlying50 (i := 8) rfl (by simp [g8]))
    refine ⟨⟨n0, n1.toNat, n2, n3.toNat, n4.toNat, n5, m0, s1.data.toList, s2.data.toList, s3.data.toList, lt, ld⟩, ⟨ta, tc, da, dc⟩, ?_, ⟨hT, hD, hTc, hDc⟩, hTl, hDl⟩
    show _ = [Value.int .i64 n0, .int .u64 ((n1.toNat : Nat) : Int), .int .i64 n2, .int .u64 ((n3.toNat : Nat) : Int), .int .u64 ((n4.toNat : Nat) : Int), .int .i64 n5, .int .i64 m0, .string (txt s1.data.toList), .string (txt s2.data.toList), .string (txt s3.data.toList), .slice ta lt.length tc, .slice da ld.length dc]
    rw [← u64_nat u1, ← u64_nat u3, ← u64_nat u4, txt_of, txt_of, txt_of]

theorem at12_of {W : World} {ab ao : Nat} {r : Rc} {p : Pl} {cs : List Value} (hq : cs = recL r p) (h : ∀ j, j < 12 → W.cell? ⟨ab, ao + j, none⟩ = cs[j]?) : At12 W ab ao r p := by
  subst hq
  exact ⟨h 0 (by omega), h 1 (by omega), h 2 (by omega), h 3 (by omega), h 4 (by omega), h 5 (by omega), h 6 (by omega), h 7 (by omega), h 8 (by omega), h 9 (by omega), h 10 (by omega), h 11 (by omega)⟩

set_option maxRecDepth 20000 in
theorem open_recs {H : Type} {enc : TypeId × Value → H} {W : World} {base : Nat} {spare : Nat → Bool} {held : Bool} {fuel : Nat} {v : Value} {x : DataW H × List MemPlace}
    (hf : DataW.trod enc Try.prog W base spare held fuel 22 [v] = some x) (hw : Wt x.1 22) : ∃ a c, ∃ l : List Rc, v = .slice a l.length c ∧ SlR W a l ∧ l.length ≤ 140737488355328 ∧ (a = none → c = 0) ∧ l.length ≤ c ∧ ∀ r, r ∈ l → Wd r := by
  rcases open_slice Try.underlying22 hf with ⟨hcs, _⟩ | ⟨ad, n, cap, m, nf, D, Ps, hcs, _, hl, hm, hmm, hxe, hx⟩
  · simp at hcs
    subst hcs
    exact ⟨none, 0, [], rfl, ⟨fun _ => rfl, fun y hy => by simp at hy⟩, by simp, fun _ => rfl, by simp, by simp⟩
  · simp at hcs
    subst hcs
    rw [hxe] at hw
    have hlm : n ≤ m := by rw [hmm]; split <;> omega
    have hspot : 0 < n → ad.spot = none := by
      intro h0
      obtain ⟨cs', hc, _⟩ := hx 0 (by omega)
      rw [Try.cells50] at hc
      obtain ⟨_, hlc, hcc⟩ := World.cells?_some hc
      have h1 := hcc 0 (by omega)
      rw [List.getElem?_eq_getElem (by omega)] at h1
      have := World.cell?_spot h1
      simpa [Addr.add] using this
    have each : ∀ i, i < n → ∃ q : Rc × Pl, ad.spot = none ∧ At12 W ad.block (ad.off + i * 12) q.1 q.2 ∧ RI W q.1 q.2 ∧ Wd q.1 := by
      intro i hi
      obtain ⟨cs', hc, ht⟩ := hx i (by omega)
      rw [Try.cells50] at hc
      obtain ⟨_, hlc, hcc⟩ := World.cells?_some hc
      obtain ⟨r, p, hq, h1, h2⟩ := open_recL hlc ht (wt_at hw Try.underlying22 hi)
      have hsp : ad.spot = none := hspot (by omega)
      refine ⟨(r, p), hsp, at12_of hq (fun j hj => ?_), h1, h2⟩
      obtain ⟨ab, ao, asp⟩ := ad
      simp only at hsp
      subst hsp
      have := hcc j hj
      rw [add_plain, add_plain] at this
      exact this
    haveI : Inhabited (Rc × Pl) := ⟨(⟨0, 0, 0, 0, 0, 0, 0, [], [], [], [], []⟩, ⟨none, 0, none, 0⟩)⟩
    obtain ⟨q, hq⟩ := choose_lt each
    have hln : ((List.range n).map fun i => (q i).1).length = n := by simp
    refine ⟨some ad, cap, (List.range n).map fun i => (q i).1, by rw [hln], ⟨fun h => by simp at h, fun y hy i t ht => ?_⟩, by rw [hln]; have := wt_len hw Try.underlying22; rw [Try.bytes46] at this; omega, fun h => by simp at h, by rw [hln]; exact hl, fun r hr => ?_⟩
    · simp at hy
      subst hy
      have hi : i < n := by have := (List.getElem?_eq_some_iff.1 ht).1; omega
      simp [hi] at ht
      subst ht
      exact ⟨(hq i hi).1, _, (hq i hi).2.1, (hq i hi).2.2.1⟩
    · simp at hr
      obtain ⟨i, hi, rfl⟩ := hr
      exact (hq i hi).2.2.2

end Go.Proofs.Yticnkppnpfgceaa.Mg

