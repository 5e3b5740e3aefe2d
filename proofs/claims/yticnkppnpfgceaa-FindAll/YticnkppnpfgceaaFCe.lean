/-
  The walks of Check, and of the document's Log.
-/
import Derived.Test.YticnkppnpfgceaaFMa
import Derived.Test.YticnkppnpfgceaaMSb
import Derived.Test.YticnkppnpfgceaaMRb
namespace Go.Proofs.Yticnkppnpfgceaa.Mg
open Go.RowKit

theorem all_take {l : List Rc} {i : Nat} (h : i < l.length) : (l.take (i + 1)).all mayB = ((l.take i).all mayB && mayB l[i]) := by
  rw [List.take_succ_eq_append_getElem h, List.all_append, List.all_cons, List.all_nil, Bool.and_true]
theorem log_bad {l : List Rc} {i : Nat} (h : i < l.length) (hm : mayB l[i] = false) : logB l = false := by
  unfold logB
  rw [show l.all mayB = false from List.all_eq_false.2 ⟨l[i], List.getElem_mem h, by simp [hm]⟩]
  rfl

set_option maxRecDepth 100000 in
set_option maxHeartbeats 4000000 in
theorem check17 (a : Option Addr) (c : Nat) (l : List Rc) (w0 w : World) (hL : SlR w0 a l) (hb0 : Below w0.heap.size w0 w) (hl : l.length ≤ 1000) (hlim : ∀ r, r ∈ l → Lim r) :
    Calls Try.prog 17 #[.slice a l.length c] w fun e w' => e = .returned (.int .i64 (argE (logB l))) ∧ Below w.heap.size w w' := by
  have HL := toHid (hL.below hb0)
  have HLim := toHid hlim
  clear hL hb0 hlim
  go_enter Try.func17, Try.ntmps17
  go_wp2_with fail
  go_loopw [7] (fun k W => ∃ i : Nat, i ≤ l.length ∧ k = .int .i64 i ∧ (l.take i).all mayB = true ∧ Below w.heap.size w W) (fun k _ => l.length - (intOf k).toNat)
  case atStart => exact ⟨0, Nat.zero_le _, rfl, by simp, Below.refl _ _⟩
  case round =>
    obtain ⟨i, hi, rfl, hall, hbw⟩ := hrel
    have HAll := toHid hall
    have HBw := toHid hbw
    clear hall hbw
    by_cases hlt : i < l.length
    · obtain ⟨b, o, rfl, hbl⟩ := HL.out.there (by omega)
      obtain ⟨pl, h12, hri⟩ := (HL.out.below HBw.out).get i hlt
      obtain ⟨d0, d1, d2, d3, d4, d5, d6, d7, d8, d9, d10, d11⟩ := h12
      have hi1 : (i : Int) < (l.length : Int) := by omega
      have hi2 : 0 ≤ (i : Int) := by omega
      have hlm := HLim.out _ (List.getElem_mem hlt)
      have HTk := toHid (all_take hlt)
      have HBad := toHid (fun hm => log_bad (l := l) hlt hm)
      obtain ⟨r, hr⟩ : ∃ r, l[i] = r := ⟨_, rfl⟩
      rw [hr] at d0 d1 d2 d3 d4 d5 d6 d7 d8 d9 d10 d11 hri hlm HTk HBad
      have hb1 : Below wr.heap.size wr (wr.alloc (.cells (recC r pl) 50)) := (Below.refl _ _).alloc (Nat.le_refl _) _
      have hri1 := hri.below hb1
      have HC := toHid (check_any r pl.ta pl.tc pl.da pl.dc _ hri1.t hri1.d (by unfold maxLen; have := hlm.1; omega) (by unfold maxLen; have := hlm.2; omega))
      have HB1 := toHid (HBw.out.trans (hb1.mono HBw.out.size))
      clear hr hri hri1 hlm hb1
      go_wp2_with fail
      refine Calls.mono HC.out ?_
      rintro e w2 ⟨rfl, hb2⟩
      have HB2 := toHid (HB1.out.trans (hb2.mono HB1.out.size))
      clear hb2 HC
      cases hm : mayB r
      · have g0 : ((argE false : Int) != 0) = true := by decide
        have HF := toHid (HBad.out hm)
        go_wp2
        go_ret
        exact ⟨by rw [HF.out]; rfl, HB2.out⟩
      · have g0 : ((argE true : Int) != 0) = false := by decide
        rw [hm] at HTk
        go_wp2_with fail
        go_roundw
        case rel => exact ⟨i + 1, by omega, by go_num, by rw [HTk.out, HAll.out]; rfl, HB2.out⟩
        case measure => simp [intOf]; omega
    · obtain rfl : i = l.length := by omega
      rw [List.take_length] at HAll
      have HR := toHid (rises12 a c l wr (HL.out.below HBw.out) (by omega))
      have HE := toHid (show logB l = risB l by unfold logB; rw [HAll.out]; rfl)
      go_wp2_with fail
      refine Calls.mono HR.out ?_
      rintro e w2 ⟨rfl, n, rfl⟩
      clear HR
      have HBx := toHid (HBw.out.trans (below_drewN1 wr n |>.mono HBw.out.size))
      cases hm : risB l
      · rw [hm] at HE
        go_wp2
        go_ret
        exact ⟨by rw [HE.out]; rfl, HBx.out⟩
      · rw [hm] at HE
        go_wp2
        go_ret
        exact ⟨by rw [HE.out]; rfl, HBx.out⟩

set_option maxRecDepth 100000 in
set_option maxHeartbeats 4000000 in
theorem reflog30 (a : Option Addr) (c : Nat) (l : List Rc) (w0 w : World) (hL : SlR w0 a l) (hb0 : Below w0.heap.size w0 w) (hl : l.length ≤ 1000) (hlim : ∀ r, r ∈ l → Lim r) :
    Calls Try.prog 30 #[.slice a l.length c] w fun e w' => e = .returned (.bool (logB l)) ∧ Below w.heap.size w w' := by
  have HL := toHid (hL.below hb0)
  have HLim := toHid hlim
  clear hL hb0 hlim
  go_enter Try.func30, Try.ntmps30
  go_wp2_with fail
  go_loopw [3] (fun k W => ∃ i : Nat, i ≤ l.length ∧ k = .int .i64 i ∧ (l.take i).all mayB = true ∧ Below w.heap.size w W) (fun k _ => l.length - (intOf k).toNat)
  case atStart => exact ⟨0, Nat.zero_le _, rfl, by simp, Below.refl _ _⟩
  case round =>
    obtain ⟨i, hi, rfl, hall, hbw⟩ := hrel
    have HAll := toHid hall
    have HBw := toHid hbw
    clear hall hbw
    by_cases hlt : i < l.length
    · obtain ⟨b, o, rfl, hbl⟩ := HL.out.there (by omega)
      obtain ⟨pl, h12, hri⟩ := (HL.out.below HBw.out).get i hlt
      obtain ⟨d0, d1, d2, d3, d4, d5, d6, d7, d8, d9, d10, d11⟩ := h12
      have hi1 : (i : Int) < (l.length : Int) := by omega
      have hi2 : 0 ≤ (i : Int) := by omega
      have hlm := HLim.out _ (List.getElem_mem hlt)
      have HTk := toHid (all_take hlt)
      have HBad := toHid (fun hm => log_bad (l := l) hlt hm)
      obtain ⟨r, hr⟩ : ∃ r, l[i] = r := ⟨_, rfl⟩
      rw [hr] at d0 d1 d2 d3 d4 d5 d6 d7 d8 d9 d10 d11 hri hlm HTk HBad
      have HC := toHid (refmay_any r pl.ta pl.tc pl.da pl.dc wr ⟨hri.t, hri.d, by unfold maxLen; have := hlm.1; omega, by unfold maxLen; have := hlm.2; omega⟩ (by have := hlm.1; have := hlm.2; omega))
      clear hr hri hlm
      go_wp2_with fail
      refine Calls.mono HC.out ?_
      rintro e w2 ⟨rfl, hb2⟩
      have HB2 := toHid (HBw.out.trans (hb2.mono HBw.out.size))
      clear hb2 HC
      cases hm : mayB r
      · have HF := toHid (HBad.out hm)
        go_wp2
        go_ret
        exact ⟨by rw [HF.out]; rfl, HB2.out⟩
      · rw [hm] at HTk
        go_wp2_with fail
        go_roundw
        case rel => exact ⟨i + 1, by omega, by go_num, by rw [HTk.out, HAll.out]; rfl, HB2.out⟩
        case measure => simp [intOf]; omega
    · obtain rfl : i = l.length := by omega
      rw [List.take_length] at HAll
      have HR := toHid (rises13 a c l wr (HL.out.below HBw.out) (by omega))
      have HE := toHid (show logB l = risB l by unfold logB; rw [HAll.out]; rfl)
      go_wp2_with fail
      refine Calls.mono HR.out ?_
      rintro e w2 ⟨rfl, n, rfl⟩
      clear HR
      have HBx := toHid (HBw.out.trans (below_drewN1 wr n |>.mono HBw.out.size))
      go_wp2
      go_ret
      exact ⟨by rw [HE.out]; rfl, HBx.out⟩
end Go.Proofs.Yticnkppnpfgceaa.Mg
