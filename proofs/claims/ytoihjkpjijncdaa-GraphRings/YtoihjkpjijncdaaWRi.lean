/-
  The walk of GraphRings.
-/
import Derived.Test.YtoihjkpjijncdaaLb
namespace Go.Proofs.Ytoihjkpjijncdaa
open Go.RowKit Go.Maps

theorem ring_self {E : List (Lit × Lit)} {x : Int} {R : List Int} (h : IsRingI E (.int .i64 x) R) (hne : R ≠ []) : x ∈ R := by
  cases R with
  | nil => exact absurd rfl hne
  | cons z r =>
    obtain ⟨h1, h2⟩ := (h.mem z).1 (by simp)
    exact (h.mem x).2 ⟨h1.trans h2, h1.trans h2⟩
theorem ring_leads {E : List (Lit × Lit)} {x : Int} {R : List Int} (h : IsRingI E (.int .i64 x) R) : ldsB E (.int .i64 x) (.int .i64 x) = !R.isEmpty := by
  cases R with
  | nil =>
    unfold ldsB
    simp only [List.isEmpty_nil, Bool.not_true, decide_eq_false_iff_not]
    intro h1
    have := (h.mem x).2 ⟨h1, h1⟩
    simp at this
  | cons z r =>
    unfold ldsB
    simp only [List.isEmpty_cons, Bool.not_false, decide_eq_true_iff]
    exact ((h.mem x).1 (ring_self h (by simp))).1
theorem ring_same {E : List (Lit × Lit)} {x y : Int} {R R' : List Int} (h : IsRingI E (.int .i64 x) R) (hy : y ∈ R) (h' : IsRingI E (.int .i64 y) R') : R' = R := by
  obtain ⟨h1, h2⟩ := (h.mem y).1 hy
  exact h'.eq h fun z => ⟨fun ⟨a, b⟩ => ⟨h1.trans a, b.trans h2⟩, fun ⟨a, b⟩ => ⟨h2.trans a, b.trans h1⟩⟩
theorem ring_again {E : List (Lit × Lit)} {x : Int} {R R' : List Int} (h : IsRingI E (.int .i64 x) R) (h' : IsRingI E (.int .i64 x) R') : R' = R := h'.eq h fun _ => Iff.rfl
theorem rise_last {R : List Int} (h : R.Pairwise (· < ·)) {i : Nat} (hi : i < R.length) : R[i] ≤ R.getLastD 0 := by
  rcases List.eq_nil_or_concat R with rfl | ⟨r, z, rfl⟩
  · simp at hi
  · have e : (r.concat z).getLastD 0 = z := by simp
    rw [e]
    rw [List.concat_eq_append] at h
    have h2 := (List.pairwise_append.1 h).2.2
    by_cases hr : i < r.length
    · have : (r.concat z)[i] = r[i] := by simp [hr]
      rw [this]
      have := h2 r[i] (List.getElem_mem hr) z (by simp)
      omega
    · have hil : i = r.length := by simp at hi; omega
      subst hil
      simp
theorem rise_step {R : List Int} (h : R.Pairwise (· < ·)) {i : Nat} (hi : i + 1 < R.length) : R[i] < R[i + 1] := List.pairwise_iff_getElem.1 h i (i + 1) (by omega) hi (by omega)

theorem lds_to {F : Lit → Lit → Bool} {a b : Lit} (h : Lds F a b) : ∃ c, F c b = true := by
  cases h with
  | one e => exact ⟨_, e⟩
  | more _ e => exact ⟨_, e⟩
theorem lds_wf {l : List (Int × Int)} {n : Nat} {a : Lit} {z : Int} (hwf : ∀ e, e ∈ l → (Lit.int .i64 e.1).wf = true ∧ (Lit.int .i64 e.2).wf = true) (h : Lds (outE (madeE l n)) a (liI z)) : (Lit.int .i64 z).wf = true := by
  obtain ⟨c, e⟩ := lds_to h
  simp only [outE, decide_eq_true_iff] at e
  obtain ⟨e, he, h1⟩ := mem_madeE.1 e
  have h2 := congrArg Prod.snd h1
  have h3 : z = e.2 := by simpa [leE, liI] using h2
  rw [h3]
  exact (hwf e (List.mem_of_mem_take he)).2

set_option maxRecDepth 100000 in
set_option maxHeartbeats 4000000 in
theorem rings_walk {w : World} {a : Option Addr} {c : Nat} {l : List (Int × Int)} (hL : SlE w a l) {x : Int} (hx : (Lit.int .i64 x).wf = true) :
    Calls Try.prog 5 #[.slice a l.length c, .int .i64 x] w fun e w' => e = .returned (.bool true) ∧ Below w.heap.size w w' := by
  have HL := toHid hL
  have hkx := keyI hx
  clear hL
  go_enter Try.func5, Try.ntmps5
  go_wp2_with fail
  refine (made19 HL.out).mono ?_
  rintro e w1 ⟨p, S, rfl, hM⟩
  have HG1 := toHid hM.gr
  have HB1 := toHid hM.low
  have hEl := madeE_len l 60
  have HWF : Hid (∀ a z, Lds (outE (madeE l 60)) a (liI z) → (Lit.int .i64 z).wf = true) := fun a z h => lds_wf HL.out.wf h
  generalize madeE l 60 = E at *
  clear hM
  go_wp2_with fail
  refine (ringI HG1.out hkx (by omega)).mono ?_
  rintro e w2 ⟨va, vc, R, rfl, hr2, hb2, hR, hRl⟩
  have HG2 := toHid (HG1.out.below hb2)
  have HB2 := toHid (below_next HB1.out HB1.out.size hb2)
  have HR2 := toHid (RowI.of hr2)
  have HIR := toHid hR
  have HLD := toHid (ring_leads hR)
  clear HG1 HB1 hr2 hb2 hR
  rcases List.eq_nil_or_concat R with rfl | ⟨R0, z0, hR0⟩
  · have tok3 : True := trivial
    go_wp2_with (first
      | (go_at_call 20; have _t := tok3; refine (leads20 HG2.out hkx hkx (by omega)).mono ?_; rintro e w3 ⟨rfl, hb3⟩; rw [HLD.out]; have HG3 := toHid (HG2.out.below hb3); have HB3 := toHid (below_next HB2.out HB2.out.size hb3); clear hb3 tok3)
      | (go_at_call 23; refine (victim23 HG3.out hkx (by omega)).mono ?_; rintro e w4 ⟨R4, rfl, hR4, hb4⟩; obtain rfl := ring_again HIR.out hR4; have HB4 := toHid (below_next HB3.out HB3.out.size hb4); clear hb4 hR4)
      | fail)
    refine wp_loop_rounds 1 ?_
    rw [rounds_succ]
    go_wp2_with (first
      | (go_at_call 18; refine (lives18 _).mono ?_; rintro e w5 ⟨rfl, hb5⟩; have HB5 := toHid (below_next HB4.out HB4.out.size hb5); clear hb5)
      | fail)
    go_ret
    exact ⟨rfl, HB5.out⟩
  · have hne : R ≠ [] := by rw [hR0]; simp
    have hem : R.isEmpty = false := by rw [hR0]; simp
    have hpos : 0 < R.length := by rw [hR0]; simp
    have hpi : 0 < (R.length : Int) := by omega
    obtain ⟨vv, hvv⟩ : ∃ vv, R.getLastD 0 = vv := ⟨_, rfl⟩
    have HVV := toHid hvv
    have HVI : Hid (∀ i, (hi : i < R.length) → R[i] ≤ vv) := fun i hi => by rw [← hvv]; exact rise_last HIR.out.rise hi
    clear hvv
    have HSelf := toHid (ring_self HIR.out hne)
    have HRise := toHid HIR.out.rise
    have HEM := toHid hem
    rw [hem] at HLD
    clear hR0 R0 z0 hne hem
    have tok3 : True := trivial
    go_wp2_with (first
      | (go_at_call 20; have _t := tok3; refine (leads20 HG2.out hkx hkx (by omega)).mono ?_; rintro e w3 ⟨rfl, hb3⟩; rw [HLD.out]; have HG3 := toHid (HG2.out.below hb3); have HB3 := toHid hb3; clear hb3 tok3)
      | (go_at_call 22; refine (has22 (HR2.out.below HB3.out) (by omega) x).mono ?_; rintro e w3' ⟨rfl, hw⟩; subst w3'; rw [decide_eq_true HSelf.out])
      | (go_at_call 23; refine (victim23 HG3.out hkx (by omega)).mono ?_; rintro e w4 ⟨R4, rfl, hR4, hb4⟩; obtain rfl := (ring_again HIR.out hR4).symm; rw [HEM.out, HVV.out]; have HB4 := toHid (below_next HB3.out HB3.out.size hb4); clear hb4 hR4)
      | fail)
    go_loopw [9] (fun k W => ∃ i : Nat, i ≤ R.length ∧ k = .int .i64 i ∧ Hid (Below w2.heap.size w2 W)) (fun k _ => R.length - (intOf k).toNat)
    case atStart => exact ⟨0, Nat.zero_le _, rfl, HB4⟩
    case round =>
      obtain ⟨i, hi, rfl, HB⟩ := hrel
      clear HG3 HB3 HB4
      have hq2 : 0 ≤ (i : Int) := by omega
      by_cases hlt : i < R.length
      · rcases i with _ | i
        · -- the first
          rw [show Value.int .i64 ((0 : Nat) : Int) = .int .i64 0 from rfl]
          have hy := HWF.out _ _ ((HIR.out.mem _).1 (List.getElem_mem hlt)).1
          have hyR := List.getElem_mem hlt
          have hyv := HVI.out 0 hlt
          obtain ⟨g, rfl, hcs⟩ := (HR2.out).resolve_left (fun e => by rw [e] at hlt; simp at hlt)
          have c0 := hcs 0 hlt
          obtain ⟨y, hyy⟩ : ∃ y, R[0] = y := ⟨_, rfl⟩
          rw [hyy] at hy hyR hyv c0
          have HC : Hid (∀ W, Below w2.heap.size w2 W → W.cell? ⟨g, 0, none⟩ = some (.int .i64 y)) := fun W hW => cell_low c0 (cell_lt c0) hW
          have HYR := toHid hyR
          have HRR := HR2
          clear hyy c0 hcs hyR
          have hky := keyI hy
          have hyv2 : decide (vv < y) = false := decide_eq_false (by omega)
          have hyv3 : ¬ vv < y := by omega
          have HGw := toHid (HG2.out.below HB.out)
          have HCw := toHid (HC.out _ HB.out)
          have d0 := HCw.out
          have hq1 : (0 : Int) < (R.length : Int) := by omega
          go_wp2_with (first
            | (go_at_call 23; refine (victim23 HGw.out hky (by omega)).mono ?_; rintro e w5 ⟨R5, rfl, hR5, hb5⟩; obtain rfl := (ring_same HIR.out HYR.out hR5).symm; rw [HEM.out, HVV.out]; have HB5 := toHid (below_next HB.out HB.out.size hb5).drew; have HG5 := toHid (show Gr 3 61 w5.drew p 60 E S from (HGw.out.below hb5).at fun _ _ => rfl); clear hb5 hR5)
            | fail)
          have hbd := HB5.out
          have HS0 := HC.out _ hbd
          refine wp_region_held_drew (S := fun W => W.cell? ⟨g, 0, none⟩ = some (.int .i64 y)) (by kernel_rfl) HS0 (fun hHeld => ?_)
          refine wpAnyH_take (i := 0) (v := ?_) rfl (by kernel_rfl) (by kernel_rfl) (by kernel_rfl) (fun _ _ _ h => h) (Or.inl ⟨by rfl, ?_⟩) (by assumption) ?_
          rotate_left
          · (intro W hSw; (try dsimp only at hSw); go_simp; try with_reducible rfl)
          try simp only [Act.put, List.getElem_toArray, List.getElem_cons_zero, List.setIfInBounds_toArray, List.set_cons_zero, List.set_cons_succ]
          refine wpAnyH_take (i := 1) (v := ?_) rfl (by kernel_rfl) (by kernel_rfl) (by kernel_rfl) (fun _ _ _ h => h) (Or.inl ⟨by rfl, ?_⟩) (by assumption) ?_
          rotate_left
          · (intro W hSw; (try dsimp only at hSw); go_simp; try with_reducible rfl)
          try simp only [Act.put, List.getElem_toArray, List.getElem_cons_zero, List.getElem_cons_succ, List.setIfInBounds_toArray, List.set_cons_zero, List.set_cons_succ]
          refine wpAnyH_take (i := 2) (v := ?_) rfl (by kernel_rfl) (by kernel_rfl) (by kernel_rfl) (fun _ _ _ h => h) (Or.inl ⟨by rfl, ?_⟩) (by assumption) ?_
          rotate_left
          · (intro W hSw; (try dsimp only at hSw); go_simp; try with_reducible rfl)
          try simp only [Act.put, List.getElem_toArray, List.getElem_cons_zero, List.getElem_cons_succ, List.setIfInBounds_toArray, List.set_cons_zero, List.set_cons_succ]
          refine wpAnyH_take (i := 3) (v := ?_) rfl (by kernel_rfl) (by kernel_rfl) (by kernel_rfl) (fun _ _ _ h => h) (Or.inl ⟨by rfl, ?_⟩) (by assumption) ?_
          rotate_left
          · (intro W hSw; (try dsimp only at hSw); go_simp; try with_reducible rfl)
          try simp only [Act.put, List.getElem_toArray, List.getElem_cons_zero, List.getElem_cons_succ, List.setIfInBounds_toArray, List.set_cons_zero, List.set_cons_succ]
          refine wpAnyH_take (i := 4) (v := ?_) rfl (by kernel_rfl) (by kernel_rfl) (by kernel_rfl) (fun _ _ _ h => h) (Or.inl ⟨by rfl, ?_⟩) (by assumption) ?_
          rotate_left
          · (intro W hSw; (try dsimp only at hSw); go_simp; try with_reducible rfl)
          try simp only [Act.put, List.getElem_toArray, List.getElem_cons_zero, List.getElem_cons_succ, List.setIfInBounds_toArray, List.set_cons_zero, List.set_cons_succ]
          refine wpAnyH_take (i := 6) (v := ?_) rfl (by kernel_rfl) (by kernel_rfl) (by kernel_rfl) (fun _ _ _ h => h) (Or.inl ⟨by rfl, ?_⟩) (by assumption) ?_
          rotate_left
          · (intro W hSw; (try dsimp only at hSw); go_simp; try with_reducible rfl)
          try simp only [Act.put, List.getElem_toArray, List.getElem_cons_zero, List.getElem_cons_succ, List.setIfInBounds_toArray, List.set_cons_zero, List.set_cons_succ]
          refine wpAnyH_ready (rs := [5]) (by kernel_rfl) (by simp) ?_
          refine AllReadyH.cons rfl (fun K hK => ?_) AllReadyH.nil
          clear hHeld
          go_simp
          refine (ringI HG5.out hky (by omega)).mono ?_
          rintro e w6 ⟨vd, ve, R6, rfl, hr6, hb6, hR6, hl6⟩
          obtain rfl := (ring_same HIR.out HYR.out hR6).symm
          have hb6' := below_next hbd hbd.size hb6
          have HR6 := toHid (RowI.of hr6)
          have HRo := toHid (HRR.out.below hb6')
          clear hr6 hR6 hb6
          try go_wp2_with fail
          refine hK.out _ _ (HC.out _ hb6') (fun hHeld => ?_)
          clear hK K
          try simp only [Act.put, List.getElem_toArray, List.getElem_cons_zero, List.getElem_cons_succ, List.setIfInBounds_toArray, List.set_cons_zero, List.set_cons_succ]
          refine wpAnyH_ready (rs := [7]) (by kernel_rfl) (by simp) ?_
          refine AllReadyH.cons rfl (fun K hK => ?_) AllReadyH.nil
          clear hHeld
          go_simp
          refine (same24 HR6.out HRo.out (by omega) (by omega)).mono ?_
          rintro e w7 ⟨rfl, hb7⟩
          rw [decide_eq_true rfl]
          have hb7' := below_next hb6' hb6'.size hb7
          clear hb7
          try go_wp2_with fail
          refine hK.out _ _ (HC.out _ hb7') (fun hHeld => ?_)
          clear hK K
          try simp only [Act.put, List.getElem_toArray, List.getElem_cons_zero, List.getElem_cons_succ, List.setIfInBounds_toArray, List.set_cons_zero, List.set_cons_succ]
          refine wpAnyH_take (i := 8) (v := ?_) rfl (by kernel_rfl) (by kernel_rfl) (by kernel_rfl) (fun _ _ _ h => h) (Or.inl ⟨by rfl, ?_⟩) (by assumption) ?_
          rotate_left
          · (intro W hSw; (try dsimp only at hSw); go_simp; try with_reducible rfl)
          try simp only [Act.put, List.getElem_toArray, List.getElem_cons_zero, List.getElem_cons_succ, List.setIfInBounds_toArray, List.set_cons_zero, List.set_cons_succ]
          refine wpAnyH_take (i := 9) (v := ?_) rfl (by kernel_rfl) (by kernel_rfl) (by kernel_rfl) (fun _ _ _ h => h) (Or.inl ⟨by rfl, ?_⟩) (by assumption) ?_
          rotate_left
          · (intro W hSw; (try dsimp only at hSw); go_simp; try with_reducible rfl)
          try simp only [Act.put, List.getElem_toArray, List.getElem_cons_zero, List.getElem_cons_succ, List.setIfInBounds_toArray, List.set_cons_zero, List.set_cons_succ]
          refine wpAnyH_take (i := 10) (v := ?_) rfl (by kernel_rfl) (by kernel_rfl) (by kernel_rfl) (fun _ _ _ h => h) (Or.inl ⟨by rfl, ?_⟩) (by assumption) ?_
          rotate_left
          · (intro W hSw; (try dsimp only at hSw); go_simp; try with_reducible rfl)
          try simp only [Act.put, List.getElem_toArray, List.getElem_cons_zero, List.getElem_cons_succ, List.setIfInBounds_toArray, List.set_cons_zero, List.set_cons_succ]
          refine wpAnyH_take (i := 11) (v := ?_) rfl (by kernel_rfl) (by kernel_rfl) (by kernel_rfl) (fun _ _ _ h => h) (Or.inl ⟨by rfl, ?_⟩) (by assumption) ?_
          rotate_left
          · (intro W hSw; (try dsimp only at hSw); go_simp; try with_reducible rfl)
          try simp only [Act.put, List.getElem_toArray, List.getElem_cons_zero, List.getElem_cons_succ, List.setIfInBounds_toArray, List.set_cons_zero, List.set_cons_succ]
          refine wpAnyH_take (i := 12) (v := ?_) rfl (by kernel_rfl) (by kernel_rfl) (by kernel_rfl) (fun _ _ _ h => h) (Or.inl ⟨by rfl, ?_⟩) (by assumption) ?_
          rotate_left
          · (intro W hSw; (try dsimp only at hSw); go_simp; try with_reducible rfl)
          try simp only [Act.put, List.getElem_toArray, List.getElem_cons_zero, List.getElem_cons_succ, List.setIfInBounds_toArray, List.set_cons_zero, List.set_cons_succ]
          refine wpAnyH_take (i := 13) (v := ?_) rfl (by kernel_rfl) (by kernel_rfl) (by kernel_rfl) (fun _ _ _ h => h) (Or.inl ⟨by rfl, ?_⟩) (by assumption) ?_
          rotate_left
          · (intro W hSw; (try dsimp only at hSw); go_simp; try with_reducible rfl)
          try simp only [Act.put, List.getElem_toArray, List.getElem_cons_zero, List.getElem_cons_succ, List.setIfInBounds_toArray, List.set_cons_zero, List.set_cons_succ]
          refine wpAnyH_take (i := 14) (v := ?_) rfl (by kernel_rfl) (by kernel_rfl) (by kernel_rfl) (fun _ _ _ h => h) (Or.inl ⟨by rfl, ?_⟩) (by assumption) ?_
          rotate_left
          · (intro W hSw; (try dsimp only at hSw); go_simp; try with_reducible rfl)
          try simp only [Act.put, List.getElem_toArray, List.getElem_cons_zero, List.getElem_cons_succ, List.setIfInBounds_toArray, List.set_cons_zero, List.set_cons_succ]
          refine wpAnyH_take (i := 15) (v := ?_) rfl (by kernel_rfl) (by kernel_rfl) (by kernel_rfl) (fun _ _ _ h => h) (Or.inl ⟨by rfl, ?_⟩) (by assumption) ?_
          rotate_left
          · (intro W hSw; (try dsimp only at hSw); go_simp; try with_reducible rfl)
          try simp only [Act.put, List.getElem_toArray, List.getElem_cons_zero, List.getElem_cons_succ, List.setIfInBounds_toArray, List.set_cons_zero, List.set_cons_succ]
          refine wpAnyH_take (i := 16) (v := ?_) rfl (by kernel_rfl) (by kernel_rfl) (by kernel_rfl) (fun _ _ _ h => h) (Or.inl ⟨by rfl, ?_⟩) (by assumption) ?_
          rotate_left
          · (intro W hSw; (try dsimp only at hSw); go_simp; try with_reducible rfl)
          try simp only [Act.put, List.getElem_toArray, List.getElem_cons_zero, List.getElem_cons_succ, List.setIfInBounds_toArray, List.set_cons_zero, List.set_cons_succ]
          refine wpAnyH_take (i := 17) (v := ?_) rfl (by kernel_rfl) (by kernel_rfl) (by kernel_rfl) (fun _ _ _ h => h) (Or.inl ⟨by rfl, ?_⟩) (by assumption) ?_
          rotate_left
          · (intro W hSw; (try dsimp only at hSw); go_simp; try with_reducible rfl)
          try simp only [Act.put, List.getElem_toArray, List.getElem_cons_zero, List.getElem_cons_succ, List.setIfInBounds_toArray, List.set_cons_zero, List.set_cons_succ]
          refine wpAnyH_take (i := 18) (v := ?_) rfl (by kernel_rfl) (by kernel_rfl) (by kernel_rfl) (fun _ _ _ h => h) (Or.inl ⟨by rfl, ?_⟩) (by assumption) ?_
          rotate_left
          · (intro W hSw; (try dsimp only at hSw); go_simp; try with_reducible rfl)
          try simp only [Act.put, List.getElem_toArray, List.getElem_cons_zero, List.getElem_cons_succ, List.setIfInBounds_toArray, List.set_cons_zero, List.set_cons_succ]
          refine wpAnyH_take (i := 19) (v := ?_) rfl (by kernel_rfl) (by kernel_rfl) (by kernel_rfl) (fun _ _ _ h => h) (Or.inl ⟨by rfl, ?_⟩) (by assumption) ?_
          rotate_left
          · (intro W hSw; (try dsimp only at hSw); go_simp; try with_reducible rfl)
          try simp only [Act.put, List.getElem_toArray, List.getElem_cons_zero, List.getElem_cons_succ, List.setIfInBounds_toArray, List.set_cons_zero, List.set_cons_succ]
          refine wpAnyH_take (i := 20) (v := ?_) rfl (by kernel_rfl) (by kernel_rfl) (by kernel_rfl) (fun _ _ _ h => h) (Or.inl ⟨by rfl, ?_⟩) (by assumption) ?_
          rotate_left
          · (intro W hSw; (try dsimp only at hSw); go_simp; try with_reducible rfl)
          try simp only [Act.put, List.getElem_toArray, List.getElem_cons_zero, List.getElem_cons_succ, List.setIfInBounds_toArray, List.set_cons_zero, List.set_cons_succ]
          refine wpAnyH_take (i := 21) (v := ?_) rfl (by kernel_rfl) (by kernel_rfl) (by kernel_rfl) (fun _ _ _ h => h) (Or.inl ⟨by rfl, ?_⟩) (by assumption) ?_
          rotate_left
          · (intro W hSw; (try dsimp only at hSw); go_simp; try with_reducible rfl)
          try simp only [Act.put, List.getElem_toArray, List.getElem_cons_zero, List.getElem_cons_succ, List.setIfInBounds_toArray, List.set_cons_zero, List.set_cons_succ]
          refine wpAnyH_take (i := 22) (v := ?_) rfl (by kernel_rfl) (by kernel_rfl) (by kernel_rfl) (fun _ _ _ h => h) (Or.inl ⟨by rfl, ?_⟩) (by assumption) ?_
          rotate_left
          · (intro W hSw; (try dsimp only at hSw); go_simp; try with_reducible rfl)
          try simp only [Act.put, List.getElem_toArray, List.getElem_cons_zero, List.getElem_cons_succ, List.setIfInBounds_toArray, List.set_cons_zero, List.set_cons_succ]
          refine wpAnyH_take (i := 23) (v := ?_) rfl (by kernel_rfl) (by kernel_rfl) (by kernel_rfl) (fun _ _ _ h => h) (Or.inl ⟨by rfl, ?_⟩) (by assumption) ?_
          rotate_left
          · (intro W hSw; (try dsimp only at hSw); go_simp; try with_reducible rfl)
          try simp only [Act.put, List.getElem_toArray, List.getElem_cons_zero, List.getElem_cons_succ, List.setIfInBounds_toArray, List.set_cons_zero, List.set_cons_succ]
          refine wpAnyH_take (i := 24) (v := ?_) rfl (by kernel_rfl) (by kernel_rfl) (by kernel_rfl) (fun _ _ _ h => h) (Or.inl ⟨by rfl, ?_⟩) (by assumption) ?_
          rotate_left
          · (intro W hSw; (try dsimp only at hSw); go_simp; try with_reducible rfl)
          try simp only [Act.put, List.getElem_toArray, List.getElem_cons_zero, List.getElem_cons_succ, List.setIfInBounds_toArray, List.set_cons_zero, List.set_cons_succ]
          refine wpAnyH_take (i := 25) (v := ?_) rfl (by kernel_rfl) (by kernel_rfl) (by kernel_rfl) (fun _ _ _ h => h) (Or.inl ⟨by rfl, ?_⟩) (by assumption) ?_
          rotate_left
          · (intro W hSw; (try dsimp only at hSw); go_simp; try with_reducible rfl)
          try simp only [Act.put, List.getElem_toArray, List.getElem_cons_zero, List.getElem_cons_succ, List.setIfInBounds_toArray, List.set_cons_zero, List.set_cons_succ]
          refine wpAnyH_take (i := 26) (v := ?_) rfl (by kernel_rfl) (by kernel_rfl) (by kernel_rfl) (fun _ _ _ h => h) (Or.inl ⟨by rfl, ?_⟩) (by assumption) ?_
          rotate_left
          · (intro W hSw; (try dsimp only at hSw); go_simp; try with_reducible rfl)
          try simp only [Act.put, List.getElem_toArray, List.getElem_cons_zero, List.getElem_cons_succ, List.setIfInBounds_toArray, List.set_cons_zero, List.set_cons_succ]
          refine wpAnyH_take (i := 27) (v := ?_) rfl (by kernel_rfl) (by kernel_rfl) (by kernel_rfl) (fun _ _ _ h => h) (Or.inl ⟨by rfl, ?_⟩) (by assumption) ?_
          rotate_left
          · (intro W hSw; (try dsimp only at hSw); go_simp; try with_reducible rfl)
          try simp only [Act.put, List.getElem_toArray, List.getElem_cons_zero, List.getElem_cons_succ, List.setIfInBounds_toArray, List.set_cons_zero, List.set_cons_succ]
          refine wpAnyH_take (i := 28) (v := ?_) rfl (by kernel_rfl) (by kernel_rfl) (by kernel_rfl) (fun _ _ _ h => h) (Or.inl ⟨by rfl, ?_⟩) (by assumption) ?_
          rotate_left
          · (intro W hSw; (try dsimp only at hSw); go_simp; try with_reducible rfl)
          try simp only [Act.put, List.getElem_toArray, List.getElem_cons_zero, List.getElem_cons_succ, List.setIfInBounds_toArray, List.set_cons_zero, List.set_cons_succ]
          refine wpAnyH_take (i := 29) (v := ?_) rfl (by kernel_rfl) (by kernel_rfl) (by kernel_rfl) (fun _ _ _ h => h) (Or.inl ⟨by rfl, ?_⟩) (by assumption) ?_
          rotate_left
          · (intro W hSw; (try dsimp only at hSw); go_simp; try with_reducible rfl)
          try simp only [Act.put, List.getElem_toArray, List.getElem_cons_zero, List.getElem_cons_succ, List.setIfInBounds_toArray, List.set_cons_zero, List.set_cons_succ]
          refine wpAnyH_take (i := 30) (v := undef) rfl (by kernel_rfl) (by kernel_rfl) (by kernel_rfl) (fun _ _ _ h => h) (Or.inr ⟨by rfl, rfl⟩) (by assumption) ?_
          try simp only [Act.put, List.getElem_toArray, List.getElem_cons_zero, List.getElem_cons_succ, List.setIfInBounds_toArray, List.set_cons_zero, List.set_cons_succ]
          refine wpAnyH_take (i := 31) (v := undef) rfl (by kernel_rfl) (by kernel_rfl) (by kernel_rfl) (fun _ _ _ h => h) (Or.inr ⟨by rfl, rfl⟩) (by assumption) ?_
          try simp only [Act.put, List.getElem_toArray, List.getElem_cons_zero, List.getElem_cons_succ, List.setIfInBounds_toArray, List.set_cons_zero, List.set_cons_succ]
          refine wpAnyH_take (i := 32) (v := undef) rfl (by kernel_rfl) (by kernel_rfl) (by kernel_rfl) (fun _ _ _ h => h) (Or.inr ⟨by rfl, rfl⟩) (by assumption) ?_
          try simp only [Act.put, List.getElem_toArray, List.getElem_cons_zero, List.getElem_cons_succ, List.setIfInBounds_toArray, List.set_cons_zero, List.set_cons_succ]
          refine wpAnyH_take (i := 33) (v := undef) rfl (by kernel_rfl) (by kernel_rfl) (by kernel_rfl) (fun _ _ _ h => h) (Or.inr ⟨by rfl, rfl⟩) (by assumption) ?_
          try simp only [Act.put, List.getElem_toArray, List.getElem_cons_zero, List.getElem_cons_succ, List.setIfInBounds_toArray, List.set_cons_zero, List.set_cons_succ]
          refine wpAnyH_take (i := 34) (v := undef) rfl (by kernel_rfl) (by kernel_rfl) (by kernel_rfl) (fun _ _ _ h => h) (Or.inr ⟨by rfl, rfl⟩) (by assumption) ?_
          try simp only [Act.put, List.getElem_toArray, List.getElem_cons_zero, List.getElem_cons_succ, List.setIfInBounds_toArray, List.set_cons_zero, List.set_cons_succ]
          refine wpAnyH_take (i := 35) (v := undef) rfl (by kernel_rfl) (by kernel_rfl) (by kernel_rfl) (fun _ _ _ h => h) (Or.inr ⟨by rfl, rfl⟩) (by assumption) ?_
          try simp only [Act.put, List.getElem_toArray, List.getElem_cons_zero, List.getElem_cons_succ, List.setIfInBounds_toArray, List.set_cons_zero, List.set_cons_succ]
          refine wpAnyH_take (i := 36) (v := undef) rfl (by kernel_rfl) (by kernel_rfl) (by kernel_rfl) (fun _ _ _ h => h) (Or.inr ⟨by rfl, rfl⟩) (by assumption) ?_
          try simp only [Act.put, List.getElem_toArray, List.getElem_cons_zero, List.getElem_cons_succ, List.setIfInBounds_toArray, List.set_cons_zero, List.set_cons_succ]
          refine wpAnyH_take (i := 37) (v := undef) rfl (by kernel_rfl) (by kernel_rfl) (by kernel_rfl) (fun _ _ _ h => h) (Or.inr ⟨by rfl, rfl⟩) (by assumption) ?_
          try simp only [Act.put, List.getElem_toArray, List.getElem_cons_zero, List.getElem_cons_succ, List.setIfInBounds_toArray, List.set_cons_zero, List.set_cons_succ]
          refine wpAnyH_take (i := 38) (v := undef) rfl (by kernel_rfl) (by kernel_rfl) (by kernel_rfl) (fun _ _ _ h => h) (Or.inr ⟨by rfl, rfl⟩) (by assumption) ?_
          try simp only [Act.put, List.getElem_toArray, List.getElem_cons_zero, List.getElem_cons_succ, List.setIfInBounds_toArray, List.set_cons_zero, List.set_cons_succ]
          refine wpAnyH_take (i := 39) (v := undef) rfl (by kernel_rfl) (by kernel_rfl) (by kernel_rfl) (fun _ _ _ h => h) (Or.inr ⟨by rfl, rfl⟩) (by assumption) ?_
          try simp only [Act.put, List.getElem_toArray, List.getElem_cons_zero, List.getElem_cons_succ, List.setIfInBounds_toArray, List.set_cons_zero, List.set_cons_succ]
          refine wpAnyH_take (i := 40) (v := ?_) rfl (by kernel_rfl) (by kernel_rfl) (by kernel_rfl) (fun _ _ _ h => h) (Or.inl ⟨by rfl, ?_⟩) (by assumption) ?_
          rotate_left
          · (intro W hSw; (try dsimp only at hSw); go_simp; try with_reducible rfl)
          try simp only [Act.put, List.getElem_toArray, List.getElem_cons_zero, List.getElem_cons_succ, List.setIfInBounds_toArray, List.set_cons_zero, List.set_cons_succ]
          refine wpAnyH_take (i := 41) (v := ?_) rfl (by kernel_rfl) (by kernel_rfl) (by kernel_rfl) (fun _ _ _ h => h) (Or.inl ⟨by rfl, ?_⟩) (by assumption) ?_
          rotate_left
          · (intro W hSw; (try dsimp only at hSw); go_simp; try with_reducible rfl)
          try simp only [Act.put, List.getElem_toArray, List.getElem_cons_zero, List.getElem_cons_succ, List.setIfInBounds_toArray, List.set_cons_zero, List.set_cons_succ]
          refine wpAnyH_done (by kernel_rfl) ?_ _
          clear hHeld
          simp only [Exit.then]
          have HB7 := toHid hb7'
          go_wp2_with fail
          go_roundw
          case rel => exact ⟨0 + 1, by omega, by simp, HB7⟩
          case measure => first | omega | (simp only [intOf]; omega)
        · -- another
          rw [show Value.int .i64 ((i + 1 : Nat) : Int) = .int .i64 ((i : Int) + 1) from by simp]
          have hz1 : 0 ≤ (i : Int) + 1 := by omega
          have hz2 : (i : Int) < (R.length : Int) := by omega
          have hz3 : 0 ≤ (i : Int) := by omega
          have hwi : IntKind.i64.wrap (i : Int) = (i : Int) := by simp [IntKind.wrap, IntKind.bits, IntKind.signed]; omega
          have hwj : IntKind.i64.wrap ((i : Int) + 1 - 1) = (i : Int) := by rw [show (i : Int) + 1 - 1 = i by omega]; exact hwi
          have hy := HWF.out _ _ ((HIR.out.mem _).1 (List.getElem_mem hlt)).1
          have hyR := List.getElem_mem hlt
          have hyv := HVI.out (i + 1) hlt
          obtain ⟨g, rfl, hcs⟩ := (HR2.out).resolve_left (fun e => by rw [e] at hlt; simp at hlt)
          have c0 := hcs (i + 1) hlt
          obtain ⟨y, hyy⟩ : ∃ y, R[i + 1] = y := ⟨_, rfl⟩
          rw [hyy] at hy hyR hyv c0
          have c1 := hcs i (by omega)
          have hlt0 : R[i] < R[i + 1] := rise_step HRise.out hlt
          rw [hyy] at hlt0
          obtain ⟨y0, hyy0⟩ : ∃ y0, R[i] = y0 := ⟨_, rfl⟩
          rw [hyy0] at hlt0 c1
          have HC : Hid (∀ W, Below w2.heap.size w2 W → W.cell? ⟨g, i + 1, none⟩ = some (.int .i64 y) ∧ W.cell? ⟨g, i, none⟩ = some (.int .i64 y0)) := fun W hW => ⟨cell_low c0 (cell_lt c0) hW, cell_low c1 (cell_lt c1) hW⟩
          clear hyy0 c1
          have HYR := toHid hyR
          have HRR := HR2
          clear hyy c0 hcs hyR
          have hky := keyI hy
          have hyv2 : decide (vv < y) = false := decide_eq_false (by omega)
          have hyv3 : ¬ vv < y := by omega
          have hyw2 : decide (y ≤ y0) = false := decide_eq_false (by omega)
          have hyw3 : ¬ y ≤ y0 := by omega
          have hyi2 : decide ((0 : Int) < (i : Int) + 1) = true := decide_eq_true (by omega)
          have hyi3 : (0 : Int) < (i : Int) + 1 := by omega
          have HGw := toHid (HG2.out.below HB.out)
          have HCw := toHid (HC.out _ HB.out)
          obtain ⟨d0, d1⟩ := HCw.out
          have hq1 : ((i : Int) + 1) < (R.length : Int) := by omega
          go_wp2_with (first
            | (go_at_call 23; refine (victim23 HGw.out hky (by omega)).mono ?_; rintro e w5 ⟨R5, rfl, hR5, hb5⟩; obtain rfl := (ring_same HIR.out HYR.out hR5).symm; rw [HEM.out, HVV.out]; have HB5 := toHid (below_next HB.out HB.out.size hb5).drew; have HG5 := toHid (show Gr 3 61 w5.drew p 60 E S from (HGw.out.below hb5).at fun _ _ => rfl); clear hb5 hR5)
            | fail)
          have hbd := HB5.out
          go_region_held3 (fun W => W.cell? ⟨g, i + 1, none⟩ = some (.int .i64 y) ∧ W.cell? ⟨g, i, none⟩ = some (.int .i64 y0)) (exact HC.out _ (by assumption)) (first | (go_at_call 21; refine (ringI HG5.out hky (by omega)).mono ?_; rintro e w6 ⟨vd, ve, R6, rfl, hr6, hb6, hR6, hl6⟩; obtain rfl := (ring_same HIR.out HYR.out hR6).symm; have hb6' := below_next hbd hbd.size hb6; have HR6 := toHid (RowI.of hr6); have HRo := toHid (HRR.out.below hb6'); clear hr6 hR6 hb6) | (go_at_call 24; refine (same24 HR6.out HRo.out (by omega) (by omega)).mono ?_; rintro e w7 ⟨rfl, hb7⟩; rw [decide_eq_true rfl]; have hb7' := below_next hb6' hb6'.size hb7; clear hb7))
          have HB7 := toHid hb7'
          go_wp2_with fail
          go_roundw
          case rel => exact ⟨i + 1 + 1, by omega, by simp, HB7⟩
          case measure => first | omega | (simp only [intOf]; omega)
      · obtain rfl : i = R.length := by omega
        go_wp2_with (first
          | (go_at_call 18; refine (lives18 _).mono ?_; rintro e w5 ⟨rfl, hb5⟩; have HB5 := toHid (below_next (below_next HB2.out HB2.out.size HB.out) (Nat.le_trans HB2.out.size HB.out.size) hb5); clear hb5)
          | fail)
        go_ret
        exact ⟨rfl, HB5.out⟩

end Go.Proofs.Ytoihjkpjijncdaa
