/-
  The walk of GraphTexts.
-/
import Derived.Test.YtoihjkpjijncdaaTw
namespace Go.Proofs.Ytoihjkpjijncdaa
open Go.RowKit Go.Maps

set_option maxRecDepth 100000 in
set_option maxHeartbeats 4000000 in
theorem texts_walk {w : World} {a : Option Addr} {c : Nat} {l : List (Int × Int)} (hL : SlE w a l) {x : Int} (hx : (Lit.int .i64 x).wf = true) :
    Calls Try.prog 7 #[.slice a l.length c, .int .i64 x] w fun e w' => e = .returned (.bool true) ∧ Below w.heap.size w w' := by
  have HL := toHid hL
  have hkx := keyI hx
  clear hL
  go_enter Try.func7, Try.ntmps7
  go_wp2_with fail
  refine (made19 HL.out).mono ?_
  rintro e w1 ⟨p, S, rfl, hM⟩
  have HM := toHid hM
  clear hM
  go_wp2_with fail
  refine (newT w1).mono ?_
  rintro e w2 ⟨q, T0, rfl, hg2, hb2, hn2⟩
  have HT0 := toHid (show TwT w p q 60 0 (madeE l 60) ((madeE l 0).map phE) S T0 w2 from ⟨below_next HM.out.low HM.out.low.size hb2, HM.out.gr.below hb2, hg2, fun i hi hT => by have := HM.out.gr.lt hi; have := hn2 i hT; omega, fun i hi => by
    rcases hi with h1 | h1
    · exact HM.out.new i h1
    · exact Nat.le_trans HM.out.low.size (hn2 i h1)⟩)
  have hEl := madeE_len l 60
  clear hg2 hb2 hn2 HM
  go_wp2_with fail
  go_loopw [7] (fun k W => ∃ (i : Nat) (T : Nat → Prop), i ≤ l.length ∧ i ≤ 60 ∧ k = .int .i64 i ∧ Hid (TwT w p q 60 i (madeE l 60) ((madeE l i).map phE) S T W) ∧ Hid (∀ j, (hj : j < l.length) → j < i → 0 ≤ l[j].1 ∧ l[j].1 ≤ 99 ∧ 0 ≤ l[j].2 ∧ l[j].2 ≤ 99)) (fun k _ => l.length - (intOf k).toNat)
  case atStart => exact ⟨0, T0, Nat.zero_le _, by omega, rfl, HT0, toHid fun j _ hj => by omega⟩
  case round =>
    obtain ⟨i, T, hi, h60, rfl, HT, HR⟩ := hrel
    clear HT0
    have hq2 : 0 ≤ (i : Int) := by omega
    have hend : i < l.length ∧ i < 60 ∨ (¬ (i < l.length ∧ i < 60)) := by omega
    rcases hend with ⟨hlt, h6⟩ | hend
    · have hq1 : (i : Int) < (l.length : Int) := by omega
      have hq3 : (i : Int) < 60 := by omega
      obtain ⟨b, o, rfl, c0, c1⟩ := HL.out.at_ i hlt
      obtain ⟨e, he⟩ : ∃ e, l[i] = e := ⟨_, rfl⟩
      rw [he] at c0 c1
      obtain ⟨u, v⟩ := e
      have HC : Hid (∀ W, Below w.heap.size w W → W.cell? ⟨b, o + i * 2, none⟩ = some (.int .i64 u) ∧ W.cell? ⟨b, o + i * 2 + 1, none⟩ = some (.int .i64 v)) := fun W hW => ⟨cell_low c0 (cell_lt c0) hW, cell_low c1 (cell_lt c1) hW⟩
      have HE := toHid he
      clear c0 c1 he
      obtain ⟨d0, d1⟩ := HC.out _ HT.out.low
      by_cases hin : 0 ≤ u ∧ u ≤ 99 ∧ 0 ≤ v ∧ v ≤ 99
      · obtain ⟨hi1, hi2, hi3, hi4⟩ := hin
        have hm0 := madeGood i hi HR.out
        obtain ⟨n, hn, rfl⟩ : ∃ n : Nat, n ≤ 99 ∧ u = (n : Int) := ⟨u.toNat, by omega, by omega⟩
        obtain ⟨m, hm, rfl⟩ : ∃ m : Nat, m ≤ 99 ∧ v = (m : Int) := ⟨v.toNat, by omega, by omega⟩
        have HEQ : Hid (addE ((madeE l i).map phE) (.string (nmL n), .string (nmL m)) = (madeE l (i + 1)).map phE) := by
          show _ = _
          rw [madeE_succ hlt, HE.out, ← phL_int, ← phL_int]
          exact addE_ph hm0 ⟨n, hn, rfl⟩ ⟨m, hm, rfl⟩
        have HR' : Hid (∀ j, (hj : j < l.length) → j < i + 1 → 0 ≤ l[j].1 ∧ l[j].1 ≤ 99 ∧ 0 ≤ l[j].2 ∧ l[j].2 ≤ 99) := fun j hj hji => by
          by_cases e : j = i
          · subst e
            rw [HE.out]
            exact ⟨hi1, hi2, hi3, hi4⟩
          · exact HR.out j hj (by omega)
        have hn2 : ¬ (99 : Int) < (n : Int) := by omega
        have hm2 : ¬ (99 : Int) < (m : Int) := by omega
        have hn3 : ¬ (n : Int) < 0 := by omega
        have hm3 : ¬ (m : Int) < 0 := by omega
        have hmf : ((madeE l i).map phE).length < 1000000 := by have := madeE_len l i; simp; omega
        have hT := HT.out.drew
        clear hm0 hi1 hi3
        go_wp2_with fail
        have hTc := hT
        refine wp_region_held_drew (S := fun W => W.cell? ⟨b, o + i * 2, none⟩ = some (.int .i64 (n : Int)) ∧ W.cell? ⟨b, o + i * 2 + 1, none⟩ = some (.int .i64 (m : Int))) (by kernel_rfl) (HC.out _ hT.low) (fun hHeld => ?_)
        clear hT
        refine wpAnyH_take (i := 0) (v := ?_) rfl (by kernel_rfl) (by kernel_rfl) (by kernel_rfl) (fun _ _ _ h => h) (Or.inl ⟨by rfl, ?_⟩) (by assumption) ?_
        rotate_left
        · (intro W hSw; (try dsimp only at hSw); go_simp; try with_reducible rfl)
        try simp only [Act.put, List.getElem_toArray, List.getElem_cons_zero, List.setIfInBounds_toArray, List.set_cons_zero, List.set_cons_succ]
        refine wpAnyH_take (i := 1) (v := ?_) rfl (by kernel_rfl) (by kernel_rfl) (by kernel_rfl) (fun _ _ _ h => h) (Or.inl ⟨by rfl, ?_⟩) (by assumption) ?_
        rotate_left
        · (intro W hSw; (try dsimp only at hSw); go_simp; try with_reducible rfl)
        try simp only [Act.put, List.getElem_toArray, List.getElem_cons_zero, List.getElem_cons_succ, List.setIfInBounds_toArray, List.set_cons_zero, List.set_cons_succ]
        refine wpAnyH_take (i := 2) (v := ?_) rfl (by kernel_rfl) (by kernel_rfl) (by kernel_rfl) (fun _ _ _ h => h) (Or.inl ⟨by rfl, ?_⟩) (by assumption) ?_
        rotate_left
        · (intro W hSw; (try dsimp only at hSw); go_simp; try with_reducible rfl)
        try simp only [Act.put, List.getElem_toArray, List.getElem_cons_zero, List.getElem_cons_succ, List.setIfInBounds_toArray, List.set_cons_zero, List.set_cons_succ]
        refine wpAnyH_take (i := 3) (v := ?_) rfl (by kernel_rfl) (by kernel_rfl) (by kernel_rfl) (fun _ _ _ h => h) (Or.inl ⟨by rfl, ?_⟩) (by assumption) ?_
        rotate_left
        · (intro W hSw; (try dsimp only at hSw); go_simp; try with_reducible rfl)
        try simp only [Act.put, List.getElem_toArray, List.getElem_cons_zero, List.getElem_cons_succ, List.setIfInBounds_toArray, List.set_cons_zero, List.set_cons_succ]
        refine wpAnyH_take (i := 4) (v := ?_) rfl (by kernel_rfl) (by kernel_rfl) (by kernel_rfl) (fun _ _ _ h => h) (Or.inl ⟨by rfl, ?_⟩) (by assumption) ?_
        rotate_left
        · (intro W hSw; (try dsimp only at hSw); go_simp; try with_reducible rfl)
        try simp only [Act.put, List.getElem_toArray, List.getElem_cons_zero, List.getElem_cons_succ, List.setIfInBounds_toArray, List.set_cons_zero, List.set_cons_succ]
        refine wpAnyH_take (i := 5) (v := ?_) rfl (by kernel_rfl) (by kernel_rfl) (by kernel_rfl) (fun _ _ _ h => h) (Or.inl ⟨by rfl, ?_⟩) (by assumption) ?_
        rotate_left
        · (intro W hSw; (try dsimp only at hSw); go_simp; try with_reducible rfl)
        try simp only [Act.put, List.getElem_toArray, List.getElem_cons_zero, List.getElem_cons_succ, List.setIfInBounds_toArray, List.set_cons_zero, List.set_cons_succ]
        refine wpAnyH_take (i := 7) (v := ?_) rfl (by kernel_rfl) (by kernel_rfl) (by kernel_rfl) (fun _ _ _ h => h) (Or.inl ⟨by rfl, ?_⟩) (by assumption) ?_
        rotate_left
        · (intro W hSw; (try dsimp only at hSw); go_simp; try with_reducible rfl)
        try simp only [Act.put, List.getElem_toArray, List.getElem_cons_zero, List.getElem_cons_succ, List.setIfInBounds_toArray, List.set_cons_zero, List.set_cons_succ]
        refine wpAnyH_take (i := 8) (v := ?_) rfl (by kernel_rfl) (by kernel_rfl) (by kernel_rfl) (fun _ _ _ h => h) (Or.inl ⟨by rfl, ?_⟩) (by assumption) ?_
        rotate_left
        · (intro W hSw; (try dsimp only at hSw); go_simp; try with_reducible rfl)
        try simp only [Act.put, List.getElem_toArray, List.getElem_cons_zero, List.getElem_cons_succ, List.setIfInBounds_toArray, List.set_cons_zero, List.set_cons_succ]
        refine wpAnyH_take (i := 9) (v := ?_) rfl (by kernel_rfl) (by kernel_rfl) (by kernel_rfl) (fun _ _ _ h => h) (Or.inl ⟨by rfl, ?_⟩) (by assumption) ?_
        rotate_left
        · (intro W hSw; (try dsimp only at hSw); go_simp; try with_reducible rfl)
        try simp only [Act.put, List.getElem_toArray, List.getElem_cons_zero, List.getElem_cons_succ, List.setIfInBounds_toArray, List.set_cons_zero, List.set_cons_succ]
        refine wpAnyH_take (i := 10) (v := ?_) rfl (by kernel_rfl) (by kernel_rfl) (by kernel_rfl) (fun _ _ _ h => h) (Or.inl ⟨by rfl, ?_⟩) (by assumption) ?_
        rotate_left
        · (intro W hSw; (try dsimp only at hSw); go_simp; try with_reducible rfl)
        try simp only [Act.put, List.getElem_toArray, List.getElem_cons_zero, List.getElem_cons_succ, List.setIfInBounds_toArray, List.set_cons_zero, List.set_cons_succ]
        refine wpAnyH_take (i := 11) (v := ?_) rfl (by kernel_rfl) (by kernel_rfl) (by kernel_rfl) (fun _ _ _ h => h) (Or.inl ⟨by rfl, ?_⟩) (by assumption) ?_
        rotate_left
        · (intro W hSw; (try dsimp only at hSw); go_simp; try with_reducible rfl)
        try simp only [Act.put, List.getElem_toArray, List.getElem_cons_zero, List.getElem_cons_succ, List.setIfInBounds_toArray, List.set_cons_zero, List.set_cons_succ]
        refine wpAnyH_ready (rs := [6]) (by kernel_rfl) (by simp) ?_
        refine AllReadyH.cons rfl (fun K hK => ?_) AllReadyH.nil
        clear hHeld
        go_simp
        refine (named28 _ n hn).mono ?_
        rintro e wa ⟨rfl, hba⟩
        have hTa := TwT.below hTc hba
        clear hTc hba
        have hTc := hTa
        clear hTa
        try go_wp2_with fail
        refine hK.out _ _ (HC.out _ hTc.low) (fun hHeld => ?_)
        clear hK K
        try simp only [Act.put, List.getElem_toArray, List.getElem_cons_zero, List.getElem_cons_succ, List.setIfInBounds_toArray, List.set_cons_zero, List.set_cons_succ]
        refine wpAnyH_ready (rs := [12]) (by kernel_rfl) (by simp) ?_
        refine AllReadyH.cons rfl (fun K hK => ?_) AllReadyH.nil
        clear hHeld
        go_simp
        refine (named28 _ m hm).mono ?_
        rintro e wb ⟨rfl, hbb⟩
        have hTb := TwT.below hTc hbb
        clear hTc hbb
        have hTc := hTb
        clear hTb
        try go_wp2_with fail
        refine hK.out _ _ (HC.out _ hTc.low) (fun hHeld => ?_)
        clear hK K
        try simp only [Act.put, List.getElem_toArray, List.getElem_cons_zero, List.getElem_cons_succ, List.setIfInBounds_toArray, List.set_cons_zero, List.set_cons_succ]
        refine wpAnyH_ready (rs := [13]) (by kernel_rfl) (by simp) ?_
        refine AllReadyH.cons rfl (fun K hK => ?_) AllReadyH.nil
        clear hHeld
        go_simp
        refine (addT hTc.g2 (keyN (n := n)) (keyN (n := m)) (by unfold maxLen; omega) hmf).mono ?_
        rintro e wz ⟨T2, rfl, hg9, ht9, hs9⟩
        have hTz := hTc.second hg9 ht9 hs9
        clear hg9 ht9 hs9 hTc
        try go_wp2_with fail
        refine hK.out _ _ (HC.out _ hTz.low) (fun hHeld => ?_)
        clear hK K hHeld
        try simp only [Act.put, List.getElem_toArray, List.getElem_cons_zero, List.getElem_cons_succ, List.setIfInBounds_toArray, List.set_cons_zero, List.set_cons_succ]
        refine wpAnyH_done (by kernel_rfl) ?_ _
        try simp only [Exit.then]
        have HT9 := toHid hTz
        clear hTz
        go_wp2_with fail
        go_roundw
        case rel => exact ⟨i + 1, T2, by omega, by omega, by simp, by rw [← HEQ.out]; exact HT9, HR'⟩
        case measure => first | omega | (simp only [intOf]; omega)
      · have hcase : u < 0 ∨ (0 ≤ u ∧ 99 < u) ∨ (0 ≤ u ∧ u ≤ 99 ∧ v < 0) ∨ (0 ≤ u ∧ u ≤ 99 ∧ 0 ≤ v ∧ 99 < v) := by omega
        clear hin
        rcases hcase with h1 | ⟨h1, h2⟩ | ⟨h1, h2, h3⟩ | ⟨h1, h2, h3, h4⟩
        all_goals
          go_wp2_with (first
            | (go_at_call 18; refine (lives18 _).mono ?_; rintro e w9 ⟨rfl, hb9⟩; have HB9 := toHid (below_next HT.out.low HT.out.low.size hb9); clear hb9)
            | fail)
          go_ret
          exact ⟨rfl, HB9.out⟩
    · by_cases hlt : i < l.length
      · obtain rfl : i = 60 := by omega
        have hq1 : ((60 : Nat) : Int) < (l.length : Int) := by omega
        clear hend
        have HGd := toHid (madeGood 60 hi HR.out)
        have HTT := toHid (show TwT w p q 60 60 (madeE l 60) ((madeE l 60).map phE) S T wr from by
          have h0 : madeE l 60 = madeE l 60 := by rfl
          rw [← h0]
          exact ⟨HT.out.low, h0 ▸ HT.out.g1, HT.out.g2.mono (by omega), HT.out.apart, HT.out.new⟩)
        have HGG : Hid (GoodE (madeE l 60)) := by
          have h0 : madeE l 60 = madeE l 60 := by rfl
          rw [← h0]
          exact HGd.out
        clear HT HR HGd
        generalize madeE l 60 = E at *
        have hle : (E.map phE).length = E.length := by simp
        have HLE := toHid hle
        clear hle
        have tok1 : True := trivial
        have tok2 : True := trivial
        by_cases hin : 0 ≤ x ∧ x ≤ 99
        · obtain ⟨n, hn, rfl⟩ : ∃ n : Nat, n ≤ 99 ∧ x = (n : Int) := ⟨x.toNat, by omega, by omega⟩
          have hn2 : ¬ (99 : Int) < (n : Int) := by omega
          have hn3 : ¬ (n : Int) < 0 := by omega
          have hml : (E.map phE).length ≤ 100000 := by rw [HLE.out]; omega
          have HML := toHid hml
          clear hml hin
          go_wp2_with (first
            | (go_at_call 16; refine (lenI HTT.out.g1).mono ?_; rintro e w3 ⟨rfl, hw3⟩; subst w3)
            | (go_at_call 29; refine (lenT HTT.out.g2).mono ?_; rintro e w3 ⟨rfl, hw3⟩; subst w3; rw [HLE.out])
            | (go_at_call 21; refine (ringI HTT.out.g1 hkx (by omega)).mono ?_; rintro e w4 ⟨va, vc, R, rfl, hr4, hb4, hR4, hl4⟩; have HT4 := toHid (HTT.out.below hb4); have HR4 := toHid hr4; have HI4 := toHid hR4; clear hr4 hb4 hR4)
            | (go_at_call 28; refine (named28 _ n hn).mono ?_; rintro e w5 ⟨rfl, hb5⟩; have HT5 := toHid (HT4.out.below hb5); have HR5 := toHid (row_below HR4.out hb5); clear hb5)
            | (go_at_call 30; refine (ringT HT5.out.g2 (keyN (n := n)) HML.out).mono ?_; rintro e w6 ⟨vd, ve, Q, rfl, hr6, hb6, hR6, hl6⟩; have HQ := toHid (ring_ph HGG.out hn HI4.out hR6); have HT6 := toHid (HT5.out.below hb6); have HR6 := toHid (RowI.of (row_below HR5.out hb6)); have HQ6 := toHid (RowT.of hr6); clear hr6 hb6 hR6; have hQl : Q.length = R.length := (by rw [HQ.out]; simp); rw [hQl])
            | fail)
          clear HT4 HT5 HTT HR4 HR5
          have HB6 := toHid HT6.out.low
          have HRng : Hid (∀ j, (hj : j < R.length) → ∃ m : Nat, m ≤ 99 ∧ R[j] = (m : Int)) := fun j hj => by
            obtain ⟨h1, _⟩ := (HI4.out.mem _).1 (List.getElem_mem hj)
            obtain ⟨c, e⟩ : ∃ c, outE E c (liI R[j]) = true := by
              cases h1 with
              | one e => exact ⟨_, e⟩
              | more _ e => exact ⟨_, e⟩
            simp only [outE, decide_eq_true_iff] at e
            obtain ⟨m, hm, h2⟩ := (HGG.out _ e).2
            exact ⟨m, hm, by simpa [liI] using h2⟩
          go_loopw [10] (fun k W => ∃ i : Nat, i ≤ R.length ∧ k = .int .i64 i ∧ Hid (Below w6.heap.size w6 W)) (fun k _ => R.length - (intOf k).toNat)
          case atStart => exact ⟨0, Nat.zero_le _, rfl, toHid (Below.refl _ _)⟩
          case round =>
            obtain ⟨j, hj, rfl, HBj⟩ := hrel
            have hq2 : 0 ≤ (j : Int) := by omega
            by_cases hlt2 : j < R.length
            · have hq1 : (j : Int) < (R.length : Int) := by omega
              obtain ⟨m, hm, hRm⟩ := HRng.out j hlt2
              obtain ⟨g, rfl, hcs⟩ := HR6.out.resolve_left (fun e => by rw [e] at hlt2; simp at hlt2)
              obtain ⟨g', rfl, hds⟩ := HQ6.out.resolve_left (fun e => by rw [← hQl, e] at hlt2; simp at hlt2)
              have c0 := hcs j hlt2
              have c1 := hds j (by omega)
              have hq : Q[j]'(by omega) = nmL m := by simp [HQ.out, hRm]
              rw [hRm] at c0
              rw [hq] at c1
              have HC : Hid (∀ W, Below w6.heap.size w6 W → W.cell? ⟨g, j, none⟩ = some (.int .i64 (m : Int)) ∧ W.cell? ⟨g', j, none⟩ = some (.string (nmB m))) := fun W hW => ⟨cell_low c0 (cell_lt c0) hW, cell_low (show w6.cell? ⟨g', j, none⟩ = some (.string (nmB m)) from c1) (cell_lt c1) hW⟩
              clear c0 c1 hcs hds hq hRm
              have hbd := HBj.out.drew
              go_wp2_with fail
              refine wp_region_held_drew (S := fun W => W.cell? ⟨g, j, none⟩ = some (.int .i64 (m : Int)) ∧ W.cell? ⟨g', j, none⟩ = some (.string (nmB m))) (by kernel_rfl) (HC.out _ hbd) (fun hHeld => ?_)
              refine wpAnyH_take (i := 0) (v := ?_) rfl (by kernel_rfl) (by kernel_rfl) (by kernel_rfl) (fun _ _ _ h => h) (Or.inl ⟨by rfl, ?_⟩) (by assumption) ?_
              rotate_left
              · (intro W hSw; (try dsimp only at hSw); go_simp; try with_reducible rfl)
              try simp only [Act.put, List.getElem_toArray, List.getElem_cons_zero, List.setIfInBounds_toArray, List.set_cons_zero, List.set_cons_succ]
              refine wpAnyH_take (i := 1) (v := ?_) rfl (by kernel_rfl) (by kernel_rfl) (by kernel_rfl) (fun _ _ _ h => h) (Or.inl ⟨by rfl, ?_⟩) (by assumption) ?_
              rotate_left
              · (intro W hSw; (try dsimp only at hSw); go_simp; try with_reducible rfl)
              try simp only [Act.put, List.getElem_toArray, List.getElem_cons_zero, List.getElem_cons_succ, List.setIfInBounds_toArray, List.set_cons_zero, List.set_cons_succ]
              refine wpAnyH_take (i := 2) (v := ?_) rfl (by kernel_rfl) (by kernel_rfl) (by kernel_rfl) (fun _ _ _ h => h) (Or.inl ⟨by rfl, ?_⟩) (by assumption) ?_
              rotate_left
              · (intro W hSw; (try dsimp only at hSw); go_simp; try with_reducible rfl)
              try simp only [Act.put, List.getElem_toArray, List.getElem_cons_zero, List.getElem_cons_succ, List.setIfInBounds_toArray, List.set_cons_zero, List.set_cons_succ]
              refine wpAnyH_take (i := 3) (v := ?_) rfl (by kernel_rfl) (by kernel_rfl) (by kernel_rfl) (fun _ _ _ h => h) (Or.inl ⟨by rfl, ?_⟩) (by assumption) ?_
              rotate_left
              · (intro W hSw; (try dsimp only at hSw); go_simp; try with_reducible rfl)
              try simp only [Act.put, List.getElem_toArray, List.getElem_cons_zero, List.getElem_cons_succ, List.setIfInBounds_toArray, List.set_cons_zero, List.set_cons_succ]
              refine wpAnyH_take (i := 5) (v := ?_) rfl (by kernel_rfl) (by kernel_rfl) (by kernel_rfl) (fun _ _ _ h => h) (Or.inl ⟨by rfl, ?_⟩) (by assumption) ?_
              rotate_left
              · (intro W hSw; (try dsimp only at hSw); go_simp; try with_reducible rfl)
              try simp only [Act.put, List.getElem_toArray, List.getElem_cons_zero, List.getElem_cons_succ, List.setIfInBounds_toArray, List.set_cons_zero, List.set_cons_succ]
              refine wpAnyH_take (i := 6) (v := ?_) rfl (by kernel_rfl) (by kernel_rfl) (by kernel_rfl) (fun _ _ _ h => h) (Or.inl ⟨by rfl, ?_⟩) (by assumption) ?_
              rotate_left
              · (intro W hSw; (try dsimp only at hSw); go_simp; try with_reducible rfl)
              try simp only [Act.put, List.getElem_toArray, List.getElem_cons_zero, List.getElem_cons_succ, List.setIfInBounds_toArray, List.set_cons_zero, List.set_cons_succ]
              refine wpAnyH_take (i := 7) (v := ?_) rfl (by kernel_rfl) (by kernel_rfl) (by kernel_rfl) (fun _ _ _ h => h) (Or.inl ⟨by rfl, ?_⟩) (by assumption) ?_
              rotate_left
              · (intro W hSw; (try dsimp only at hSw); go_simp; try with_reducible rfl)
              try simp only [Act.put, List.getElem_toArray, List.getElem_cons_zero, List.getElem_cons_succ, List.setIfInBounds_toArray, List.set_cons_zero, List.set_cons_succ]
              refine wpAnyH_take (i := 8) (v := ?_) rfl (by kernel_rfl) (by kernel_rfl) (by kernel_rfl) (fun _ _ _ h => h) (Or.inl ⟨by rfl, ?_⟩) (by assumption) ?_
              rotate_left
              · (intro W hSw; (try dsimp only at hSw); go_simp; try with_reducible rfl)
              try simp only [Act.put, List.getElem_toArray, List.getElem_cons_zero, List.getElem_cons_succ, List.setIfInBounds_toArray, List.set_cons_zero, List.set_cons_succ]
              refine wpAnyH_ready (rs := [4]) (by kernel_rfl) (by simp) ?_
              refine AllReadyH.cons rfl (fun K hK => ?_) AllReadyH.nil
              clear hHeld
              go_simp
              refine (named28 _ m hm).mono ?_
              rintro e wn ⟨rfl, hbn⟩
              have hbe := below_next hbd hbd.size hbn
              clear hbn hbd
              try go_wp2_with fail
              refine hK.out _ _ (HC.out _ hbe) (fun hHeld => ?_)
              clear hK K
              try simp only [Act.put, List.getElem_toArray, List.getElem_cons_zero, List.getElem_cons_succ, List.setIfInBounds_toArray, List.set_cons_zero, List.set_cons_succ]
              refine wpAnyH_take (i := 9) (v := ?_) rfl (by kernel_rfl) (by kernel_rfl) (by kernel_rfl) (fun _ _ _ h => h) (Or.inl ⟨by rfl, ?_⟩) (by assumption) ?_
              rotate_left
              · (intro W hSw; (try dsimp only at hSw); go_simp; try with_reducible rfl)
              try simp only [Act.put, List.getElem_toArray, List.getElem_cons_zero, List.getElem_cons_succ, List.setIfInBounds_toArray, List.set_cons_zero, List.set_cons_succ]
              refine wpAnyH_done (by kernel_rfl) ?_ _
              clear hHeld
              try simp only [Exit.then]
              have HBe := toHid hbe
              clear hbe
              go_wp2_with fail
              go_roundw
              case rel => exact ⟨j + 1, by omega, by simp, HBe⟩
              case measure => first | omega | (simp only [intOf]; omega)
            · obtain rfl : j = R.length := by omega
              have HB := toHid (below_next HB6.out HB6.out.size HBj.out)
              go_wp2_with (first
                | (go_at_call 23; refine (victimNil _ _).mono ?_; rintro e wv ⟨rfl, hwv⟩; subst wv)
                | (go_at_call 11; refine (addNil _ _ _).mono ?_; rintro e wv ⟨rfl, hwv⟩; subst wv)
                | (go_at_call 13; refine (dropNil _ _ _).mono ?_; rintro e wv ⟨rfl, hwv⟩; subst wv)
                | (go_at_call 15; refine (goneNil _ _).mono ?_; rintro e wv ⟨rfl, hwv⟩; subst wv)
                | (go_at_call 16; refine (lenNil _).mono ?_; rintro e wv ⟨rfl, hwv⟩; subst wv)
                | (go_at_call 21; refine (ringNil _ _).mono ?_; rintro e wv ⟨rfl, hwv⟩; subst wv)
                | (go_at_call 20; refine (leadsNil _ _ _).mono ?_; rintro e wv ⟨rfl, hwv⟩; subst wv)
                | (go_at_call 18; refine (lives18 _).mono ?_; rintro e w19 ⟨rfl, hb19⟩; have HB19 := toHid (below_next HB.out HB.out.size hb19); clear hb19)
                | fail)
              go_ret
              exact ⟨rfl, HB19.out⟩
        · have hcase : x < 0 ∨ (0 ≤ x ∧ 99 < x) := by omega
          clear hin
          rcases hcase with h1 | ⟨h1, h2⟩
          all_goals
            go_wp2_with (first
              | (go_at_call 16; refine (lenI HTT.out.g1).mono ?_; rintro e w3 ⟨rfl, hw3⟩; subst w3)
              | (go_at_call 29; refine (lenT HTT.out.g2).mono ?_; rintro e w3 ⟨rfl, hw3⟩; subst w3; rw [HLE.out])
              | (go_at_call 18; refine (lives18 _).mono ?_; rintro e w9 ⟨rfl, hb9⟩; have HB9 := toHid (below_next HTT.out.low HTT.out.low.size hb9); clear hb9)
              | fail)
            go_ret
            exact ⟨rfl, HB9.out⟩
      · obtain rfl : i = l.length := by omega
        clear hend hlt
        have HGd := toHid (madeGood l.length hi HR.out)
        have HTT := toHid (show TwT w p q 60 60 (madeE l 60) ((madeE l 60).map phE) S T wr from by
          have h0 : madeE l l.length = madeE l 60 := by unfold madeE; rw [List.take_length, List.take_of_length_le h60]
          rw [← h0]
          exact ⟨HT.out.low, h0 ▸ HT.out.g1, HT.out.g2.mono (by omega), HT.out.apart, HT.out.new⟩)
        have HGG : Hid (GoodE (madeE l 60)) := by
          have h0 : madeE l l.length = madeE l 60 := by unfold madeE; rw [List.take_length, List.take_of_length_le h60]
          rw [← h0]
          exact HGd.out
        clear HT HR HGd
        generalize madeE l 60 = E at *
        have hle : (E.map phE).length = E.length := by simp
        have HLE := toHid hle
        clear hle
        have tok1 : True := trivial
        have tok2 : True := trivial
        by_cases hin : 0 ≤ x ∧ x ≤ 99
        · obtain ⟨n, hn, rfl⟩ : ∃ n : Nat, n ≤ 99 ∧ x = (n : Int) := ⟨x.toNat, by omega, by omega⟩
          have hn2 : ¬ (99 : Int) < (n : Int) := by omega
          have hn3 : ¬ (n : Int) < 0 := by omega
          have hml : (E.map phE).length ≤ 100000 := by rw [HLE.out]; omega
          have HML := toHid hml
          clear hml hin
          go_wp2_with (first
            | (go_at_call 16; refine (lenI HTT.out.g1).mono ?_; rintro e w3 ⟨rfl, hw3⟩; subst w3)
            | (go_at_call 29; refine (lenT HTT.out.g2).mono ?_; rintro e w3 ⟨rfl, hw3⟩; subst w3; rw [HLE.out])
            | (go_at_call 21; refine (ringI HTT.out.g1 hkx (by omega)).mono ?_; rintro e w4 ⟨va, vc, R, rfl, hr4, hb4, hR4, hl4⟩; have HT4 := toHid (HTT.out.below hb4); have HR4 := toHid hr4; have HI4 := toHid hR4; clear hr4 hb4 hR4)
            | (go_at_call 28; refine (named28 _ n hn).mono ?_; rintro e w5 ⟨rfl, hb5⟩; have HT5 := toHid (HT4.out.below hb5); have HR5 := toHid (row_below HR4.out hb5); clear hb5)
            | (go_at_call 30; refine (ringT HT5.out.g2 (keyN (n := n)) HML.out).mono ?_; rintro e w6 ⟨vd, ve, Q, rfl, hr6, hb6, hR6, hl6⟩; have HQ := toHid (ring_ph HGG.out hn HI4.out hR6); have HT6 := toHid (HT5.out.below hb6); have HR6 := toHid (RowI.of (row_below HR5.out hb6)); have HQ6 := toHid (RowT.of hr6); clear hr6 hb6 hR6; have hQl : Q.length = R.length := (by rw [HQ.out]; simp); rw [hQl])
            | fail)
          clear HT4 HT5 HTT HR4 HR5
          have HB6 := toHid HT6.out.low
          have HRng : Hid (∀ j, (hj : j < R.length) → ∃ m : Nat, m ≤ 99 ∧ R[j] = (m : Int)) := fun j hj => by
            obtain ⟨h1, _⟩ := (HI4.out.mem _).1 (List.getElem_mem hj)
            obtain ⟨c, e⟩ : ∃ c, outE E c (liI R[j]) = true := by
              cases h1 with
              | one e => exact ⟨_, e⟩
              | more _ e => exact ⟨_, e⟩
            simp only [outE, decide_eq_true_iff] at e
            obtain ⟨m, hm, h2⟩ := (HGG.out _ e).2
            exact ⟨m, hm, by simpa [liI] using h2⟩
          go_loopw [10] (fun k W => ∃ i : Nat, i ≤ R.length ∧ k = .int .i64 i ∧ Hid (Below w6.heap.size w6 W)) (fun k _ => R.length - (intOf k).toNat)
          case atStart => exact ⟨0, Nat.zero_le _, rfl, toHid (Below.refl _ _)⟩
          case round =>
            obtain ⟨j, hj, rfl, HBj⟩ := hrel
            have hq2 : 0 ≤ (j : Int) := by omega
            by_cases hlt2 : j < R.length
            · have hq1 : (j : Int) < (R.length : Int) := by omega
              obtain ⟨m, hm, hRm⟩ := HRng.out j hlt2
              obtain ⟨g, rfl, hcs⟩ := HR6.out.resolve_left (fun e => by rw [e] at hlt2; simp at hlt2)
              obtain ⟨g', rfl, hds⟩ := HQ6.out.resolve_left (fun e => by rw [← hQl, e] at hlt2; simp at hlt2)
              have c0 := hcs j hlt2
              have c1 := hds j (by omega)
              have hq : Q[j]'(by omega) = nmL m := by simp [HQ.out, hRm]
              rw [hRm] at c0
              rw [hq] at c1
              have HC : Hid (∀ W, Below w6.heap.size w6 W → W.cell? ⟨g, j, none⟩ = some (.int .i64 (m : Int)) ∧ W.cell? ⟨g', j, none⟩ = some (.string (nmB m))) := fun W hW => ⟨cell_low c0 (cell_lt c0) hW, cell_low (show w6.cell? ⟨g', j, none⟩ = some (.string (nmB m)) from c1) (cell_lt c1) hW⟩
              clear c0 c1 hcs hds hq hRm
              have hbd := HBj.out.drew
              go_wp2_with fail
              refine wp_region_held_drew (S := fun W => W.cell? ⟨g, j, none⟩ = some (.int .i64 (m : Int)) ∧ W.cell? ⟨g', j, none⟩ = some (.string (nmB m))) (by kernel_rfl) (HC.out _ hbd) (fun hHeld => ?_)
              refine wpAnyH_take (i := 0) (v := ?_) rfl (by kernel_rfl) (by kernel_rfl) (by kernel_rfl) (fun _ _ _ h => h) (Or.inl ⟨by rfl, ?_⟩) (by assumption) ?_
              rotate_left
              · (intro W hSw; (try dsimp only at hSw); go_simp; try with_reducible rfl)
              try simp only [Act.put, List.getElem_toArray, List.getElem_cons_zero, List.setIfInBounds_toArray, List.set_cons_zero, List.set_cons_succ]
              refine wpAnyH_take (i := 1) (v := ?_) rfl (by kernel_rfl) (by kernel_rfl) (by kernel_rfl) (fun _ _ _ h => h) (Or.inl ⟨by rfl, ?_⟩) (by assumption) ?_
              rotate_left
              · (intro W hSw; (try dsimp only at hSw); go_simp; try with_reducible rfl)
              try simp only [Act.put, List.getElem_toArray, List.getElem_cons_zero, List.getElem_cons_succ, List.setIfInBounds_toArray, List.set_cons_zero, List.set_cons_succ]
              refine wpAnyH_take (i := 2) (v := ?_) rfl (by kernel_rfl) (by kernel_rfl) (by kernel_rfl) (fun _ _ _ h => h) (Or.inl ⟨by rfl, ?_⟩) (by assumption) ?_
              rotate_left
              · (intro W hSw; (try dsimp only at hSw); go_simp; try with_reducible rfl)
              try simp only [Act.put, List.getElem_toArray, List.getElem_cons_zero, List.getElem_cons_succ, List.setIfInBounds_toArray, List.set_cons_zero, List.set_cons_succ]
              refine wpAnyH_take (i := 3) (v := ?_) rfl (by kernel_rfl) (by kernel_rfl) (by kernel_rfl) (fun _ _ _ h => h) (Or.inl ⟨by rfl, ?_⟩) (by assumption) ?_
              rotate_left
              · (intro W hSw; (try dsimp only at hSw); go_simp; try with_reducible rfl)
              try simp only [Act.put, List.getElem_toArray, List.getElem_cons_zero, List.getElem_cons_succ, List.setIfInBounds_toArray, List.set_cons_zero, List.set_cons_succ]
              refine wpAnyH_take (i := 5) (v := ?_) rfl (by kernel_rfl) (by kernel_rfl) (by kernel_rfl) (fun _ _ _ h => h) (Or.inl ⟨by rfl, ?_⟩) (by assumption) ?_
              rotate_left
              · (intro W hSw; (try dsimp only at hSw); go_simp; try with_reducible rfl)
              try simp only [Act.put, List.getElem_toArray, List.getElem_cons_zero, List.getElem_cons_succ, List.setIfInBounds_toArray, List.set_cons_zero, List.set_cons_succ]
              refine wpAnyH_take (i := 6) (v := ?_) rfl (by kernel_rfl) (by kernel_rfl) (by kernel_rfl) (fun _ _ _ h => h) (Or.inl ⟨by rfl, ?_⟩) (by assumption) ?_
              rotate_left
              · (intro W hSw; (try dsimp only at hSw); go_simp; try with_reducible rfl)
              try simp only [Act.put, List.getElem_toArray, List.getElem_cons_zero, List.getElem_cons_succ, List.setIfInBounds_toArray, List.set_cons_zero, List.set_cons_succ]
              refine wpAnyH_take (i := 7) (v := ?_) rfl (by kernel_rfl) (by kernel_rfl) (by kernel_rfl) (fun _ _ _ h => h) (Or.inl ⟨by rfl, ?_⟩) (by assumption) ?_
              rotate_left
              · (intro W hSw; (try dsimp only at hSw); go_simp; try with_reducible rfl)
              try simp only [Act.put, List.getElem_toArray, List.getElem_cons_zero, List.getElem_cons_succ, List.setIfInBounds_toArray, List.set_cons_zero, List.set_cons_succ]
              refine wpAnyH_take (i := 8) (v := ?_) rfl (by kernel_rfl) (by kernel_rfl) (by kernel_rfl) (fun _ _ _ h => h) (Or.inl ⟨by rfl, ?_⟩) (by assumption) ?_
              rotate_left
              · (intro W hSw; (try dsimp only at hSw); go_simp; try with_reducible rfl)
              try simp only [Act.put, List.getElem_toArray, List.getElem_cons_zero, List.getElem_cons_succ, List.setIfInBounds_toArray, List.set_cons_zero, List.set_cons_succ]
              refine wpAnyH_ready (rs := [4]) (by kernel_rfl) (by simp) ?_
              refine AllReadyH.cons rfl (fun K hK => ?_) AllReadyH.nil
              clear hHeld
              go_simp
              refine (named28 _ m hm).mono ?_
              rintro e wn ⟨rfl, hbn⟩
              have hbe := below_next hbd hbd.size hbn
              clear hbn hbd
              try go_wp2_with fail
              refine hK.out _ _ (HC.out _ hbe) (fun hHeld => ?_)
              clear hK K
              try simp only [Act.put, List.getElem_toArray, List.getElem_cons_zero, List.getElem_cons_succ, List.setIfInBounds_toArray, List.set_cons_zero, List.set_cons_succ]
              refine wpAnyH_take (i := 9) (v := ?_) rfl (by kernel_rfl) (by kernel_rfl) (by kernel_rfl) (fun _ _ _ h => h) (Or.inl ⟨by rfl, ?_⟩) (by assumption) ?_
              rotate_left
              · (intro W hSw; (try dsimp only at hSw); go_simp; try with_reducible rfl)
              try simp only [Act.put, List.getElem_toArray, List.getElem_cons_zero, List.getElem_cons_succ, List.setIfInBounds_toArray, List.set_cons_zero, List.set_cons_succ]
              refine wpAnyH_done (by kernel_rfl) ?_ _
              clear hHeld
              try simp only [Exit.then]
              have HBe := toHid hbe
              clear hbe
              go_wp2_with fail
              go_roundw
              case rel => exact ⟨j + 1, by omega, by simp, HBe⟩
              case measure => first | omega | (simp only [intOf]; omega)
            · obtain rfl : j = R.length := by omega
              have HB := toHid (below_next HB6.out HB6.out.size HBj.out)
              go_wp2_with (first
                | (go_at_call 23; refine (victimNil _ _).mono ?_; rintro e wv ⟨rfl, hwv⟩; subst wv)
                | (go_at_call 11; refine (addNil _ _ _).mono ?_; rintro e wv ⟨rfl, hwv⟩; subst wv)
                | (go_at_call 13; refine (dropNil _ _ _).mono ?_; rintro e wv ⟨rfl, hwv⟩; subst wv)
                | (go_at_call 15; refine (goneNil _ _).mono ?_; rintro e wv ⟨rfl, hwv⟩; subst wv)
                | (go_at_call 16; refine (lenNil _).mono ?_; rintro e wv ⟨rfl, hwv⟩; subst wv)
                | (go_at_call 21; refine (ringNil _ _).mono ?_; rintro e wv ⟨rfl, hwv⟩; subst wv)
                | (go_at_call 20; refine (leadsNil _ _ _).mono ?_; rintro e wv ⟨rfl, hwv⟩; subst wv)
                | (go_at_call 18; refine (lives18 _).mono ?_; rintro e w19 ⟨rfl, hb19⟩; have HB19 := toHid (below_next HB.out HB.out.size hb19); clear hb19)
                | fail)
              go_ret
              exact ⟨rfl, HB19.out⟩
        · have hcase : x < 0 ∨ (0 ≤ x ∧ 99 < x) := by omega
          clear hin
          rcases hcase with h1 | ⟨h1, h2⟩
          all_goals
            go_wp2_with (first
              | (go_at_call 16; refine (lenI HTT.out.g1).mono ?_; rintro e w3 ⟨rfl, hw3⟩; subst w3)
              | (go_at_call 29; refine (lenT HTT.out.g2).mono ?_; rintro e w3 ⟨rfl, hw3⟩; subst w3; rw [HLE.out])
              | (go_at_call 18; refine (lives18 _).mono ?_; rintro e w9 ⟨rfl, hb9⟩; have HB9 := toHid (below_next HTT.out.low HTT.out.low.size hb9); clear hb9)
              | fail)
            go_ret
            exact ⟨rfl, HB9.out⟩

end Go.Proofs.Ytoihjkpjijncdaa
