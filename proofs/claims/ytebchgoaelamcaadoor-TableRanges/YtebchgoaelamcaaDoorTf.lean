/-
  The stable sort: symMerge.
-/
import Derived.Test.YtebchgoaelamcaaDoorTe
namespace Go.Proofs.YtebchgoaelamcaaDoor
open Go.Shelf Go.RowKit Go.Lib Go.Sort
set_option maxRecDepth 1000000

/-- What symMerge does to rows of at most n. -/
def Sym (blk N cap : Nat) (w0 : World) (n : Nat) : Prop := ∀ (P A B S : List Pq) (a m b : Nat) (w : World), Rise A → Rise B → P.length = a → a + A.length = m → m + B.length = b → a < m → m < b → b - a ≤ n → ∀ za zm zb : Int, za = a → zm = m → zb = b → Rw blk N w0 (P ++ A ++ B ++ S) w →
  Calls Tryd.prog 98 #[.slice (some ⟨blk, 0, none⟩) N cap, .int .i64 za, .int .i64 zm, .int .i64 zb, .func (.func 54) #[] #[]] w fun e w' => e = .returned (.tuple #[]) ∧ ∃ R, Mrg A B R ∧ Rw blk N w0 (P ++ (R ++ S)) w'

/-- The two halves behind the cut, merged. -/
theorem half1 {A B : List Pq} (hA : Rise A) (hB : Rise B) (h : A = [] ∨ B = []) : Mrg A B (A ++ B) := by
  rcases h with rfl | rfl
  · exact mrg_nil_left hB
  · rw [List.append_nil]; exact mrg_nil_right hA

set_option maxHeartbeats 8000000 in
theorem sym_main {blk N cap n : Nat} {w0 w : World} (F : Fam blk N w0) (ih : Sym blk N cap w0 n) (P A B S : List Pq) (hA : Rise A) (hB : Rise B) (a m b : Nat) (ha : P.length = a) (hm : a + A.length = m) (hb : m + B.length = b) (ham : a + 1 < m) (hmb : m + 1 < b) (hn : b - a ≤ n + 1) (za zm zb : Int) (ea : za = a) (em : zm = m) (eb : zb = b) (h : Rw blk N w0 (P ++ A ++ B ++ S) w) :
    Calls Tryd.prog 98 #[.slice (some ⟨blk, 0, none⟩) N cap, .int .i64 za, .int .i64 zm, .int .i64 zb, .func (.func 54) #[] #[]] w fun e w' => e = .returned (.tuple #[]) ∧ ∃ R, Mrg A B R ∧ Rw blk N w0 (P ++ (R ++ S)) w' := by
  subst ea em eb
  have hN : b ≤ N := by have := h.1; simp at this; omega
  have hfew := F.few
  have HF := toHid' F
  have HIH := toHid' ih
  have hd1 : ((m : Int) - (a : Int) == 1) = false := by simp; omega
  have hd2 : ((b : Int) - (m : Int) == 1) = false := by simp; omega
  have H0 : Hid (Rw blk N w0 (P ++ A ++ B ++ S) w) := h
  have HG : Hid (∀ t (ht : t < A.length), (P ++ A ++ B ++ S)[a + t]? = some A[t]) := fun t ht => by
    rw [List.getElem?_append_left (by simp; omega), List.getElem?_append_left (by simp; omega), List.getElem?_append_right (by omega), show a + t - P.length = t by omega]
    exact List.getElem?_eq_getElem ht
  have HG2 : Hid (∀ t (ht : t < B.length), (P ++ A ++ B ++ S)[m + t]? = some B[t]) := fun t ht => by
    rw [List.getElem?_append_left (by simp; omega), List.getElem?_append_right (by simp; omega), show m + t - (P ++ A).length = t by simp; omega]
    exact List.getElem?_eq_getElem ht
  have HP := toHid' (And.intro ha (And.intro hm (And.intro hb hn)))
  have HRi := toHid' (And.intro hA hB)
  clear h F ha hm hb hn ih hA hB
  obtain ⟨mid, hmid⟩ : ∃ mid : Nat, ((a : Int) + (b : Int)) / 2 = (mid : Int) := ⟨(a + b) / 2, by omega⟩
  have hm1 : a < mid := by omega
  have hm2 : mid < b := by omega
  have hm3 : 2 * mid ≤ a + b := by omega
  have hm4 : a + b ≤ 2 * mid + 1 := by omega
  obtain ⟨pp, hpp⟩ : ∃ pp : Nat, (mid : Int) + (m : Int) - 1 = (pp : Int) := ⟨mid + m - 1, by omega⟩
  by_cases hgt : mid < m
  · obtain ⟨s0, hs0⟩ : ∃ s0 : Nat, (mid : Int) + (m : Int) - (b : Int) = (s0 : Int) := ⟨mid + m - b, by omega⟩
    have k1 : a ≤ s0 := by omega
    have k2 : s0 ≤ mid := by omega
    go_enter Tryd.func98, Tryd.ntmps98
    go_wp2_with fail
    go_loopw [20, 21] (fun vi vj wr => ∃ i j : Nat, s0 ≤ i ∧ i ≤ j ∧ j ≤ mid ∧ vi = .int .i64 i ∧ vj = .int .i64 j ∧ Hid ((∀ (_ : s0 < i) (h1 : mid - i < B.length) (h2 : i - 1 - a < A.length), ¬ B[mid - i].1 < A[i - 1 - a].1) ∧ ∀ (_ : j < mid) (h1 : mid - 1 - j < B.length) (h2 : j - a < A.length), B[mid - 1 - j].1 < A[j - a].1) ∧ Hid (Rw blk N w0 (P ++ A ++ B ++ S) wr)) (fun vi vj _ => (intOf vj).toNat - (intOf vi).toNat)
    case atStart => exact ⟨s0, mid, by omega, by omega, by omega, rfl, rfl, ⟨fun h => by omega, fun h => by omega⟩, H0⟩
    case round =>
      clear H0
      obtain ⟨i, j, hi, hij, hj, rfl, rfl, HI, HR⟩ := hrel
      by_cases hlt : i < j
      · obtain ⟨hh, hhe⟩ : ∃ h : Nat, ((i : Int) + (j : Int)) / 2 = (h : Int) := ⟨(i + j) / 2, by omega⟩
        have hh1 : i ≤ hh := by omega
        have hh2 : hh < j := by omega
        obtain ⟨pc, hpc⟩ : ∃ pc : Nat, (pp : Int) - (hh : Int) = (pc : Int) := ⟨pp - hh, by omega⟩
        have hal : hh - a < A.length := by have := HP.out.2.1; omega
        have hbl : mid - 1 - hh < B.length := by have := HP.out.2.2.1; omega
        have ex := HG.out (hh - a) hal
        rw [show a + (hh - a) = hh by omega] at ex
        have ey := HG2.out (mid - 1 - hh) hbl
        rw [show m + (mid - 1 - hh) = pc by omega] at ey
        obtain ⟨x, hx⟩ : ∃ x, x = A[hh - a] := ⟨_, rfl⟩
        obtain ⟨y, hy⟩ : ∃ y, y = B[mid - 1 - hh] := ⟨_, rfl⟩
        rw [← hx] at ex
        rw [← hy] at ey
        have HX := toHid' ex
        have HY := toHid' ey
        have HXe := toHid' hx
        have HYe := toHid' hy
        clear hx hy ex ey
        have HRd := toHid' HR.out.drew
        obtain ⟨c0, c1⟩ := HR.out.cells HF.out hh x HX.out
        obtain ⟨d0, d1⟩ := HR.out.cells HF.out pc y HY.out
        obtain ⟨e0, e1⟩ := HRd.out.cells HF.out hh x HX.out
        obtain ⟨f0, f1⟩ := HRd.out.cells HF.out pc y HY.out
        have HC : Hid (∀ W, Calls Tryd.prog 54 #[.agg #[.string (txt y.1), .string (txt y.2)], .agg #[.string (txt x.1), .string (txt x.2)]] W fun e w' => e = .returned (.int .i64 (cfP y x)) ∧ ∃ q os', w' = grow (W.drewN q) os') := fun W => closure54 y x W
        have HLt := toHid' (cf_lt y x)
        generalize cfP y x = cv at HC HLt
        have n1 : hh < N := by omega
        have n2 : pc < N := by omega
        have z1 : (hh : Int) < (N : Int) := by omega
        have z2 : (pc : Int) < (N : Int) := by omega
        have w1 : IntKind.i64.wrap (pc : Int) = (pc : Int) := by rw [IntKind.wrap_i64]; omega
        have w3 : pp < 2000000 := by omega
        have w4 : hh ≤ pp := by omega
        go_wp2_with fail
        go_region_held3 (fun W => W.cell? ⟨blk, hh * 2, none⟩ = some (.string (txt x.1)) ∧ W.cell? ⟨blk, hh * 2 + 1, none⟩ = some (.string (txt x.2)) ∧ W.cell? ⟨blk, pc * 2, none⟩ = some (.string (txt y.1)) ∧ W.cell? ⟨blk, pc * 2 + 1, none⟩ = some (.string (txt y.2))) (with_reducible exact ⟨by assumption, by assumption, by assumption, by assumption⟩) ((go_at_call 54; refine Calls.mono (HC.out _) ?_; rintro e wc ⟨rfl, q, os, hwc⟩; have HRc := toHid' (HRd.out.grown q os); rw [← hwc] at HRc; clear hwc; obtain ⟨g0, g1⟩ := HRc.out.cells HF.out hh x HX.out; obtain ⟨i0, i1⟩ := HRc.out.cells HF.out pc y HY.out))
        clear c0 c1 d0 d1 e0 e1 f0 f1 HRd HR HC g0 g1 i0 i1
        generalize decide (cv < 0) = bv at HLt ⊢
        cases bv
        case true =>
          have HI2 : Hid ((∀ (_ : s0 < i) (h1 : mid - i < B.length) (h2 : i - 1 - a < A.length), ¬ B[mid - i].1 < A[i - 1 - a].1) ∧ ∀ (_ : hh < mid) (h1 : mid - 1 - hh < B.length) (h2 : hh - a < A.length), B[mid - 1 - hh].1 < A[hh - a].1) := ⟨HI.out.1, fun _ _ _ => by
            rw [← HXe.out, ← HYe.out]
            exact of_decide_eq_true HLt.out.symm⟩
          clear HI HX HY HXe HYe HLt
          go_wp2_with fail
          go_roundw
          case rel => exact ⟨i, hh, by omega, by omega, by omega, rfl, rfl, HI2, HRc⟩
          case measure => simp only [intOf]; omega
        case false =>
          have HI2 : Hid ((∀ (_ : s0 < hh + 1) (h1 : mid - (hh + 1) < B.length) (h2 : hh + 1 - 1 - a < A.length), ¬ B[mid - (hh + 1)].1 < A[hh + 1 - 1 - a].1) ∧ ∀ (_ : j < mid) (h1 : mid - 1 - j < B.length) (h2 : j - a < A.length), B[mid - 1 - j].1 < A[j - a].1) := ⟨fun _ _ _ => by
            have e1 : mid - (hh + 1) = mid - 1 - hh := by omega
            have e2 : hh + 1 - 1 - a = hh - a := by omega
            simp only [e1, e2]
            rw [← HXe.out, ← HYe.out]
            exact of_decide_eq_false HLt.out.symm, HI.out.2⟩
          clear HI HX HY HXe HYe HLt
          go_wp2_with fail
          go_roundw
          case rel => exact ⟨hh + 1, j, by omega, by omega, by omega, by simp, rfl, HI2, HRc⟩
          case measure => simp only [intOf]; omega
      · obtain rfl : i = j := by omega
        obtain ⟨en, hen⟩ : ∃ en : Nat, (mid : Int) + (m : Int) - (i : Int) = (en : Int) := ⟨mid + m - i, by omega⟩
        have q1 : a ≤ i := by omega
        have q2 : i ≤ m := by omega
        have q3 : m ≤ en := by omega
        have q4 : en ≤ b := by omega
        have q5 : i ≤ mid := by omega
        have q6 : mid ≤ en := by omega
        have w1 : IntKind.i64.wrap (en : Int) = (en : Int) := by rw [IntKind.wrap_i64]; omega
        have HCut : Hid (∀ R1 R2, Mrg (A.take (i - a)) (B.take (en - m)) R1 → Mrg (A.drop (i - a)) (B.drop (en - m)) R2 → Mrg A B (R1 ++ R2)) := fun R1 R2 r1 r2 => by
          obtain ⟨p1, p2, p3, _⟩ := HP.out
          refine mrg_cut HRi.out.1 HRi.out.2 (i - a) (en - m) (by omega) (by omega) (fun h1 h0 h2 => ?_) (fun h0 h1 h2 => ?_) r1 r2
          · have e : en - m - 1 = mid - 1 - i := by omega
            simp only [e]
            exact HI.out.2 (by omega) (by omega) (by omega)
          · have e : en - m = mid - i := by omega
            have e' : i - a - 1 = i - 1 - a := by omega
            simp only [e, e']
            exact HI.out.1 (by omega) (by omega) (by omega)
        have l1 : (A.take (i - a)).length = i - a := by have := HP.out.2.1; rw [List.length_take]; omega
        have l2 : (A.drop (i - a)).length = m - i := by have := HP.out.2.1; rw [List.length_drop]; omega
        have l3 : (B.take (en - m)).length = en - m := by have := HP.out.2.2.1; rw [List.length_take]; omega
        have l4 : (B.drop (en - m)).length = b - en := by have := HP.out.2.2.1; rw [List.length_drop]; omega
        have r1 := rise_take HRi.out.1 (i - a)
        have r2 := rise_drop HRi.out.1 (i - a)
        have r3 := rise_take HRi.out.2 (en - m)
        have r4 := rise_drop HRi.out.2 (en - m)
        have HRw : Hid (Rw blk N w0 (P ++ A.take (i - a) ++ A.drop (i - a) ++ B.take (en - m) ++ (B.drop (en - m) ++ S)) wr) := by
          have h := HR.out
          unfold Hid
          have e : P ++ A.take (i - a) ++ A.drop (i - a) ++ B.take (en - m) ++ (B.drop (en - m) ++ S) = P ++ A ++ B ++ S := by
            conv => rhs; rw [← List.take_append_drop (i - a) A, ← List.take_append_drop (en - m) B]
            simp only [List.append_assoc]
          rw [e]
          exact h
        have hP0 := HP.out.1
        have hPn := HP.out.2.2.2
        generalize A.take (i - a) = A1 at *
        generalize A.drop (i - a) = A2 at *
        generalize B.take (en - m) = B1 at *
        generalize B.drop (en - m) = B2 at *
        have HL := toHid' (And.intro hP0 (And.intro l1 (And.intro l2 (And.intro l3 l4))))
        have HRs := toHid' (And.intro r1 (And.intro r2 (And.intro r3 r4)))
        have HPn := toHid' hPn
        clear hP0 l1 l2 l3 l4 r1 r2 r3 r4 hPn HI HR HG HG2 HP HRi
        by_cases h1 : i < m ∧ m < en
        · have z1 : (i : Int) < (m : Int) := by omega
          have z2 : (m : Int) < (en : Int) := by omega
          (go_wp2_with fail) <;> (
          refine Calls.mono (rotate_any HF.out (P ++ A1) A2 B1 (B2 ++ S) i m en (by have := HL.out; rw [List.length_append]; omega) (by have := HL.out; omega) (by have := HL.out; omega) (by omega) (by omega) _ _ _ rfl rfl rfl HRw.out) ?_
          rintro e w4 ⟨rfl, hw4⟩
          have HRt : Hid (Rw blk N w0 (P ++ A1 ++ B1 ++ A2 ++ (B2 ++ S)) w4) := hw4
          clear hw4 HRw
          by_cases h2 : a < i ∧ i < mid
          · have z3 : (a : Int) < (i : Int) := by omega
            have z4 : (i : Int) < (mid : Int) := by omega
            (go_wp2_with fail) <;> (
            refine Calls.mono (HIH.out P A1 B1 (A2 ++ (B2 ++ S)) a i mid _ HRs.out.1 HRs.out.2.2.1 (by have := HL.out; omega) (by have := HL.out; omega) (by have := HL.out; omega) (by omega) (by omega) (by have := HPn.out; omega) _ _ _ rfl rfl rfl (by have := HRt.out; simpa using this)) ?_
            rintro e w5 ⟨rfl, R1, hR1, hw5⟩
            have HM1 := toHid' hR1
            have HMl := toHid' hR1.length
            have HR1 : Hid (Rw blk N w0 (P ++ R1 ++ A2 ++ (B2 ++ S)) w5) := by unfold Hid; simpa using hw5
            clear hR1 hw5 HRt
            by_cases h3 : mid < en ∧ en < b
            · have z5 : (mid : Int) < (en : Int) := by omega
              have z6 : (en : Int) < (b : Int) := by omega
              (go_wp2_with fail) <;> (
              refine Calls.mono (HIH.out (P ++ R1) A2 B2 S mid en b _ HRs.out.2.1 HRs.out.2.2.2 (by have := HL.out; have := HMl.out; rw [List.length_append]; omega) (by have := HL.out; omega) (by have := HL.out; omega) (by omega) (by omega) (by have := HPn.out; omega) _ _ _ rfl rfl rfl (by have := HR1.out; simpa using this)) ?_
              rintro e w6 ⟨rfl, R2, hR2, hw6⟩
              have HE : Hid (∃ R, Mrg A B R ∧ Rw blk N w0 (P ++ (R ++ S)) w6) := ⟨R1 ++ R2, HCut.out R1 R2 HM1.out hR2, by simpa using hw6⟩
              clear hR2 hw6
              go_wp2_with fail
              go_end0
              exact ⟨rfl, HE.out⟩)
            · have HE : Hid (∃ R, Mrg A B R ∧ Rw blk N w0 (P ++ (R ++ S)) w5) := ⟨R1 ++ (A2 ++ B2), HCut.out R1 _ HM1.out (half1 HRs.out.2.1 HRs.out.2.2.2 (by
                have := HL.out
                by_cases e : en = b
                · exact .inr (List.eq_nil_of_length_eq_zero (by omega))
                · exact .inl (List.eq_nil_of_length_eq_zero (by omega)))), by have := HR1.out; simpa using this⟩
              by_cases z5 : mid < en
              · have z5' : (mid : Int) < (en : Int) := by omega
                have z6 : ¬ (en : Int) < (b : Int) := by omega
                (go_wp2_with fail) <;> (
                go_end0
                exact ⟨rfl, HE.out⟩)
              · have z5' : ¬ (mid : Int) < (en : Int) := by omega
                (go_wp2_with fail) <;> (
                go_end0
                exact ⟨rfl, HE.out⟩))
          · have HM1 : Hid (Mrg A1 B1 (A1 ++ B1)) := half1 HRs.out.1 HRs.out.2.2.1 (by
              have := HL.out
              by_cases e : a = i
              · exact .inl (List.eq_nil_of_length_eq_zero (by omega))
              · exact .inr (List.eq_nil_of_length_eq_zero (by omega)))
            have HMl := toHid' HM1.out.length
            have HR1 : Hid (Rw blk N w0 (P ++ (A1 ++ B1) ++ A2 ++ (B2 ++ S)) w4) := by unfold Hid; have := HRt.out; simpa using this
            clear HRt
            generalize A1 ++ B1 = R1 at *
            by_cases z3 : a < i
            · have z3' : (a : Int) < (i : Int) := by omega
              have z4 : ¬ (i : Int) < (mid : Int) := by omega
              by_cases h3 : mid < en ∧ en < b
              · have z5 : (mid : Int) < (en : Int) := by omega
                have z6 : (en : Int) < (b : Int) := by omega
                (go_wp2_with fail) <;> (
                refine Calls.mono (HIH.out (P ++ R1) A2 B2 S mid en b _ HRs.out.2.1 HRs.out.2.2.2 (by have := HL.out; have := HMl.out; rw [List.length_append]; omega) (by have := HL.out; omega) (by have := HL.out; omega) (by omega) (by omega) (by have := HPn.out; omega) _ _ _ rfl rfl rfl (by have := HR1.out; simpa using this)) ?_
                rintro e w6 ⟨rfl, R2, hR2, hw6⟩
                have HE : Hid (∃ R, Mrg A B R ∧ Rw blk N w0 (P ++ (R ++ S)) w6) := ⟨R1 ++ R2, HCut.out R1 R2 HM1.out hR2, by simpa using hw6⟩
                clear hR2 hw6
                go_wp2_with fail
                go_end0
                exact ⟨rfl, HE.out⟩)
              · have HE : Hid (∃ R, Mrg A B R ∧ Rw blk N w0 (P ++ (R ++ S)) w4) := ⟨R1 ++ (A2 ++ B2), HCut.out R1 _ HM1.out (half1 HRs.out.2.1 HRs.out.2.2.2 (by
                  have := HL.out
                  by_cases e : en = b
                  · exact .inr (List.eq_nil_of_length_eq_zero (by omega))
                  · exact .inl (List.eq_nil_of_length_eq_zero (by omega)))), by have := HR1.out; simpa using this⟩
                by_cases z5 : mid < en
                · have z5' : (mid : Int) < (en : Int) := by omega
                  have z6 : ¬ (en : Int) < (b : Int) := by omega
                  (go_wp2_with fail) <;> (
                  go_end0
                  exact ⟨rfl, HE.out⟩)
                · have z5' : ¬ (mid : Int) < (en : Int) := by omega
                  (go_wp2_with fail) <;> (
                  go_end0
                  exact ⟨rfl, HE.out⟩)
            · have z3' : ¬ (a : Int) < (i : Int) := by omega
              by_cases h3 : mid < en ∧ en < b
              · have z5 : (mid : Int) < (en : Int) := by omega
                have z6 : (en : Int) < (b : Int) := by omega
                (go_wp2_with fail) <;> (
                refine Calls.mono (HIH.out (P ++ R1) A2 B2 S mid en b _ HRs.out.2.1 HRs.out.2.2.2 (by have := HL.out; have := HMl.out; rw [List.length_append]; omega) (by have := HL.out; omega) (by have := HL.out; omega) (by omega) (by omega) (by have := HPn.out; omega) _ _ _ rfl rfl rfl (by have := HR1.out; simpa using this)) ?_
                rintro e w6 ⟨rfl, R2, hR2, hw6⟩
                have HE : Hid (∃ R, Mrg A B R ∧ Rw blk N w0 (P ++ (R ++ S)) w6) := ⟨R1 ++ R2, HCut.out R1 R2 HM1.out hR2, by simpa using hw6⟩
                clear hR2 hw6
                go_wp2_with fail
                go_end0
                exact ⟨rfl, HE.out⟩)
              · have HE : Hid (∃ R, Mrg A B R ∧ Rw blk N w0 (P ++ (R ++ S)) w4) := ⟨R1 ++ (A2 ++ B2), HCut.out R1 _ HM1.out (half1 HRs.out.2.1 HRs.out.2.2.2 (by
                  have := HL.out
                  by_cases e : en = b
                  · exact .inr (List.eq_nil_of_length_eq_zero (by omega))
                  · exact .inl (List.eq_nil_of_length_eq_zero (by omega)))), by have := HR1.out; simpa using this⟩
                by_cases z5 : mid < en
                · have z5' : (mid : Int) < (en : Int) := by omega
                  have z6 : ¬ (en : Int) < (b : Int) := by omega
                  (go_wp2_with fail) <;> (
                  go_end0
                  exact ⟨rfl, HE.out⟩)
                · have z5' : ¬ (mid : Int) < (en : Int) := by omega
                  (go_wp2_with fail) <;> (
                  go_end0
                  exact ⟨rfl, HE.out⟩))
        · have HRt : Hid (Rw blk N w0 (P ++ A1 ++ B1 ++ A2 ++ (B2 ++ S)) wr) := by
            have h := HRw.out
            have hl := HL.out
            unfold Hid
            by_cases e : i = m
            · obtain rfl : A2 = [] := List.eq_nil_of_length_eq_zero (by omega)
              simpa using h
            · obtain rfl : B1 = [] := List.eq_nil_of_length_eq_zero (by omega)
              simpa using h
          clear HRw
          by_cases z1 : i < m
          · have z1' : (i : Int) < (m : Int) := by omega
            have z2 : ¬ (m : Int) < (en : Int) := by omega
            by_cases h2 : a < i ∧ i < mid
            · have z3 : (a : Int) < (i : Int) := by omega
              have z4 : (i : Int) < (mid : Int) := by omega
              (go_wp2_with fail) <;> (
              refine Calls.mono (HIH.out P A1 B1 (A2 ++ (B2 ++ S)) a i mid _ HRs.out.1 HRs.out.2.2.1 (by have := HL.out; omega) (by have := HL.out; omega) (by have := HL.out; omega) (by omega) (by omega) (by have := HPn.out; omega) _ _ _ rfl rfl rfl (by have := HRt.out; simpa using this)) ?_
              rintro e w5 ⟨rfl, R1, hR1, hw5⟩
              have HM1 := toHid' hR1
              have HMl := toHid' hR1.length
              have HR1 : Hid (Rw blk N w0 (P ++ R1 ++ A2 ++ (B2 ++ S)) w5) := by unfold Hid; simpa using hw5
              clear hR1 hw5 HRt
              by_cases h3 : mid < en ∧ en < b
              · have z5 : (mid : Int) < (en : Int) := by omega
                have z6 : (en : Int) < (b : Int) := by omega
                (go_wp2_with fail) <;> (
                refine Calls.mono (HIH.out (P ++ R1) A2 B2 S mid en b _ HRs.out.2.1 HRs.out.2.2.2 (by have := HL.out; have := HMl.out; rw [List.length_append]; omega) (by have := HL.out; omega) (by have := HL.out; omega) (by omega) (by omega) (by have := HPn.out; omega) _ _ _ rfl rfl rfl (by have := HR1.out; simpa using this)) ?_
                rintro e w6 ⟨rfl, R2, hR2, hw6⟩
                have HE : Hid (∃ R, Mrg A B R ∧ Rw blk N w0 (P ++ (R ++ S)) w6) := ⟨R1 ++ R2, HCut.out R1 R2 HM1.out hR2, by simpa using hw6⟩
                clear hR2 hw6
                go_wp2_with fail
                go_end0
                exact ⟨rfl, HE.out⟩)
              · have HE : Hid (∃ R, Mrg A B R ∧ Rw blk N w0 (P ++ (R ++ S)) w5) := ⟨R1 ++ (A2 ++ B2), HCut.out R1 _ HM1.out (half1 HRs.out.2.1 HRs.out.2.2.2 (by
                  have := HL.out
                  by_cases e : en = b
                  · exact .inr (List.eq_nil_of_length_eq_zero (by omega))
                  · exact .inl (List.eq_nil_of_length_eq_zero (by omega)))), by have := HR1.out; simpa using this⟩
                by_cases z5 : mid < en
                · have z5' : (mid : Int) < (en : Int) := by omega
                  have z6 : ¬ (en : Int) < (b : Int) := by omega
                  (go_wp2_with fail) <;> (
                  go_end0
                  exact ⟨rfl, HE.out⟩)
                · have z5' : ¬ (mid : Int) < (en : Int) := by omega
                  (go_wp2_with fail) <;> (
                  go_end0
                  exact ⟨rfl, HE.out⟩))
            · have HM1 : Hid (Mrg A1 B1 (A1 ++ B1)) := half1 HRs.out.1 HRs.out.2.2.1 (by
                have := HL.out
                by_cases e : a = i
                · exact .inl (List.eq_nil_of_length_eq_zero (by omega))
                · exact .inr (List.eq_nil_of_length_eq_zero (by omega)))
              have HMl := toHid' HM1.out.length
              have HR1 : Hid (Rw blk N w0 (P ++ (A1 ++ B1) ++ A2 ++ (B2 ++ S)) wr) := by unfold Hid; have := HRt.out; simpa using this
              clear HRt
              generalize A1 ++ B1 = R1 at *
              by_cases z3 : a < i
              · have z3' : (a : Int) < (i : Int) := by omega
                have z4 : ¬ (i : Int) < (mid : Int) := by omega
                by_cases h3 : mid < en ∧ en < b
                · have z5 : (mid : Int) < (en : Int) := by omega
                  have z6 : (en : Int) < (b : Int) := by omega
                  (go_wp2_with fail) <;> (
                  refine Calls.mono (HIH.out (P ++ R1) A2 B2 S mid en b _ HRs.out.2.1 HRs.out.2.2.2 (by have := HL.out; have := HMl.out; rw [List.length_append]; omega) (by have := HL.out; omega) (by have := HL.out; omega) (by omega) (by omega) (by have := HPn.out; omega) _ _ _ rfl rfl rfl (by have := HR1.out; simpa using this)) ?_
                  rintro e w6 ⟨rfl, R2, hR2, hw6⟩
                  have HE : Hid (∃ R, Mrg A B R ∧ Rw blk N w0 (P ++ (R ++ S)) w6) := ⟨R1 ++ R2, HCut.out R1 R2 HM1.out hR2, by simpa using hw6⟩
                  clear hR2 hw6
                  go_wp2_with fail
                  go_end0
                  exact ⟨rfl, HE.out⟩)
                · have HE : Hid (∃ R, Mrg A B R ∧ Rw blk N w0 (P ++ (R ++ S)) wr) := ⟨R1 ++ (A2 ++ B2), HCut.out R1 _ HM1.out (half1 HRs.out.2.1 HRs.out.2.2.2 (by
                    have := HL.out
                    by_cases e : en = b
                    · exact .inr (List.eq_nil_of_length_eq_zero (by omega))
                    · exact .inl (List.eq_nil_of_length_eq_zero (by omega)))), by have := HR1.out; simpa using this⟩
                  by_cases z5 : mid < en
                  · have z5' : (mid : Int) < (en : Int) := by omega
                    have z6 : ¬ (en : Int) < (b : Int) := by omega
                    (go_wp2_with fail) <;> (
                    go_end0
                    exact ⟨rfl, HE.out⟩)
                  · have z5' : ¬ (mid : Int) < (en : Int) := by omega
                    (go_wp2_with fail) <;> (
                    go_end0
                    exact ⟨rfl, HE.out⟩)
              · have z3' : ¬ (a : Int) < (i : Int) := by omega
                by_cases h3 : mid < en ∧ en < b
                · have z5 : (mid : Int) < (en : Int) := by omega
                  have z6 : (en : Int) < (b : Int) := by omega
                  (go_wp2_with fail) <;> (
                  refine Calls.mono (HIH.out (P ++ R1) A2 B2 S mid en b _ HRs.out.2.1 HRs.out.2.2.2 (by have := HL.out; have := HMl.out; rw [List.length_append]; omega) (by have := HL.out; omega) (by have := HL.out; omega) (by omega) (by omega) (by have := HPn.out; omega) _ _ _ rfl rfl rfl (by have := HR1.out; simpa using this)) ?_
                  rintro e w6 ⟨rfl, R2, hR2, hw6⟩
                  have HE : Hid (∃ R, Mrg A B R ∧ Rw blk N w0 (P ++ (R ++ S)) w6) := ⟨R1 ++ R2, HCut.out R1 R2 HM1.out hR2, by simpa using hw6⟩
                  clear hR2 hw6
                  go_wp2_with fail
                  go_end0
                  exact ⟨rfl, HE.out⟩)
                · have HE : Hid (∃ R, Mrg A B R ∧ Rw blk N w0 (P ++ (R ++ S)) wr) := ⟨R1 ++ (A2 ++ B2), HCut.out R1 _ HM1.out (half1 HRs.out.2.1 HRs.out.2.2.2 (by
                    have := HL.out
                    by_cases e : en = b
                    · exact .inr (List.eq_nil_of_length_eq_zero (by omega))
                    · exact .inl (List.eq_nil_of_length_eq_zero (by omega)))), by have := HR1.out; simpa using this⟩
                  by_cases z5 : mid < en
                  · have z5' : (mid : Int) < (en : Int) := by omega
                    have z6 : ¬ (en : Int) < (b : Int) := by omega
                    (go_wp2_with fail) <;> (
                    go_end0
                    exact ⟨rfl, HE.out⟩)
                  · have z5' : ¬ (mid : Int) < (en : Int) := by omega
                    (go_wp2_with fail) <;> (
                    go_end0
                    exact ⟨rfl, HE.out⟩)
          · have z1' : ¬ (i : Int) < (m : Int) := by omega
            by_cases h2 : a < i ∧ i < mid
            · have z3 : (a : Int) < (i : Int) := by omega
              have z4 : (i : Int) < (mid : Int) := by omega
              (go_wp2_with fail) <;> (
              refine Calls.mono (HIH.out P A1 B1 (A2 ++ (B2 ++ S)) a i mid _ HRs.out.1 HRs.out.2.2.1 (by have := HL.out; omega) (by have := HL.out; omega) (by have := HL.out; omega) (by omega) (by omega) (by have := HPn.out; omega) _ _ _ rfl rfl rfl (by have := HRt.out; simpa using this)) ?_
              rintro e w5 ⟨rfl, R1, hR1, hw5⟩
              have HM1 := toHid' hR1
              have HMl := toHid' hR1.length
              have HR1 : Hid (Rw blk N w0 (P ++ R1 ++ A2 ++ (B2 ++ S)) w5) := by unfold Hid; simpa using hw5
              clear hR1 hw5 HRt
              by_cases h3 : mid < en ∧ en < b
              · have z5 : (mid : Int) < (en : Int) := by omega
                have z6 : (en : Int) < (b : Int) := by omega
                (go_wp2_with fail) <;> (
                refine Calls.mono (HIH.out (P ++ R1) A2 B2 S mid en b _ HRs.out.2.1 HRs.out.2.2.2 (by have := HL.out; have := HMl.out; rw [List.length_append]; omega) (by have := HL.out; omega) (by have := HL.out; omega) (by omega) (by omega) (by have := HPn.out; omega) _ _ _ rfl rfl rfl (by have := HR1.out; simpa using this)) ?_
                rintro e w6 ⟨rfl, R2, hR2, hw6⟩
                have HE : Hid (∃ R, Mrg A B R ∧ Rw blk N w0 (P ++ (R ++ S)) w6) := ⟨R1 ++ R2, HCut.out R1 R2 HM1.out hR2, by simpa using hw6⟩
                clear hR2 hw6
                go_wp2_with fail
                go_end0
                exact ⟨rfl, HE.out⟩)
              · have HE : Hid (∃ R, Mrg A B R ∧ Rw blk N w0 (P ++ (R ++ S)) w5) := ⟨R1 ++ (A2 ++ B2), HCut.out R1 _ HM1.out (half1 HRs.out.2.1 HRs.out.2.2.2 (by
                  have := HL.out
                  by_cases e : en = b
                  · exact .inr (List.eq_nil_of_length_eq_zero (by omega))
                  · exact .inl (List.eq_nil_of_length_eq_zero (by omega)))), by have := HR1.out; simpa using this⟩
                by_cases z5 : mid < en
                · have z5' : (mid : Int) < (en : Int) := by omega
                  have z6 : ¬ (en : Int) < (b : Int) := by omega
                  (go_wp2_with fail) <;> (
                  go_end0
                  exact ⟨rfl, HE.out⟩)
                · have z5' : ¬ (mid : Int) < (en : Int) := by omega
                  (go_wp2_with fail) <;> (
                  go_end0
                  exact ⟨rfl, HE.out⟩))
            · have HM1 : Hid (Mrg A1 B1 (A1 ++ B1)) := half1 HRs.out.1 HRs.out.2.2.1 (by
                have := HL.out
                by_cases e : a = i
                · exact .inl (List.eq_nil_of_length_eq_zero (by omega))
                · exact .inr (List.eq_nil_of_length_eq_zero (by omega)))
              have HMl := toHid' HM1.out.length
              have HR1 : Hid (Rw blk N w0 (P ++ (A1 ++ B1) ++ A2 ++ (B2 ++ S)) wr) := by unfold Hid; have := HRt.out; simpa using this
              clear HRt
              generalize A1 ++ B1 = R1 at *
              by_cases z3 : a < i
              · have z3' : (a : Int) < (i : Int) := by omega
                have z4 : ¬ (i : Int) < (mid : Int) := by omega
                by_cases h3 : mid < en ∧ en < b
                · have z5 : (mid : Int) < (en : Int) := by omega
                  have z6 : (en : Int) < (b : Int) := by omega
                  (go_wp2_with fail) <;> (
                  refine Calls.mono (HIH.out (P ++ R1) A2 B2 S mid en b _ HRs.out.2.1 HRs.out.2.2.2 (by have := HL.out; have := HMl.out; rw [List.length_append]; omega) (by have := HL.out; omega) (by have := HL.out; omega) (by omega) (by omega) (by have := HPn.out; omega) _ _ _ rfl rfl rfl (by have := HR1.out; simpa using this)) ?_
                  rintro e w6 ⟨rfl, R2, hR2, hw6⟩
                  have HE : Hid (∃ R, Mrg A B R ∧ Rw blk N w0 (P ++ (R ++ S)) w6) := ⟨R1 ++ R2, HCut.out R1 R2 HM1.out hR2, by simpa using hw6⟩
                  clear hR2 hw6
                  go_wp2_with fail
                  go_end0
                  exact ⟨rfl, HE.out⟩)
                · have HE : Hid (∃ R, Mrg A B R ∧ Rw blk N w0 (P ++ (R ++ S)) wr) := ⟨R1 ++ (A2 ++ B2), HCut.out R1 _ HM1.out (half1 HRs.out.2.1 HRs.out.2.2.2 (by
                    have := HL.out
                    by_cases e : en = b
                    · exact .inr (List.eq_nil_of_length_eq_zero (by omega))
                    · exact .inl (List.eq_nil_of_length_eq_zero (by omega)))), by have := HR1.out; simpa using this⟩
                  by_cases z5 : mid < en
                  · have z5' : (mid : Int) < (en : Int) := by omega
                    have z6 : ¬ (en : Int) < (b : Int) := by omega
                    (go_wp2_with fail) <;> (
                    go_end0
                    exact ⟨rfl, HE.out⟩)
                  · have z5' : ¬ (mid : Int) < (en : Int) := by omega
                    (go_wp2_with fail) <;> (
                    go_end0
                    exact ⟨rfl, HE.out⟩)
              · have z3' : ¬ (a : Int) < (i : Int) := by omega
                by_cases h3 : mid < en ∧ en < b
                · have z5 : (mid : Int) < (en : Int) := by omega
                  have z6 : (en : Int) < (b : Int) := by omega
                  (go_wp2_with fail) <;> (
                  refine Calls.mono (HIH.out (P ++ R1) A2 B2 S mid en b _ HRs.out.2.1 HRs.out.2.2.2 (by have := HL.out; have := HMl.out; rw [List.length_append]; omega) (by have := HL.out; omega) (by have := HL.out; omega) (by omega) (by omega) (by have := HPn.out; omega) _ _ _ rfl rfl rfl (by have := HR1.out; simpa using this)) ?_
                  rintro e w6 ⟨rfl, R2, hR2, hw6⟩
                  have HE : Hid (∃ R, Mrg A B R ∧ Rw blk N w0 (P ++ (R ++ S)) w6) := ⟨R1 ++ R2, HCut.out R1 R2 HM1.out hR2, by simpa using hw6⟩
                  clear hR2 hw6
                  go_wp2_with fail
                  go_end0
                  exact ⟨rfl, HE.out⟩)
                · have HE : Hid (∃ R, Mrg A B R ∧ Rw blk N w0 (P ++ (R ++ S)) wr) := ⟨R1 ++ (A2 ++ B2), HCut.out R1 _ HM1.out (half1 HRs.out.2.1 HRs.out.2.2.2 (by
                    have := HL.out
                    by_cases e : en = b
                    · exact .inr (List.eq_nil_of_length_eq_zero (by omega))
                    · exact .inl (List.eq_nil_of_length_eq_zero (by omega)))), by have := HR1.out; simpa using this⟩
                  by_cases z5 : mid < en
                  · have z5' : (mid : Int) < (en : Int) := by omega
                    have z6 : ¬ (en : Int) < (b : Int) := by omega
                    (go_wp2_with fail) <;> (
                    go_end0
                    exact ⟨rfl, HE.out⟩)
                  · have z5' : ¬ (mid : Int) < (en : Int) := by omega
                    (go_wp2_with fail) <;> (
                    go_end0
                    exact ⟨rfl, HE.out⟩)
  · have k1 : a ≤ a := Nat.le_refl _
    go_enter Tryd.func98, Tryd.ntmps98
    go_wp2_with fail
    go_loopw [20, 21] (fun vi vj wr => ∃ i j : Nat, a ≤ i ∧ i ≤ j ∧ j ≤ m ∧ vi = .int .i64 i ∧ vj = .int .i64 j ∧ Hid ((∀ (_ : a < i) (h1 : mid - i < B.length) (h2 : i - 1 - a < A.length), ¬ B[mid - i].1 < A[i - 1 - a].1) ∧ ∀ (_ : j < m) (h1 : mid - 1 - j < B.length) (h2 : j - a < A.length), B[mid - 1 - j].1 < A[j - a].1) ∧ Hid (Rw blk N w0 (P ++ A ++ B ++ S) wr)) (fun vi vj _ => (intOf vj).toNat - (intOf vi).toNat)
    case atStart => exact ⟨a, m, by omega, by omega, by omega, rfl, rfl, ⟨fun h => by omega, fun h => by omega⟩, H0⟩
    case round =>
      clear H0
      obtain ⟨i, j, hi, hij, hj, rfl, rfl, HI, HR⟩ := hrel
      by_cases hlt : i < j
      · obtain ⟨hh, hhe⟩ : ∃ h : Nat, ((i : Int) + (j : Int)) / 2 = (h : Int) := ⟨(i + j) / 2, by omega⟩
        have hh1 : i ≤ hh := by omega
        have hh2 : hh < j := by omega
        obtain ⟨pc, hpc⟩ : ∃ pc : Nat, (pp : Int) - (hh : Int) = (pc : Int) := ⟨pp - hh, by omega⟩
        have hal : hh - a < A.length := by have := HP.out.2.1; omega
        have hbl : mid - 1 - hh < B.length := by have := HP.out.2.2.1; omega
        have ex := HG.out (hh - a) hal
        rw [show a + (hh - a) = hh by omega] at ex
        have ey := HG2.out (mid - 1 - hh) hbl
        rw [show m + (mid - 1 - hh) = pc by omega] at ey
        obtain ⟨x, hx⟩ : ∃ x, x = A[hh - a] := ⟨_, rfl⟩
        obtain ⟨y, hy⟩ : ∃ y, y = B[mid - 1 - hh] := ⟨_, rfl⟩
        rw [← hx] at ex
        rw [← hy] at ey
        have HX := toHid' ex
        have HY := toHid' ey
        have HXe := toHid' hx
        have HYe := toHid' hy
        clear hx hy ex ey
        have HRd := toHid' HR.out.drew
        obtain ⟨c0, c1⟩ := HR.out.cells HF.out hh x HX.out
        obtain ⟨d0, d1⟩ := HR.out.cells HF.out pc y HY.out
        obtain ⟨e0, e1⟩ := HRd.out.cells HF.out hh x HX.out
        obtain ⟨f0, f1⟩ := HRd.out.cells HF.out pc y HY.out
        have HC : Hid (∀ W, Calls Tryd.prog 54 #[.agg #[.string (txt y.1), .string (txt y.2)], .agg #[.string (txt x.1), .string (txt x.2)]] W fun e w' => e = .returned (.int .i64 (cfP y x)) ∧ ∃ q os', w' = grow (W.drewN q) os') := fun W => closure54 y x W
        have HLt := toHid' (cf_lt y x)
        generalize cfP y x = cv at HC HLt
        have n1 : hh < N := by omega
        have n2 : pc < N := by omega
        have z1 : (hh : Int) < (N : Int) := by omega
        have z2 : (pc : Int) < (N : Int) := by omega
        have w1 : IntKind.i64.wrap (pc : Int) = (pc : Int) := by rw [IntKind.wrap_i64]; omega
        have w3 : pp < 2000000 := by omega
        have w4 : hh ≤ pp := by omega
        go_wp2_with fail
        go_region_held3 (fun W => W.cell? ⟨blk, hh * 2, none⟩ = some (.string (txt x.1)) ∧ W.cell? ⟨blk, hh * 2 + 1, none⟩ = some (.string (txt x.2)) ∧ W.cell? ⟨blk, pc * 2, none⟩ = some (.string (txt y.1)) ∧ W.cell? ⟨blk, pc * 2 + 1, none⟩ = some (.string (txt y.2))) (with_reducible exact ⟨by assumption, by assumption, by assumption, by assumption⟩) ((go_at_call 54; refine Calls.mono (HC.out _) ?_; rintro e wc ⟨rfl, q, os, hwc⟩; have HRc := toHid' (HRd.out.grown q os); rw [← hwc] at HRc; clear hwc; obtain ⟨g0, g1⟩ := HRc.out.cells HF.out hh x HX.out; obtain ⟨i0, i1⟩ := HRc.out.cells HF.out pc y HY.out))
        clear c0 c1 d0 d1 e0 e1 f0 f1 HRd HR HC g0 g1 i0 i1
        generalize decide (cv < 0) = bv at HLt ⊢
        cases bv
        case true =>
          have HI2 : Hid ((∀ (_ : a < i) (h1 : mid - i < B.length) (h2 : i - 1 - a < A.length), ¬ B[mid - i].1 < A[i - 1 - a].1) ∧ ∀ (_ : hh < m) (h1 : mid - 1 - hh < B.length) (h2 : hh - a < A.length), B[mid - 1 - hh].1 < A[hh - a].1) := ⟨HI.out.1, fun _ _ _ => by
            rw [← HXe.out, ← HYe.out]
            exact of_decide_eq_true HLt.out.symm⟩
          clear HI HX HY HXe HYe HLt
          go_wp2_with fail
          go_roundw
          case rel => exact ⟨i, hh, by omega, by omega, by omega, rfl, rfl, HI2, HRc⟩
          case measure => simp only [intOf]; omega
        case false =>
          have HI2 : Hid ((∀ (_ : a < hh + 1) (h1 : mid - (hh + 1) < B.length) (h2 : hh + 1 - 1 - a < A.length), ¬ B[mid - (hh + 1)].1 < A[hh + 1 - 1 - a].1) ∧ ∀ (_ : j < m) (h1 : mid - 1 - j < B.length) (h2 : j - a < A.length), B[mid - 1 - j].1 < A[j - a].1) := ⟨fun _ _ _ => by
            have e1 : mid - (hh + 1) = mid - 1 - hh := by omega
            have e2 : hh + 1 - 1 - a = hh - a := by omega
            simp only [e1, e2]
            rw [← HXe.out, ← HYe.out]
            exact of_decide_eq_false HLt.out.symm, HI.out.2⟩
          clear HI HX HY HXe HYe HLt
          go_wp2_with fail
          go_roundw
          case rel => exact ⟨hh + 1, j, by omega, by omega, by omega, by simp, rfl, HI2, HRc⟩
          case measure => simp only [intOf]; omega
      · obtain rfl : i = j := by omega
        obtain ⟨en, hen⟩ : ∃ en : Nat, (mid : Int) + (m : Int) - (i : Int) = (en : Int) := ⟨mid + m - i, by omega⟩
        have q1 : a ≤ i := by omega
        have q2 : i ≤ m := by omega
        have q3 : m ≤ en := by omega
        have q4 : en ≤ b := by omega
        have q5 : i ≤ mid := by omega
        have q6 : mid ≤ en := by omega
        have w1 : IntKind.i64.wrap (en : Int) = (en : Int) := by rw [IntKind.wrap_i64]; omega
        have HCut : Hid (∀ R1 R2, Mrg (A.take (i - a)) (B.take (en - m)) R1 → Mrg (A.drop (i - a)) (B.drop (en - m)) R2 → Mrg A B (R1 ++ R2)) := fun R1 R2 r1 r2 => by
          obtain ⟨p1, p2, p3, _⟩ := HP.out
          refine mrg_cut HRi.out.1 HRi.out.2 (i - a) (en - m) (by omega) (by omega) (fun h1 h0 h2 => ?_) (fun h0 h1 h2 => ?_) r1 r2
          · have e : en - m - 1 = mid - 1 - i := by omega
            simp only [e]
            exact HI.out.2 (by omega) (by omega) (by omega)
          · have e : en - m = mid - i := by omega
            have e' : i - a - 1 = i - 1 - a := by omega
            simp only [e, e']
            exact HI.out.1 (by omega) (by omega) (by omega)
        have l1 : (A.take (i - a)).length = i - a := by have := HP.out.2.1; rw [List.length_take]; omega
        have l2 : (A.drop (i - a)).length = m - i := by have := HP.out.2.1; rw [List.length_drop]; omega
        have l3 : (B.take (en - m)).length = en - m := by have := HP.out.2.2.1; rw [List.length_take]; omega
        have l4 : (B.drop (en - m)).length = b - en := by have := HP.out.2.2.1; rw [List.length_drop]; omega
        have r1 := rise_take HRi.out.1 (i - a)
        have r2 := rise_drop HRi.out.1 (i - a)
        have r3 := rise_take HRi.out.2 (en - m)
        have r4 := rise_drop HRi.out.2 (en - m)
        have HRw : Hid (Rw blk N w0 (P ++ A.take (i - a) ++ A.drop (i - a) ++ B.take (en - m) ++ (B.drop (en - m) ++ S)) wr) := by
          have h := HR.out
          unfold Hid
          have e : P ++ A.take (i - a) ++ A.drop (i - a) ++ B.take (en - m) ++ (B.drop (en - m) ++ S) = P ++ A ++ B ++ S := by
            conv => rhs; rw [← List.take_append_drop (i - a) A, ← List.take_append_drop (en - m) B]
            simp only [List.append_assoc]
          rw [e]
          exact h
        have hP0 := HP.out.1
        have hPn := HP.out.2.2.2
        generalize A.take (i - a) = A1 at *
        generalize A.drop (i - a) = A2 at *
        generalize B.take (en - m) = B1 at *
        generalize B.drop (en - m) = B2 at *
        have HL := toHid' (And.intro hP0 (And.intro l1 (And.intro l2 (And.intro l3 l4))))
        have HRs := toHid' (And.intro r1 (And.intro r2 (And.intro r3 r4)))
        have HPn := toHid' hPn
        clear hP0 l1 l2 l3 l4 r1 r2 r3 r4 hPn HI HR HG HG2 HP HRi
        by_cases h1 : i < m ∧ m < en
        · have z1 : (i : Int) < (m : Int) := by omega
          have z2 : (m : Int) < (en : Int) := by omega
          (go_wp2_with fail) <;> (
          refine Calls.mono (rotate_any HF.out (P ++ A1) A2 B1 (B2 ++ S) i m en (by have := HL.out; rw [List.length_append]; omega) (by have := HL.out; omega) (by have := HL.out; omega) (by omega) (by omega) _ _ _ rfl rfl rfl HRw.out) ?_
          rintro e w4 ⟨rfl, hw4⟩
          have HRt : Hid (Rw blk N w0 (P ++ A1 ++ B1 ++ A2 ++ (B2 ++ S)) w4) := hw4
          clear hw4 HRw
          by_cases h2 : a < i ∧ i < mid
          · have z3 : (a : Int) < (i : Int) := by omega
            have z4 : (i : Int) < (mid : Int) := by omega
            (go_wp2_with fail) <;> (
            refine Calls.mono (HIH.out P A1 B1 (A2 ++ (B2 ++ S)) a i mid _ HRs.out.1 HRs.out.2.2.1 (by have := HL.out; omega) (by have := HL.out; omega) (by have := HL.out; omega) (by omega) (by omega) (by have := HPn.out; omega) _ _ _ rfl rfl rfl (by have := HRt.out; simpa using this)) ?_
            rintro e w5 ⟨rfl, R1, hR1, hw5⟩
            have HM1 := toHid' hR1
            have HMl := toHid' hR1.length
            have HR1 : Hid (Rw blk N w0 (P ++ R1 ++ A2 ++ (B2 ++ S)) w5) := by unfold Hid; simpa using hw5
            clear hR1 hw5 HRt
            by_cases h3 : mid < en ∧ en < b
            · have z5 : (mid : Int) < (en : Int) := by omega
              have z6 : (en : Int) < (b : Int) := by omega
              (go_wp2_with fail) <;> (
              refine Calls.mono (HIH.out (P ++ R1) A2 B2 S mid en b _ HRs.out.2.1 HRs.out.2.2.2 (by have := HL.out; have := HMl.out; rw [List.length_append]; omega) (by have := HL.out; omega) (by have := HL.out; omega) (by omega) (by omega) (by have := HPn.out; omega) _ _ _ rfl rfl rfl (by have := HR1.out; simpa using this)) ?_
              rintro e w6 ⟨rfl, R2, hR2, hw6⟩
              have HE : Hid (∃ R, Mrg A B R ∧ Rw blk N w0 (P ++ (R ++ S)) w6) := ⟨R1 ++ R2, HCut.out R1 R2 HM1.out hR2, by simpa using hw6⟩
              clear hR2 hw6
              go_wp2_with fail
              go_end0
              exact ⟨rfl, HE.out⟩)
            · have HE : Hid (∃ R, Mrg A B R ∧ Rw blk N w0 (P ++ (R ++ S)) w5) := ⟨R1 ++ (A2 ++ B2), HCut.out R1 _ HM1.out (half1 HRs.out.2.1 HRs.out.2.2.2 (by
                have := HL.out
                by_cases e : en = b
                · exact .inr (List.eq_nil_of_length_eq_zero (by omega))
                · exact .inl (List.eq_nil_of_length_eq_zero (by omega)))), by have := HR1.out; simpa using this⟩
              by_cases z5 : mid < en
              · have z5' : (mid : Int) < (en : Int) := by omega
                have z6 : ¬ (en : Int) < (b : Int) := by omega
                (go_wp2_with fail) <;> (
                go_end0
                exact ⟨rfl, HE.out⟩)
              · have z5' : ¬ (mid : Int) < (en : Int) := by omega
                (go_wp2_with fail) <;> (
                go_end0
                exact ⟨rfl, HE.out⟩))
          · have HM1 : Hid (Mrg A1 B1 (A1 ++ B1)) := half1 HRs.out.1 HRs.out.2.2.1 (by
              have := HL.out
              by_cases e : a = i
              · exact .inl (List.eq_nil_of_length_eq_zero (by omega))
              · exact .inr (List.eq_nil_of_length_eq_zero (by omega)))
            have HMl := toHid' HM1.out.length
            have HR1 : Hid (Rw blk N w0 (P ++ (A1 ++ B1) ++ A2 ++ (B2 ++ S)) w4) := by unfold Hid; have := HRt.out; simpa using this
            clear HRt
            generalize A1 ++ B1 = R1 at *
            by_cases z3 : a < i
            · have z3' : (a : Int) < (i : Int) := by omega
              have z4 : ¬ (i : Int) < (mid : Int) := by omega
              by_cases h3 : mid < en ∧ en < b
              · have z5 : (mid : Int) < (en : Int) := by omega
                have z6 : (en : Int) < (b : Int) := by omega
                (go_wp2_with fail) <;> (
                refine Calls.mono (HIH.out (P ++ R1) A2 B2 S mid en b _ HRs.out.2.1 HRs.out.2.2.2 (by have := HL.out; have := HMl.out; rw [List.length_append]; omega) (by have := HL.out; omega) (by have := HL.out; omega) (by omega) (by omega) (by have := HPn.out; omega) _ _ _ rfl rfl rfl (by have := HR1.out; simpa using this)) ?_
                rintro e w6 ⟨rfl, R2, hR2, hw6⟩
                have HE : Hid (∃ R, Mrg A B R ∧ Rw blk N w0 (P ++ (R ++ S)) w6) := ⟨R1 ++ R2, HCut.out R1 R2 HM1.out hR2, by simpa using hw6⟩
                clear hR2 hw6
                go_wp2_with fail
                go_end0
                exact ⟨rfl, HE.out⟩)
              · have HE : Hid (∃ R, Mrg A B R ∧ Rw blk N w0 (P ++ (R ++ S)) w4) := ⟨R1 ++ (A2 ++ B2), HCut.out R1 _ HM1.out (half1 HRs.out.2.1 HRs.out.2.2.2 (by
                  have := HL.out
                  by_cases e : en = b
                  · exact .inr (List.eq_nil_of_length_eq_zero (by omega))
                  · exact .inl (List.eq_nil_of_length_eq_zero (by omega)))), by have := HR1.out; simpa using this⟩
                by_cases z5 : mid < en
                · have z5' : (mid : Int) < (en : Int) := by omega
                  have z6 : ¬ (en : Int) < (b : Int) := by omega
                  (go_wp2_with fail) <;> (
                  go_end0
                  exact ⟨rfl, HE.out⟩)
                · have z5' : ¬ (mid : Int) < (en : Int) := by omega
                  (go_wp2_with fail) <;> (
                  go_end0
                  exact ⟨rfl, HE.out⟩)
            · have z3' : ¬ (a : Int) < (i : Int) := by omega
              by_cases h3 : mid < en ∧ en < b
              · have z5 : (mid : Int) < (en : Int) := by omega
                have z6 : (en : Int) < (b : Int) := by omega
                (go_wp2_with fail) <;> (
                refine Calls.mono (HIH.out (P ++ R1) A2 B2 S mid en b _ HRs.out.2.1 HRs.out.2.2.2 (by have := HL.out; have := HMl.out; rw [List.length_append]; omega) (by have := HL.out; omega) (by have := HL.out; omega) (by omega) (by omega) (by have := HPn.out; omega) _ _ _ rfl rfl rfl (by have := HR1.out; simpa using this)) ?_
                rintro e w6 ⟨rfl, R2, hR2, hw6⟩
                have HE : Hid (∃ R, Mrg A B R ∧ Rw blk N w0 (P ++ (R ++ S)) w6) := ⟨R1 ++ R2, HCut.out R1 R2 HM1.out hR2, by simpa using hw6⟩
                clear hR2 hw6
                go_wp2_with fail
                go_end0
                exact ⟨rfl, HE.out⟩)
              · have HE : Hid (∃ R, Mrg A B R ∧ Rw blk N w0 (P ++ (R ++ S)) w4) := ⟨R1 ++ (A2 ++ B2), HCut.out R1 _ HM1.out (half1 HRs.out.2.1 HRs.out.2.2.2 (by
                  have := HL.out
                  by_cases e : en = b
                  · exact .inr (List.eq_nil_of_length_eq_zero (by omega))
                  · exact .inl (List.eq_nil_of_length_eq_zero (by omega)))), by have := HR1.out; simpa using this⟩
                by_cases z5 : mid < en
                · have z5' : (mid : Int) < (en : Int) := by omega
                  have z6 : ¬ (en : Int) < (b : Int) := by omega
                  (go_wp2_with fail) <;> (
                  go_end0
                  exact ⟨rfl, HE.out⟩)
                · have z5' : ¬ (mid : Int) < (en : Int) := by omega
                  (go_wp2_with fail) <;> (
                  go_end0
                  exact ⟨rfl, HE.out⟩))
        · have HRt : Hid (Rw blk N w0 (P ++ A1 ++ B1 ++ A2 ++ (B2 ++ S)) wr) := by
            have h := HRw.out
            have hl := HL.out
            unfold Hid
            by_cases e : i = m
            · obtain rfl : A2 = [] := List.eq_nil_of_length_eq_zero (by omega)
              simpa using h
            · obtain rfl : B1 = [] := List.eq_nil_of_length_eq_zero (by omega)
              simpa using h
          clear HRw
          by_cases z1 : i < m
          · have z1' : (i : Int) < (m : Int) := by omega
            have z2 : ¬ (m : Int) < (en : Int) := by omega
            by_cases h2 : a < i ∧ i < mid
            · have z3 : (a : Int) < (i : Int) := by omega
              have z4 : (i : Int) < (mid : Int) := by omega
              (go_wp2_with fail) <;> (
              refine Calls.mono (HIH.out P A1 B1 (A2 ++ (B2 ++ S)) a i mid _ HRs.out.1 HRs.out.2.2.1 (by have := HL.out; omega) (by have := HL.out; omega) (by have := HL.out; omega) (by omega) (by omega) (by have := HPn.out; omega) _ _ _ rfl rfl rfl (by have := HRt.out; simpa using this)) ?_
              rintro e w5 ⟨rfl, R1, hR1, hw5⟩
              have HM1 := toHid' hR1
              have HMl := toHid' hR1.length
              have HR1 : Hid (Rw blk N w0 (P ++ R1 ++ A2 ++ (B2 ++ S)) w5) := by unfold Hid; simpa using hw5
              clear hR1 hw5 HRt
              by_cases h3 : mid < en ∧ en < b
              · have z5 : (mid : Int) < (en : Int) := by omega
                have z6 : (en : Int) < (b : Int) := by omega
                (go_wp2_with fail) <;> (
                refine Calls.mono (HIH.out (P ++ R1) A2 B2 S mid en b _ HRs.out.2.1 HRs.out.2.2.2 (by have := HL.out; have := HMl.out; rw [List.length_append]; omega) (by have := HL.out; omega) (by have := HL.out; omega) (by omega) (by omega) (by have := HPn.out; omega) _ _ _ rfl rfl rfl (by have := HR1.out; simpa using this)) ?_
                rintro e w6 ⟨rfl, R2, hR2, hw6⟩
                have HE : Hid (∃ R, Mrg A B R ∧ Rw blk N w0 (P ++ (R ++ S)) w6) := ⟨R1 ++ R2, HCut.out R1 R2 HM1.out hR2, by simpa using hw6⟩
                clear hR2 hw6
                go_wp2_with fail
                go_end0
                exact ⟨rfl, HE.out⟩)
              · have HE : Hid (∃ R, Mrg A B R ∧ Rw blk N w0 (P ++ (R ++ S)) w5) := ⟨R1 ++ (A2 ++ B2), HCut.out R1 _ HM1.out (half1 HRs.out.2.1 HRs.out.2.2.2 (by
                  have := HL.out
                  by_cases e : en = b
                  · exact .inr (List.eq_nil_of_length_eq_zero (by omega))
                  · exact .inl (List.eq_nil_of_length_eq_zero (by omega)))), by have := HR1.out; simpa using this⟩
                by_cases z5 : mid < en
                · have z5' : (mid : Int) < (en : Int) := by omega
                  have z6 : ¬ (en : Int) < (b : Int) := by omega
                  (go_wp2_with fail) <;> (
                  go_end0
                  exact ⟨rfl, HE.out⟩)
                · have z5' : ¬ (mid : Int) < (en : Int) := by omega
                  (go_wp2_with fail) <;> (
                  go_end0
                  exact ⟨rfl, HE.out⟩))
            · have HM1 : Hid (Mrg A1 B1 (A1 ++ B1)) := half1 HRs.out.1 HRs.out.2.2.1 (by
                have := HL.out
                by_cases e : a = i
                · exact .inl (List.eq_nil_of_length_eq_zero (by omega))
                · exact .inr (List.eq_nil_of_length_eq_zero (by omega)))
              have HMl := toHid' HM1.out.length
              have HR1 : Hid (Rw blk N w0 (P ++ (A1 ++ B1) ++ A2 ++ (B2 ++ S)) wr) := by unfold Hid; have := HRt.out; simpa using this
              clear HRt
              generalize A1 ++ B1 = R1 at *
              by_cases z3 : a < i
              · have z3' : (a : Int) < (i : Int) := by omega
                have z4 : ¬ (i : Int) < (mid : Int) := by omega
                by_cases h3 : mid < en ∧ en < b
                · have z5 : (mid : Int) < (en : Int) := by omega
                  have z6 : (en : Int) < (b : Int) := by omega
                  (go_wp2_with fail) <;> (
                  refine Calls.mono (HIH.out (P ++ R1) A2 B2 S mid en b _ HRs.out.2.1 HRs.out.2.2.2 (by have := HL.out; have := HMl.out; rw [List.length_append]; omega) (by have := HL.out; omega) (by have := HL.out; omega) (by omega) (by omega) (by have := HPn.out; omega) _ _ _ rfl rfl rfl (by have := HR1.out; simpa using this)) ?_
                  rintro e w6 ⟨rfl, R2, hR2, hw6⟩
                  have HE : Hid (∃ R, Mrg A B R ∧ Rw blk N w0 (P ++ (R ++ S)) w6) := ⟨R1 ++ R2, HCut.out R1 R2 HM1.out hR2, by simpa using hw6⟩
                  clear hR2 hw6
                  go_wp2_with fail
                  go_end0
                  exact ⟨rfl, HE.out⟩)
                · have HE : Hid (∃ R, Mrg A B R ∧ Rw blk N w0 (P ++ (R ++ S)) wr) := ⟨R1 ++ (A2 ++ B2), HCut.out R1 _ HM1.out (half1 HRs.out.2.1 HRs.out.2.2.2 (by
                    have := HL.out
                    by_cases e : en = b
                    · exact .inr (List.eq_nil_of_length_eq_zero (by omega))
                    · exact .inl (List.eq_nil_of_length_eq_zero (by omega)))), by have := HR1.out; simpa using this⟩
                  by_cases z5 : mid < en
                  · have z5' : (mid : Int) < (en : Int) := by omega
                    have z6 : ¬ (en : Int) < (b : Int) := by omega
                    (go_wp2_with fail) <;> (
                    go_end0
                    exact ⟨rfl, HE.out⟩)
                  · have z5' : ¬ (mid : Int) < (en : Int) := by omega
                    (go_wp2_with fail) <;> (
                    go_end0
                    exact ⟨rfl, HE.out⟩)
              · have z3' : ¬ (a : Int) < (i : Int) := by omega
                by_cases h3 : mid < en ∧ en < b
                · have z5 : (mid : Int) < (en : Int) := by omega
                  have z6 : (en : Int) < (b : Int) := by omega
                  (go_wp2_with fail) <;> (
                  refine Calls.mono (HIH.out (P ++ R1) A2 B2 S mid en b _ HRs.out.2.1 HRs.out.2.2.2 (by have := HL.out; have := HMl.out; rw [List.length_append]; omega) (by have := HL.out; omega) (by have := HL.out; omega) (by omega) (by omega) (by have := HPn.out; omega) _ _ _ rfl rfl rfl (by have := HR1.out; simpa using this)) ?_
                  rintro e w6 ⟨rfl, R2, hR2, hw6⟩
                  have HE : Hid (∃ R, Mrg A B R ∧ Rw blk N w0 (P ++ (R ++ S)) w6) := ⟨R1 ++ R2, HCut.out R1 R2 HM1.out hR2, by simpa using hw6⟩
                  clear hR2 hw6
                  go_wp2_with fail
                  go_end0
                  exact ⟨rfl, HE.out⟩)
                · have HE : Hid (∃ R, Mrg A B R ∧ Rw blk N w0 (P ++ (R ++ S)) wr) := ⟨R1 ++ (A2 ++ B2), HCut.out R1 _ HM1.out (half1 HRs.out.2.1 HRs.out.2.2.2 (by
                    have := HL.out
                    by_cases e : en = b
                    · exact .inr (List.eq_nil_of_length_eq_zero (by omega))
                    · exact .inl (List.eq_nil_of_length_eq_zero (by omega)))), by have := HR1.out; simpa using this⟩
                  by_cases z5 : mid < en
                  · have z5' : (mid : Int) < (en : Int) := by omega
                    have z6 : ¬ (en : Int) < (b : Int) := by omega
                    (go_wp2_with fail) <;> (
                    go_end0
                    exact ⟨rfl, HE.out⟩)
                  · have z5' : ¬ (mid : Int) < (en : Int) := by omega
                    (go_wp2_with fail) <;> (
                    go_end0
                    exact ⟨rfl, HE.out⟩)
          · have z1' : ¬ (i : Int) < (m : Int) := by omega
            by_cases h2 : a < i ∧ i < mid
            · have z3 : (a : Int) < (i : Int) := by omega
              have z4 : (i : Int) < (mid : Int) := by omega
              (go_wp2_with fail) <;> (
              refine Calls.mono (HIH.out P A1 B1 (A2 ++ (B2 ++ S)) a i mid _ HRs.out.1 HRs.out.2.2.1 (by have := HL.out; omega) (by have := HL.out; omega) (by have := HL.out; omega) (by omega) (by omega) (by have := HPn.out; omega) _ _ _ rfl rfl rfl (by have := HRt.out; simpa using this)) ?_
              rintro e w5 ⟨rfl, R1, hR1, hw5⟩
              have HM1 := toHid' hR1
              have HMl := toHid' hR1.length
              have HR1 : Hid (Rw blk N w0 (P ++ R1 ++ A2 ++ (B2 ++ S)) w5) := by unfold Hid; simpa using hw5
              clear hR1 hw5 HRt
              by_cases h3 : mid < en ∧ en < b
              · have z5 : (mid : Int) < (en : Int) := by omega
                have z6 : (en : Int) < (b : Int) := by omega
                (go_wp2_with fail) <;> (
                refine Calls.mono (HIH.out (P ++ R1) A2 B2 S mid en b _ HRs.out.2.1 HRs.out.2.2.2 (by have := HL.out; have := HMl.out; rw [List.length_append]; omega) (by have := HL.out; omega) (by have := HL.out; omega) (by omega) (by omega) (by have := HPn.out; omega) _ _ _ rfl rfl rfl (by have := HR1.out; simpa using this)) ?_
                rintro e w6 ⟨rfl, R2, hR2, hw6⟩
                have HE : Hid (∃ R, Mrg A B R ∧ Rw blk N w0 (P ++ (R ++ S)) w6) := ⟨R1 ++ R2, HCut.out R1 R2 HM1.out hR2, by simpa using hw6⟩
                clear hR2 hw6
                go_wp2_with fail
                go_end0
                exact ⟨rfl, HE.out⟩)
              · have HE : Hid (∃ R, Mrg A B R ∧ Rw blk N w0 (P ++ (R ++ S)) w5) := ⟨R1 ++ (A2 ++ B2), HCut.out R1 _ HM1.out (half1 HRs.out.2.1 HRs.out.2.2.2 (by
                  have := HL.out
                  by_cases e : en = b
                  · exact .inr (List.eq_nil_of_length_eq_zero (by omega))
                  · exact .inl (List.eq_nil_of_length_eq_zero (by omega)))), by have := HR1.out; simpa using this⟩
                by_cases z5 : mid < en
                · have z5' : (mid : Int) < (en : Int) := by omega
                  have z6 : ¬ (en : Int) < (b : Int) := by omega
                  (go_wp2_with fail) <;> (
                  go_end0
                  exact ⟨rfl, HE.out⟩)
                · have z5' : ¬ (mid : Int) < (en : Int) := by omega
                  (go_wp2_with fail) <;> (
                  go_end0
                  exact ⟨rfl, HE.out⟩))
            · have HM1 : Hid (Mrg A1 B1 (A1 ++ B1)) := half1 HRs.out.1 HRs.out.2.2.1 (by
                have := HL.out
                by_cases e : a = i
                · exact .inl (List.eq_nil_of_length_eq_zero (by omega))
                · exact .inr (List.eq_nil_of_length_eq_zero (by omega)))
              have HMl := toHid' HM1.out.length
              have HR1 : Hid (Rw blk N w0 (P ++ (A1 ++ B1) ++ A2 ++ (B2 ++ S)) wr) := by unfold Hid; have := HRt.out; simpa using this
              clear HRt
              generalize A1 ++ B1 = R1 at *
              by_cases z3 : a < i
              · have z3' : (a : Int) < (i : Int) := by omega
                have z4 : ¬ (i : Int) < (mid : Int) := by omega
                by_cases h3 : mid < en ∧ en < b
                · have z5 : (mid : Int) < (en : Int) := by omega
                  have z6 : (en : Int) < (b : Int) := by omega
                  (go_wp2_with fail) <;> (
                  refine Calls.mono (HIH.out (P ++ R1) A2 B2 S mid en b _ HRs.out.2.1 HRs.out.2.2.2 (by have := HL.out; have := HMl.out; rw [List.length_append]; omega) (by have := HL.out; omega) (by have := HL.out; omega) (by omega) (by omega) (by have := HPn.out; omega) _ _ _ rfl rfl rfl (by have := HR1.out; simpa using this)) ?_
                  rintro e w6 ⟨rfl, R2, hR2, hw6⟩
                  have HE : Hid (∃ R, Mrg A B R ∧ Rw blk N w0 (P ++ (R ++ S)) w6) := ⟨R1 ++ R2, HCut.out R1 R2 HM1.out hR2, by simpa using hw6⟩
                  clear hR2 hw6
                  go_wp2_with fail
                  go_end0
                  exact ⟨rfl, HE.out⟩)
                · have HE : Hid (∃ R, Mrg A B R ∧ Rw blk N w0 (P ++ (R ++ S)) wr) := ⟨R1 ++ (A2 ++ B2), HCut.out R1 _ HM1.out (half1 HRs.out.2.1 HRs.out.2.2.2 (by
                    have := HL.out
                    by_cases e : en = b
                    · exact .inr (List.eq_nil_of_length_eq_zero (by omega))
                    · exact .inl (List.eq_nil_of_length_eq_zero (by omega)))), by have := HR1.out; simpa using this⟩
                  by_cases z5 : mid < en
                  · have z5' : (mid : Int) < (en : Int) := by omega
                    have z6 : ¬ (en : Int) < (b : Int) := by omega
                    (go_wp2_with fail) <;> (
                    go_end0
                    exact ⟨rfl, HE.out⟩)
                  · have z5' : ¬ (mid : Int) < (en : Int) := by omega
                    (go_wp2_with fail) <;> (
                    go_end0
                    exact ⟨rfl, HE.out⟩)
              · have z3' : ¬ (a : Int) < (i : Int) := by omega
                by_cases h3 : mid < en ∧ en < b
                · have z5 : (mid : Int) < (en : Int) := by omega
                  have z6 : (en : Int) < (b : Int) := by omega
                  (go_wp2_with fail) <;> (
                  refine Calls.mono (HIH.out (P ++ R1) A2 B2 S mid en b _ HRs.out.2.1 HRs.out.2.2.2 (by have := HL.out; have := HMl.out; rw [List.length_append]; omega) (by have := HL.out; omega) (by have := HL.out; omega) (by omega) (by omega) (by have := HPn.out; omega) _ _ _ rfl rfl rfl (by have := HR1.out; simpa using this)) ?_
                  rintro e w6 ⟨rfl, R2, hR2, hw6⟩
                  have HE : Hid (∃ R, Mrg A B R ∧ Rw blk N w0 (P ++ (R ++ S)) w6) := ⟨R1 ++ R2, HCut.out R1 R2 HM1.out hR2, by simpa using hw6⟩
                  clear hR2 hw6
                  go_wp2_with fail
                  go_end0
                  exact ⟨rfl, HE.out⟩)
                · have HE : Hid (∃ R, Mrg A B R ∧ Rw blk N w0 (P ++ (R ++ S)) wr) := ⟨R1 ++ (A2 ++ B2), HCut.out R1 _ HM1.out (half1 HRs.out.2.1 HRs.out.2.2.2 (by
                    have := HL.out
                    by_cases e : en = b
                    · exact .inr (List.eq_nil_of_length_eq_zero (by omega))
                    · exact .inl (List.eq_nil_of_length_eq_zero (by omega)))), by have := HR1.out; simpa using this⟩
                  by_cases z5 : mid < en
                  · have z5' : (mid : Int) < (en : Int) := by omega
                    have z6 : ¬ (en : Int) < (b : Int) := by omega
                    (go_wp2_with fail) <;> (
                    go_end0
                    exact ⟨rfl, HE.out⟩)
                  · have z5' : ¬ (mid : Int) < (en : Int) := by omega
                    (go_wp2_with fail) <;> (
                    go_end0
                    exact ⟨rfl, HE.out⟩)
end Go.Proofs.YtebchgoaelamcaaDoor
