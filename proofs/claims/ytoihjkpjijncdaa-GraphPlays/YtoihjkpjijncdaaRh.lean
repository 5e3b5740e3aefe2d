/-
  The document's Gone; are the answers the document's?
-/
import Derived.Test.YtoihjkpjijncdaaRg
namespace Go.Proofs.Ytoihjkpjijncdaa
open Go.RowKit Go.Maps

def goneL (m : List (Int × Int)) (x : Int) : List (Int × Int) := m.filter fun e => decide (e.1 ≠ x ∧ e.2 ≠ x)
theorem goneL_map (m : List (Int × Int)) (x : Int) : (goneL m x).map leE = goneE (m.map leE) (liI x) := by
  unfold goneL goneE toE fromE
  rw [List.filter_filter]
  induction m with
  | nil => rfl
  | cons a r ih =>
    have h1 : (decide ((leE a).2 ≠ liI x) && decide ((leE a).1 ≠ liI x)) = decide (a.1 ≠ x ∧ a.2 ≠ x) := by
      rw [Bool.eq_iff_iff]
      simp only [Bool.and_eq_true, decide_eq_true_iff]
      simp [leE, liI]
      exact And.comm
    by_cases h : a.1 ≠ x ∧ a.2 ≠ x
    · rw [List.filter_cons_of_pos (by simpa using h), List.map_cons, List.map_cons, List.filter_cons_of_pos (by rw [h1]; simpa using h), ih]
    · rw [List.filter_cons_of_neg (by simpa using h), List.map_cons, List.filter_cons_of_neg (by rw [h1]; simpa using h), ih]
theorem gone_take {m : List (Int × Int)} {x : Int} {k : Nat} (h : k < m.length) : goneL (m.take (k + 1)) x = goneL (m.take k) x ++ (if m[k].1 ≠ x ∧ m[k].2 ≠ x then [m[k]] else []) := by
  unfold goneL
  rw [List.take_succ_eq_append_getElem h, List.filter_append]
  by_cases hk : m[k].1 ≠ x ∧ m[k].2 ≠ x
  · rw [if_pos hk, List.filter_cons_of_pos (by simpa using hk)]; rfl
  · rw [if_neg hk, List.filter_cons_of_neg (by simpa using hk)]; rfl

/-- Where the document's Gone stands. -/
structure Rg2 (w : World) (m : List (Int × Int)) (v : Value) (W : World) : Prop where
  low : Below w.heap.size w W
  row : W.ownsRow w.heap.size 27 2 v m.length (m.flatMap eC)

set_option maxRecDepth 100000 in
set_option maxHeartbeats 2000000 in
theorem refGone {w : World} {a : Option Addr} {c : Nat} {l : List (Int × Int)} (hL : SlE w a l) (hl : l.length ≤ 1000) (x : Int) :
    Calls Try.prog 14 #[.slice a l.length c, .int .i64 x] w fun e w' => ∃ (va : Option Addr) (vc : Nat), e = .returned (.slice va (goneL l x).length vc) ∧ Rg2 w (goneL l x) (.slice va (goneL l x).length vc) w' := by
  obtain ⟨j0, hj0, hy0, hy1, hy2⟩ := info_parts inf27
  have HL := toHid hL
  clear hL
  go_enter Try.func14, Try.ntmps14
  go_wp2_with fail
  go_loopw [5, 6] (fun s k W => ∃ (i : Nat) (m : List (Int × Int)) (va : Option Addr) (vc : Nat), i ≤ l.length ∧ m.length ≤ i ∧ k = .int .i64 i ∧ s = .slice va m.length vc ∧ Hid (m = goneL (l.take i) x) ∧ Hid (Rg2 w m s W)) (fun _ k _ => l.length - (intOf k).toNat)
  case atStart => exact ⟨0, [], none, 0, Nat.zero_le _, Nat.le_refl _, rfl, rfl, toHid (by simp [goneL]), toHid ⟨Below.refl _ _, World.ownsRow_nil _ _ _ _⟩⟩
  case round =>
    obtain ⟨i, m, va, vc, hi, hmi, rfl, rfl, HM, HX⟩ := hrel
    have hq2 : 0 ≤ (i : Int) := by omega
    by_cases hlt : i < l.length
    · have hq1 : (i : Int) < (l.length : Int) := by omega
      obtain ⟨b, o, rfl, c0, c1⟩ := HL.out.at_ i hlt
      have d0 := cell_low c0 (cell_lt c0) HX.out.low
      have d1 := cell_low c1 (cell_lt c1) HX.out.low
      have HT := toHid (gone_take (x := x) hlt)
      obtain ⟨e, he⟩ : ∃ e, l[i] = e := ⟨_, rfl⟩
      rw [he] at d0 d1 HT
      obtain ⟨u, v⟩ := e
      clear c0 c1 he
      by_cases hk : u ≠ x ∧ v ≠ x
      · obtain ⟨h1, h2⟩ := hk
        have hb1 : (u == x) = false := by simpa using h1
        have hb2 : (v == x) = false := by simpa using h2
        have hb3 : (u != x) = true := by simpa using h1
        have hb4 : (v != x) = true := by simpa using h2
        have HT' : Hid (m ++ [(u, v)] = goneL (l.take (i + 1)) x) := by show _ = _; rw [HT.out, if_pos ⟨h1, h2⟩, HM.out]
        have HRA := toHid (HX.out.row.alloc (.cells #[.int .i64 u, .int .i64 v] 27))
        clear HT HM
        go_wp2_with (first
          | (at_builtin; refine wpList_append_own _ rfl _ _ 25 rfl w.heap.size 27 j0 _ 2 16 Try.underlying25 hj0 hy0 hy1 hy2 rfl (by decide) _ m.length _ rfl HRA.out ⟨wr.heap.size, 0, none⟩ 1 1 [.int .i64 u, .int .i64 v] rfl rfl (cell_two wr _ _ _) (by intro q hq; simp at hq; rcases hq with rfl | rfl <;> rfl) (by unfold maxLen; omega) (by omega) (Nat.le_trans HX.out.low.size (by simp)) ?_; intro v7 w7 hown7 hgrow7 _)
          | fail)
        obtain ⟨va7, vc7, hv7⟩ : ∃ a c, v7 = .slice a (m.length + 1) c := by
          rcases hown7.2 with ⟨_, h0⟩ | ⟨g, cap, cur, rfl, _⟩
          · cases h0
          · exact ⟨_, _, rfl⟩
        subst hv7
        have HX7 := toHid (show Rg2 w (m ++ [(u, v)]) (.slice va7 (m.length + 1) vc7) w7 from ⟨(HX.out.low.alloc HX.out.low.size _).grown hgrow7 (Nat.le_trans HX.out.low.size (by simp)) (fun j hj => (HX.out.row.lt j hj).1), by simpa [eC] using hown7⟩)
        go_roundw
        case rel => exact ⟨i + 1, m ++ [(u, v)], va7, vc7, by omega, by simp; omega, by simp, by simp, HT', HX7⟩
        case measure => first | omega | (simp only [intOf]; omega)
      · have HT' : Hid (m = goneL (l.take (i + 1)) x) := by show _ = _; rw [HT.out, if_neg hk, HM.out]; simp
        clear HT HM
        by_cases h1 : u = x
        · subst h1
          clear hk
          go_wp2_with fail
          go_roundw
          case rel => exact ⟨i + 1, m, va, vc, by omega, by omega, by simp, rfl, HT', HX⟩
          case measure => first | omega | (simp only [intOf]; omega)
        · obtain rfl : v = x := by
            by_cases h2 : v = x
            · exact h2
            · exact absurd ⟨h1, h2⟩ hk
          clear hk
          go_wp2_with fail
          go_roundw
          case rel => exact ⟨i + 1, m, va, vc, by omega, by omega, by simp, rfl, HT', HX⟩
          case measure => first | omega | (simp only [intOf]; omega)
    · obtain rfl : i = l.length := by omega
      have HM' : Hid (m = goneL l x) := by have := HM.out; rw [List.take_length] at this; exact this
      go_wp2_with fail
      go_ret
      rw [← HM'.out]
      exact ⟨va, vc, rfl, HX.out⟩

theorem last_at {R : List Int} {y : Int} : ((R ++ [y]).getLastD 0) = y := by simp

set_option maxRecDepth 100000 in
set_option maxHeartbeats 2000000 in
theorem asked17 {w : World} {p N : Nat} {S : Nat → Prop} {a : Option Addr} {c : Nat} {m : List (Int × Int)} (hG : Gr 3 61 w p N (m.map leE) S) (hL : SlE w a m) (hm : m.length ≤ 1000) {x y : Int} (hx : (Lit.int .i64 x).wf = true) (hy : (Lit.int .i64 y).wf = true) :
    Calls Try.prog 17 #[.pointer (some ⟨p, 0, none⟩), .slice a m.length c, .int .i64 x, .int .i64 y] w fun e w' => e = .returned (.bool true) ∧ Below w.heap.size w w' := by
  have HL := toHid hL
  have hkx := keyI hx
  have hky := keyI hy
  have HG := toHid hG
  have hEl : (m.map leE).length ≤ 1000 := by simpa using hm
  clear hL hG
  go_enter Try.func17, Try.ntmps17
  go_wp2_with fail
  refine (ring35 HL.out hm x).mono ?_
  rintro e w1 ⟨va, vc, R, rfl, hX1, hRl, hR⟩
  have HB1 := toHid hX1.low
  have HR1 := toHid (RowI.of hX1.row)
  have HIR := toHid hR
  have HG1 := toHid (HG.out.below hX1.low)
  have HEM : Hid (ldsB (m.map leE) (.int .i64 x) (.int .i64 y) = ldsB (m.map leE) (.int .i64 x) (.int .i64 y)) := rfl
  obtain ⟨q, hq⟩ : ∃ q, ldsB (m.map leE) (.int .i64 x) (.int .i64 y) = q := ⟨_, rfl⟩
  have HQ := toHid hq
  clear hX1 hR hq HEM
  rcases List.eq_nil_or_concat R with rfl | ⟨R0, r0, hR0⟩
  · go_wp2_with (first
      | (go_at_call 23; refine (victim23 HG1.out hkx (by omega)).mono ?_; rintro e w2 ⟨R2, rfl, hR2, hb2⟩; obtain rfl := (hR2.eq HIR.out fun _ => Iff.rfl); have HB2 := toHid (below_next HB1.out HB1.out.size hb2); have HG2 := toHid (HG1.out.below hb2); have HR2 := toHid (HR1.out.below hb2); clear hb2 hR2)
      | (go_at_call 20; refine (leads20 HG2.out hkx hky (by omega)).mono ?_; rintro e w3 ⟨rfl, hb3⟩; rw [HQ.out]; have HB3 := toHid (below_next HB2.out HB2.out.size hb3); have HG3 := toHid (HG2.out.below hb3); have HR3 := toHid (HR2.out.below hb3); clear hb3)
      | (go_at_call 36; refine (reached36 (HL.out.below HB3.out) hm x).mono ?_; rintro e w4 ⟨vd, cd, D, rfl, hX4, hDn, hDl, hDm⟩; have HB4 := toHid (below_next HB3.out HB3.out.size hX4.low); have HG4 := toHid (HG3.out.below hX4.low); have HR4 := toHid (HR3.out.below hX4.low); have HD4 := toHid (RowI.of hX4.row); have HDq : Hid (decide (y ∈ D) = q) := (by show _ = _; rw [← HQ.out]; unfold ldsB; exact decide_eq_decide.2 (hDm y)); clear hX4 hDn hDm)
      | (go_at_call 22; refine (has22 HD4.out (by omega) y).mono ?_; rintro e w5 ⟨rfl, hw⟩; subst w5; rw [HDq.out])
      | (go_at_call 21; refine (ringI HG4.out hkx (by omega)).mono ?_; rintro e w6 ⟨vf, cf, R6, rfl, hr6, hb6, hR6, hl6⟩; obtain rfl := (hR6.eq HIR.out fun _ => Iff.rfl); have HB6 := toHid (below_next HB4.out HB4.out.size hb6); have HR6 := toHid (HR4.out.below hb6); have HS6 := toHid (RowI.of hr6); clear hr6 hb6 hR6)
      | (go_at_call 24; refine (same24 HS6.out HR6.out (by simp) (by simp)).mono ?_; rintro e w7 ⟨rfl, hb7⟩; rw [decide_eq_true rfl]; have HB7 := toHid (below_next HB6.out HB6.out.size hb7); clear hb7)
      | fail)
    go_ret
    exact ⟨by cases q <;> rfl, HB7.out⟩
  · have hlen : R.length = R0.length + 1 := by rw [hR0]; simp
    have hne : R.isEmpty = false := by rw [hR0]; simp
    have hla : R.getLastD 0 = r0 := by rw [hR0]; simp
    obtain ⟨g, rfl, hcs⟩ := HR1.out.resolve_left (fun e => by rw [e] at hlen; simp at hlen)
    have hcl : w1.cell? ⟨g, R0.length, none⟩ = some (.int .i64 r0) := by
      rw [hcs R0.length (by omega)]
      congr 2
      subst hR0
      simp
    have HCl : Hid (∀ W, Below w1.heap.size w1 W → W.cell? ⟨g, R0.length, none⟩ = some (.int .i64 r0)) := fun W hW => cell_low hcl (cell_lt hcl) hW
    have HNe := toHid hne
    have HLa := toHid hla
    have hp0 : (0 : Int) < (R0.length : Int) + 1 := by omega
    have hp1 : (R0.length : Int) < (R0.length : Int) + 1 := by omega
    have hp2 : 0 ≤ (R0.length : Int) := by omega
    have HLN := toHid hlen
    rw [hlen] at hRl ⊢
    clear hcs hcl hR0 hne hla
    go_wp2_with (first
      | (go_at_call 23; refine (victim23 HG1.out hkx (by omega)).mono ?_; rintro e w2 ⟨R2, rfl, hR2, hb2⟩; obtain rfl := (hR2.eq HIR.out fun _ => Iff.rfl).symm; rw [HNe.out, HLa.out]; have HB2 := toHid (below_next HB1.out HB1.out.size hb2); have HG2 := toHid (HG1.out.below hb2); have HR2 := toHid (HR1.out.below hb2); have k0 := HCl.out _ hb2; clear hb2 hR2)
      | (go_at_call 20; refine (leads20 HG2.out hkx hky (by omega)).mono ?_; rintro e w3 ⟨rfl, hb3⟩; rw [HQ.out]; have HB3 := toHid (below_next HB2.out HB2.out.size hb3); have HG3 := toHid (HG2.out.below hb3); have HR3 := toHid (HR2.out.below hb3); clear hb3)
      | (go_at_call 36; refine (reached36 (HL.out.below HB3.out) hm x).mono ?_; rintro e w4 ⟨vd, cd, D, rfl, hX4, hDn, hDl, hDm⟩; have HB4 := toHid (below_next HB3.out HB3.out.size hX4.low); have HG4 := toHid (HG3.out.below hX4.low); have HR4 := toHid (HR3.out.below hX4.low); have HD4 := toHid (RowI.of hX4.row); have HDq : Hid (decide (y ∈ D) = q) := (by show _ = _; rw [← HQ.out]; unfold ldsB; exact decide_eq_decide.2 (hDm y)); clear hX4 hDn hDm)
      | (go_at_call 22; refine (has22 HD4.out (by omega) y).mono ?_; rintro e w5 ⟨rfl, hw⟩; subst w5; rw [HDq.out])
      | (go_at_call 21; refine (ringI HG4.out hkx (by omega)).mono ?_; rintro e w6 ⟨vf, cf, R6, rfl, hr6, hb6, hR6, hl6⟩; obtain rfl := (hR6.eq HIR.out fun _ => Iff.rfl).symm; have HB6 := toHid (below_next HB4.out HB4.out.size hb6); have HR6 := toHid (HR4.out.below hb6); have HS6 := toHid (RowI.of hr6); clear hr6 hb6 hR6)
      | (go_at_call 24; rw [← HLN.out]; refine (same24 HS6.out HR6.out (by have := HLN.out; omega) (by have := HLN.out; omega)).mono ?_; rintro e w7 ⟨rfl, hb7⟩; rw [decide_eq_true rfl]; have HB7 := toHid (below_next HB6.out HB6.out.size hb7); clear hb7)
      | fail)
    go_ret
    exact ⟨by cases q <;> rfl, HB7.out⟩

end Go.Proofs.Ytoihjkpjijncdaa
