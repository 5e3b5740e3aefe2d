/-
  The law OwnTurns: its walk.
-/
import Derived.Test.YtdlanenbbmnbhaaAr
import Derived.Test.YtdlanenbbmnbhaaMb
import Derived.Test.YtdlanenbbmnbhaaCj
import Derived.Test.YtdlanenbbmnbhaaQt
import Derived.Deep.DeepCutAuto
import Derived.Deep.CutBlock
namespace Go.Proofs.Ytdlanenbbmnbhaa
open Go.RowKit

set_option maxRecDepth 20000 in
set_option maxHeartbeats 4000000 in
theorem turns_walk (n0 pg : Int) (a : Option Addr) (c : Nat) (ops : List OpG) (w : World) (ho : SlO w a ops) (hol : ops.length ≤ maxLen) :
    Calls Try.prog 5 #[.int .i64 n0, .slice a ops.length c, .int .i64 pg] w fun e w' => e = .returned (.bool true) ∧ Below w.heap.size w w' := by
  unfold maxLen at hol
  cases hnew : newB n0 []
  · have HN := toHid (new_no n0 none 0 [] w hnew)
    have HL := toHid (lives_any w)
    clear ho hnew
    go_enter Try.func5, Try.ntmps5
    go_wp2_with fail
    refine Calls.mono HN.out ?_
    rintro e w1 ⟨rfl, hw⟩
    obtain rfl := hw.symm
    clear HN hw
    go_wp2_with fail
    refine Calls.mono HL.out ?_
    rintro e w3 ⟨rfl, hb3⟩
    have HB3 := toHid hb3
    clear hb3 HL
    go_wp2
    go_ret
    exact ⟨rfl, HB3.out⟩
  · have hnw : 1 ≤ n0 ∧ n0 ≤ 16 := by simp [newB] at hnew; omega
    obtain ⟨m, rfl⟩ : ∃ m : Nat, n0 = (m : Int) := ⟨n0.toNat, by omega⟩
    have hm1 : 1 ≤ m := by omega
    have hm2 : m ≤ 16 := by omega
    have HN := toHid (new_yes m none 0 [] w hm1 hm2 (by simp) ⟨fun j hj => by simp at hj⟩)
    have HS := toHid ho
    clear ho hnew hnw
    go_enter Try.func5, Try.ntmps5
    go_wp2_with fail
    refine Calls.mono HN.out ?_
    rintro e w1 ⟨⟨p, q, rfl, hb, hp, hq⟩, hB⟩
    have HB1 := toHid hb
    have HBe1 := toHid hB
    have hsz1 := hB.size
    clear HN hb hB
    go_upto_block 0 with fail
    go_cut [] (fun W => ∃ l : List Lf, l.length = m ∧ BkOk l ∧ Bk W p q l ∧ Below w.heap.size w W)
    case first =>
      go_wp2_with fail
      go_loopw [9] (fun i wr => ∃ n : Nat, ∃ l : List Lf, n ≤ ops.length ∧ i = .int .i64 n ∧ l.length = m ∧ BkOk l ∧ Bk wr p q l ∧ Below w.heap.size w wr) (fun i _ => ops.length - (intOf i).toNat)
      case atStart => exact ⟨0, _, Nat.zero_le _, rfl, new_len m [], new_ok m [], HB1.out, HBe1.out⟩
      case round =>
        clear HB1 HBe1
        obtain ⟨n, l, hn, rfl, hlm, hok, hbk, hbe⟩ := hrel
        have HO := toHid hok
        have HBk := toHid hbk
        have HBe := toHid hbe
        have HLm := toHid hlm
        have hso := HS.out.below hbe
        have hszr := hbe.size
        by_cases hgo : n < ops.length ∧ n < 80
        · obtain ⟨hlt, h80⟩ := hgo
          obtain ⟨b, o, rfl, c0, c1, c2⟩ := hso.at_ n hlt
          generalize ops[n] = op at c0 c1 c2
          obtain ⟨kd, pgo, ino⟩ := op
          simp only at c0 c1 c2
          by_cases k0 : kd = 0
          · subst k0
            have HC := toHid (need_any p q l pgo ino wr.drew hbk.drew hok)
            have HK := toHid (need_ok hok pgo ino)
            have HL := need_len l pgo ino
            rw [hlm] at HL
            clear hok hbk hbe hlm hso
            go_wp2_with fail
            refine wp_region_quiet_tail 11 Try.mixed (by kernel_rfl) ?_
            simp only [List.take_succ_cons, List.take_zero, List.drop_succ_cons, List.drop_zero]
            repeat (first | go_big_quiet_step (fail))
            refine wpQuiet_nil ?_
            go_wp2_with fail
            refine Calls.mono HC.out ?_
            rintro e w2 ⟨⟨v, rfl, hv⟩, hb2, ho2⟩
            have HX := toHid hb2
            have HY := toHid (HBe.out.drew.trans ((ho2.below (B := w.heap.size) hq hszr)))
            clear hb2 ho2 hv HC
            go_wp2_with fail
            go_roundw
            case rel => exact ⟨n + 1, _, by omega, by simp, HL, HK.out, HX.out, HY.out⟩
            case measure => first | omega | (simp only [intOf]; omega)
          · have e0 : (kd == 0) = false := by simpa using k0
            by_cases k1 : kd = 1
            · subst k1
              have HC := toHid (back_any p q l pgo ino wr.drew hbk.drew hok)
              have HK := toHid (back_ok hok pgo ino)
              have HL := back_len l pgo ino
              rw [hlm] at HL
              clear hok hbk hbe hlm hso
              go_wp2_with fail
              refine wp_region_quiet_tail 11 Try.mixed (by kernel_rfl) ?_
              simp only [List.take_succ_cons, List.take_zero, List.drop_succ_cons, List.drop_zero]
              repeat (first | go_big_quiet_step (fail))
              refine wpQuiet_nil ?_
              go_wp2_with fail
              refine Calls.mono HC.out ?_
              rintro e w2 ⟨⟨v, rfl, hv⟩, hb2, ho2⟩
              have HX := toHid hb2
              have HY := toHid (HBe.out.drew.trans ((ho2.below (B := w.heap.size) hq hszr)))
              clear hb2 ho2 hv HC
              go_wp2_with fail
              go_roundw
              case rel => exact ⟨n + 1, _, by omega, by simp, HL, HK.out, HX.out, HY.out⟩
              case measure => first | omega | (simp only [intOf]; omega)
            · have e1 : (kd == 1) = false := by simpa using k1
              by_cases k2 : kd = 2
              · subst k2
                have HC := toHid (fail_any p q l ino wr hbk hok)
                have HK := toHid (fail_ok hok ino)
                have HL := fail_len l ino
                rw [hlm] at HL
                clear hok hbk hbe hlm hso
                go_wp2_with fail
                refine Calls.mono HC.out ?_
                rintro e w2 ⟨⟨va, vc, rfl, hv, hvn⟩, hb2, ho2⟩
                have HX := toHid hb2
                have HY := toHid (HBe.out.trans ((ho2.below (B := w.heap.size) hq hszr)))
                clear hb2 ho2 hv HC
                go_wp2_with fail
                go_roundw
                case rel => exact ⟨n + 1, _, by omega, by simp, HL, HK.out, HX.out, HY.out⟩
                case measure => first | omega | (simp only [intOf]; omega)
              · have e2 : (kd == 2) = false := by simpa using k2
                by_cases k3 : kd = 3
                · subst k3
                  have HC := toHid (mend_any p q l pgo wr hbk hok)
                  have HK := toHid (mend_ok hok pgo)
                  have HL := mend_len l pgo
                  rw [hlm] at HL
                  clear hok hbk hbe hlm hso
                  go_wp2_with fail
                  refine Calls.mono HC.out ?_
                  rintro e w2 ⟨⟨v, rfl, hv⟩, hb2, ho2⟩
                  have HX := toHid hb2
                  have HY := toHid (HBe.out.trans ((ho2.below (B := w.heap.size) hq hszr)))
                  clear hb2 ho2 hv HC
                  go_wp2_with fail
                  go_roundw
                  case rel => exact ⟨n + 1, _, by omega, by simp, HL, HK.out, HX.out, HY.out⟩
                  case measure => first | omega | (simp only [intOf]; omega)
                · have e3 : (kd == 3) = false := by simpa using k3
                  clear hok hbk hbe hlm hso
                  go_wp2_with fail
                  go_roundw
                  case rel => exact ⟨n + 1, l, by omega, by simp, HLm.out, HO.out, HBk.out, HBe.out⟩
                  case measure => first | omega | (simp only [intOf]; omega)
        · have hx : (n < ops.length ∧ ¬ n < 80) ∨ ¬ n < ops.length := by omega
          clear hgo hso
          rcases hx with ⟨hlt, h80⟩ | hlt
          all_goals
            go_wp2
            go_meet
            case rel => exact ⟨l, hlm, hok, hbk, hbe⟩
    case rest =>
      clear HB1 HBe1 HS
      obtain ⟨l, hlm, hok, hbk, hbe⟩ := hcut
      have HO := toHid hok
      have HBk := toHid hbk
      have HBe := toHid hbe
      have HLm := toHid hlm
      have hszr := hbe.size
      by_cases hpg : 0 ≤ pg ∧ pg < (m : Int)
      · obtain ⟨i, rfl⟩ : ∃ i : Nat, pg = (i : Int) := ⟨pg.toNat, by omega⟩
        have hi : i < l.length := by rw [hlm]; omega
        have hpl : (i : Int) < (m : Int) := hpg.2
        have hxo := hok.at hi
        have hlen := hxo.len
        have HW := toHid (waits_any p q l i wc hbk hok)
        rw [lfAt_yes hi] at HW
        obtain ⟨R, hR⟩ : ∃ R, l[i].ws = R := ⟨_, rfl⟩
        rw [hR] at HW hlen
        have HRw := toHid hR
        have HXo := toHid hxo
        clear hR hbe hlm hbk hok hpg hxo
        go_wp2_with fail
        refine Calls.mono HW.out ?_
        rintro e w2 ⟨⟨v, rfl, a2, c2, rfl, hs2, hn2, hc2⟩, hb2⟩
        have HB2 := toHid (HBk.out.below hb2)
        have HY2 := toHid (HBe.out.trans (hb2.mono hszr))
        have HLo := toHid (lost_any p q l i w2 HB2.out)
        rw [lfAt_yes hi] at HLo
        have HS2 := toHid hs2
        have HN2 := toHid hn2
        have HMe := toHid (mend_any p q l i w2 HB2.out HO.out)
        have hsz2 := HY2.out.size
        clear hb2 HW hs2 hn2
        go_wp2_with fail
        refine Calls.mono HLo.out ?_
        rintro e w3 ⟨rfl, hw⟩
        obtain rfl := hw.symm
        clear HLo hw
        obtain ⟨lo, hlo⟩ : ∃ lo, l[i].lost = lo := ⟨_, rfl⟩
        rw [hlo]
        go_upto_if 109 with fail
        go_cut [10] (fun v W => ∃ (R2 : List Int) (b2 : Option Addr) (d2 : Nat) (l0 : List Lf) (hi0 : i < l0.length), v = .slice b2 R2.length d2 ∧ BkOk l0 ∧ Bk W p q l0 ∧ l0[i].lost = false ∧ l0[i].ws = R2 ∧ SlI W b2 R2 ∧ (∀ x, b2 = some x → x.block ≠ q) ∧ Below w.heap.size w W ∧ R2.length ≤ 8)
        case first =>
          cases lo
          · as_aux_lemma =>
            go_wp2
            go_meet
            case rel => exact ⟨R, a2, c2, l, hi, rfl, HO.out, HB2.out, hlo, HRw.out, HS2.out, HN2.out, HY2.out, hlen⟩
          · rw [mend_good hi hlo] at HMe
            have hmo := mend_ok HO.out (i : Int)
            rw [mend_good hi hlo] at hmo
            clear hlo
            cases R with
            | nil => as_aux_lemma =>
              rw [back_none i HRw.out] at HMe hmo
              go_wp2_with fail
              refine Calls.mono HMe.out ?_
              rintro e w4 ⟨⟨v, rfl, a4, c4, rfl, s4, n4⟩, hb4, ho4⟩
              simp only at s4 hb4 hmo
              have HB4 := toHid hb4
              have HK4 := toHid hmo
              have HS4 := toHid (HS2.out.one ho4 (fun x hx => HN2.out x hx))
              have HY4 := toHid (HY2.out.trans (ho4.below hq hsz2))
              clear hb4 ho4 hmo s4 n4 HMe
              go_wp2_with fail
              go_quiet (fail)
              obtain ⟨wq, hwq⟩ : ∃ wq, wq = w4.drewN nq := ⟨_, rfl⟩
              rw [← hwq]
              have HBq := toHid (HB4.out.drewN nq)
              have HSq : Hid (SlI (w4.drewN nq) a2 []) := SlI.nil _ _
              have HYq := toHid (below_drewN HY4.out nq)
              rw [← hwq] at HBq HSq HYq
              clear hwq HB4 HS4 HY4
              go_wp2
              go_meet
              case rel => exact ⟨[], a2, c2, _, by simpa using hi, rfl, HK4.out, HBq.out, by simp only [List.getElem_set_self], by simp only [List.getElem_set_self], HSq.out, HN2.out, HYq.out, by simp⟩
            | cons y S => as_aux_lemma =>
              rw [back_turn i HXo.out HRw.out false rfl] at HMe hmo
              obtain ⟨b3, o3, rfl, hb3, r0⟩ := HS2.out.at 0 (by simp)
              go_wp2_with fail
              refine Calls.mono HMe.out ?_
              rintro e w4 ⟨⟨v, rfl, a4, c4, rfl, s4, n4⟩, hb4, ho4⟩
              simp only at s4 hb4 hmo
              have HB4 := toHid hb4
              have HK4 := toHid hmo
              have HS4 := toHid (HS2.out.one ho4 (fun x hx => HN2.out x hx))
              have HY4 := toHid (HY2.out.trans (ho4.below hq hsz2))
              obtain ⟨b5, o5, e5, -, r5⟩ := HS4.out.at 0 (by simp)
              cases e5
              obtain ⟨b6, o6, rfl, -, x0, x1, x2, x3, x4⟩ := s4.at 0 (by simp)
              simp only [List.getElem_cons_zero, Nat.zero_mul, Nat.add_zero] at x0 x1 x2 x3 x4 r5
              simp only [List.length_cons] at hlen hc2
              clear hb4 ho4 hmo s4 n4 HMe r0
              have hol := nextO_len (i : Int) y S l[i].fast
              generalize nextO (i : Int) y S l[i].fast = N at hol ⊢
              simp only [List.length_cons]
              go_wp2_with fail
              go_quiet (fail)
              obtain ⟨wq, hwq⟩ : ∃ wq, wq = w4.drewN nq := ⟨_, rfl⟩
              rw [← hwq]
              have HBq := toHid (HB4.out.drewN nq)
              have HSq : Hid (SlI (w4.drewN nq) (some ⟨b3, o3 + 1, none⟩) S) := ⟨HS4.out.tail.nonil, HS4.out.tail.cells⟩
              have HYq := toHid (below_drewN HY4.out nq)
              rw [← hwq] at HBq HSq HYq
              clear hwq HB4 HS4 HY4 x0 x1 x2 x3 x4 r5
              by_cases hcc : c2 = 1
              · have hS0 : S = [] := List.eq_nil_of_length_eq_zero (by omega)
                subst hS0
                subst hcc
                go_wp2
                go_meet
                case rel => exact ⟨[], _, _, _, by simpa using hi, rfl, HK4.out, HBq.out, by simp only [List.getElem_set_self], by simp only [List.getElem_set_self], SlI.nil _ _, fun x hx => HN2.out x hx, HYq.out, by simp⟩
              · go_wp2
                go_meet
                case rel => exact ⟨S, some ⟨b3, o3 + 1, none⟩, c2 - 1, _, by simpa using hi, by simp, HK4.out, HBq.out, by simp only [List.getElem_set_self], by simp only [List.getElem_set_self], HSq.out, fun x hx => by cases hx; exact HN2.out ⟨b3, o3, none⟩ rfl, HYq.out, by omega⟩
        case rest =>
          obtain ⟨R2, b2, d2, l0, hi0, rfl, hok0, hbk0, hlo0, hws0, hsl0, hn0, hbe0, hlen0⟩ := hcut
          have HO0 := toHid hok0
          have HB0 := toHid hbk0
          have HL0 := toHid hlo0
          have HW0 := toHid hws0
          have HS0 := toHid hsl0
          have HN0 := toHid hn0
          have HY0 := toHid hbe0
          clear hok0 hbk0 hlo0 hws0 hsl0 hn0 hbe0 HO HBk HBe HB2 HY2 HS2 HN2 HMe HRw HXo hlo hlen
          go_wp2_with fail
          go_loopw [13] (fun k wr2 => ∃ j : Nat, ∃ l2 : List Lf, ∃ hi2 : i < l2.length, j ≤ R2.length ∧ k = .int .i64 j ∧ BkOk l2 ∧ Bk wr2 p q l2 ∧ l2[i].lost = false ∧ l2[i].ws = R2.drop j ∧ SlI wr2 b2 R2 ∧ Below w.heap.size w wr2) (fun k _ => R2.length - (intOf k).toNat)
          case atStart => exact ⟨0, l0, hi0, Nat.zero_le _, rfl, HO0.out, HB0.out, HL0.out, by rw [List.drop_zero]; exact HW0.out, HS0.out, HY0.out⟩
          case round =>
            clear HB0 HY0 HS0 HO0 HL0 HW0
            obtain ⟨j, l2, hi2, hj, rfl, hok2, hbk2, hlo2, hws2, hsl2, hbe2⟩ := hrel
            by_cases hjl : j < R2.length
            · obtain ⟨y, hy⟩ : ∃ y, R2[j]'hjl = y := ⟨_, rfl⟩
              obtain ⟨S, hS⟩ : ∃ S, R2.drop (j + 1) = S := ⟨_, rfl⟩
              have hdr : R2.drop j = y :: S := by rw [List.drop_eq_getElem_cons hjl, hy, hS]
              rw [hdr] at hws2
              have hx2 := hok2.at hi2
              have how := hx2.waits (by rw [hws2]; simp) hlo2
              obtain ⟨b3, o3, rfl, hb3, r0⟩ := hsl2.at j hjl
              rw [hy] at r0
              have HOw := toHid (owner_any p q l2 i wr hbk2)
              rw [lfAt_yes hi2] at HOw
              have hinst : instB l2[i].owner = true := inst_iff.2 (by have := hx2.own0; have := hx2.own8; have := how.1; omega)
              have HBa := toHid (back_any p q l2 i l2[i].owner wr hbk2 hok2)
              rw [back_good hi2 hinst rfl, back_turn i hx2 hws2 false rfl] at HBa
              have hok3 := back_ok hok2 i l2[i].owner
              rw [back_good hi2 hinst rfl, back_turn i hx2 hws2 false rfl] at hok3
              have HSl := toHid hsl2
              have HBe2 := toHid hbe2
              have hszw := hbe2.size
              obtain ⟨ow, hw0⟩ : ∃ ow, l2[i].owner = ow := ⟨_, rfl⟩
              rw [hw0] at HOw HBa
              have hRl : R2.length = j + 1 + S.length := by have := congrArg List.length hS; simp at this; omega
              have hR1 : ∀ k2 S2, S = k2 :: S2 → ∃ h : j + 1 < R2.length, R2[j + 1]'h = k2 := fun k2 S2 e => by
                have h : j + 1 < R2.length := by rw [hRl, e]; simp
                have := List.drop_eq_getElem_cons h
                rw [hS, e] at this
                exact ⟨h, by injection this with h1 _; exact h1.symm⟩
              have HSS := toHid hS
              have HYj := toHid hy
              have HR1 := toHid hR1
              clear hR1
              have HRl := toHid hRl
              clear hdr hx2 how hbk2 hok2 hsl2 hbe2 hinst hw0 hS hRl hws2 hlo2 hy
              go_wp2_with fail
              refine Calls.mono HOw.out ?_
              rintro e w4 ⟨rfl, hw⟩
              obtain rfl := hw.symm
              clear HOw hw
              go_wp2_with fail
              refine Calls.mono HBa.out ?_
              rintro e w4 ⟨⟨v, rfl, a4, c4, rfl, s4, n4⟩, hb4, ho4⟩
              simp only at s4 hb4 hok3
              have hi3 : i < (l2.set i ⟨l2[i].fast, y, false, !S.isEmpty, S⟩).length := by simpa using hi2
              have HOw : Hid (∀ W, Bk W p q (l2.set i ⟨l2[i].fast, y, false, !S.isEmpty, S⟩) → Calls Try.prog 19 #[.pointer (some ⟨p, 0, none⟩), .int .i64 (i : Int)] W fun e w' => e = .returned (.int .i64 y) ∧ w' = W) := toHid fun W hW => by
                have := owner_any p q _ i W hW
                rw [lfAt_yes hi3] at this
                simpa only [List.getElem_set_self] using this
              have HB4 := toHid hb4
              have HS4 := toHid (HSl.out.one ho4 (fun x hx => HN0.out x hx))
              have HY4 := toHid (HBe2.out.trans (ho4.below hq hszw))
              have HK3 := toHid hok3
              obtain ⟨b5, o5, e5, -, r5⟩ := HS4.out.at j hjl
              cases e5
              clear HBa hb4 ho4 hok3 HSl HBe2 r0
              rw [HYj.out] at r5
              obtain ⟨Q, hQ⟩ : ∃ Q : Nat, Hid (Q = j + 1) := ⟨j + 1, toHid rfl⟩
              have hwr : IntKind.i64.wrap ((j : Int) + 1) = (Q : Int) := by have := hQ.out; rw [IntKind.wrap_i64]; omega
              have hjb : (j : Int) < (R2.length : Int) := by omega
              have hQle : Q ≤ R2.length := by have := hQ.out; omega
              clear HYj hjl hj
              cases S with
              | nil => as_aux_lemma =>
                have hQn : ¬ Q < R2.length := by have := hQ.out; have h2 := HRl.out; simp at h2; omega
                have hQl : ¬ (Q : Int) < (R2.length : Int) := by omega
                simp only [nextO] at s4 ⊢
                obtain ⟨b6, o6, e6, -, x0, x1, x2, x3, x4⟩ := s4.at 0 (by simp)
                cases e6
                simp only [List.getElem_cons_zero, Nat.zero_mul, Nat.add_zero] at x0 x1 x2 x3 x4
                clear s4 n4
                go_wp2_with fail
                go_quiet ((go_at_call 19; exact Calls.quiet_of_same (HOw.out _ (HB4.out.drewN _))))
                obtain ⟨wq, hwq⟩ : ∃ wq, wq = w4.drewN nq := ⟨_, rfl⟩
                rw [← hwq]
                have HBq : Hid (Bk wq p q (l2.set i ⟨l2[i].fast, y, false, !([] : List Int).isEmpty, []⟩)) := by rw [hwq]; exact HB4.out.drewN _
                have HSq : Hid (SlI wq (some ⟨b3, o3, none⟩) R2) := by rw [hwq]; exact ⟨HS4.out.nonil, HS4.out.cells⟩
                have HYq : Hid (Below w.heap.size w wq) := by rw [hwq]; exact below_drewN HY4.out _
                clear hwq x0 x1 x2 x3 x4 r5 HB4 HS4 HY4 HOw
                go_wp2_with fail
                go_quiet (fail)
                go_wp2_with fail
                go_roundw
                case rel => exact ⟨Q, _, hi3, hQle, rfl, HK3.out, HBq.out.drewN _, by simp only [List.getElem_set_self], by simp only [List.getElem_set_self]; rw [hQ.out]; exact HSS.out.symm, ⟨HSq.out.nonil, HSq.out.cells⟩, below_drewN HYq.out _⟩
                case measure => have := hQ.out; simp only [intOf]; omega
              | cons y2 S2 => as_aux_lemma =>
                obtain ⟨hj1, hy2⟩ := HR1.out y2 S2 rfl
                have hQn : Q < R2.length := by have := hQ.out; omega
                have hQl : (Q : Int) < (R2.length : Int) := by omega
                simp only [nextO] at s4 ⊢
                obtain ⟨b6, o6, e6, -, x0, x1, x2, x3, x4⟩ := s4.at 0 (by simp)
                cases e6
                simp only [List.getElem_cons_zero, Nat.zero_mul, Nat.add_zero] at x0 x1 x2 x3 x4
                obtain ⟨b7, o7, e7, -, z0, z1, z2, z3, z4⟩ := s4.at 1 (by simp)
                cases e7
                simp only [List.getElem_cons_succ, List.getElem_cons_zero, Nat.one_mul] at z0 z1 z2 z3 z4
                clear s4 n4
                go_wp2_with fail
                go_quiet ((go_at_call 19; exact Calls.quiet_of_same (HOw.out _ (HB4.out.drewN _))))
                obtain ⟨wq, hwq⟩ : ∃ wq, wq = w4.drewN nq := ⟨_, rfl⟩
                rw [← hwq]
                have HBq : Hid (Bk wq p q (l2.set i ⟨l2[i].fast, y, false, !(y2 :: S2).isEmpty, y2 :: S2⟩)) := by rw [hwq]; exact HB4.out.drewN _
                have HSq : Hid (SlI wq (some ⟨b3, o3, none⟩) R2) := by rw [hwq]; exact ⟨HS4.out.nonil, HS4.out.cells⟩
                have HYq : Hid (Below w.heap.size w wq) := by rw [hwq]; exact below_drewN HY4.out _
                obtain ⟨b8, o8, e8, -, r7⟩ := HSq.out.at (j + 1) hj1
                cases e8
                rw [hy2] at r7
                rw [← hQ.out] at r7
                have q0 := cellq hwq z0
                have q2 := cellq hwq z2
                have q3 := cellq hwq z3
                have r5q := cellq hwq r5
                clear z0 z1 z2 z3 z4 hy2
                clear hwq x0 x1 x2 x3 x4 r5 HB4 HS4 HY4 HOw
                go_wp2_with fail
                go_quiet (fail)
                go_wp2_with fail
                go_roundw
                case rel => exact ⟨Q, _, hi3, hQle, rfl, HK3.out, HBq.out.drewN _, by simp only [List.getElem_set_self], by simp only [List.getElem_set_self]; rw [hQ.out]; exact HSS.out.symm, ⟨HSq.out.nonil, HSq.out.cells⟩, below_drewN HYq.out _⟩
                case measure => have := hQ.out; simp only [intOf]; omega
            · obtain rfl : j = R2.length := by omega
              have HW9 := toHid (waits_any p q l2 i wr hbk2 hok2)
              rw [lfAt_yes hi2, hws2, List.drop_length] at HW9
              have HBe2 := toHid hbe2
              have hszw := hbe2.size
              clear hbk2 hok2 hws2 hsl2 hlo2 hbe2
              as_aux_lemma =>
              go_wp2_with fail
              refine Calls.mono HW9.out ?_
              rintro e w2 ⟨⟨v, rfl, a9, c9, rfl, -, -, -⟩, hb2⟩
              have HL := toHid (lives_any w2)
              have HY := toHid (HBe2.out.trans (hb2.mono hszw))
              clear hb2 HW9
              go_wp2_with fail
              refine Calls.mono HL.out ?_
              rintro e w3 ⟨rfl, hb3⟩
              have HB3 := toHid (HY.out.trans (hb3.mono HY.out.size))
              clear hb3 HL
              go_wp2
              go_ret
              exact ⟨rfl, HB3.out⟩
      · have HW := toHid (waits_any p q l pg wc hbk hok)
        rw [lfAt_no (by rw [hlm]; exact hpg), show (default : Lf).ws = [] from rfl] at HW
        clear hok hbk hbe hlm
        have hp1 : pg < 0 ∨ (¬ pg < 0 ∧ (m : Int) ≤ pg) := by omega
        rcases hp1 with hp1 | ⟨hp0, hp1⟩
        all_goals
          go_wp2_with fail
          refine Calls.mono HW.out ?_
          rintro e w2 ⟨⟨v, rfl, a2, c2, rfl, -, -, -⟩, hb2⟩
          have HL := toHid (lives_any w2)
          have HY := toHid (HBe.out.trans (hb2.mono hszr))
          clear hb2 HW
          go_wp2_with fail
          refine Calls.mono HL.out ?_
          rintro e w3 ⟨rfl, hb3⟩
          have HB3 := toHid (HY.out.trans (hb3.mono HY.out.size))
          clear hb3 HL
          go_wp2
          go_ret
          exact ⟨rfl, HB3.out⟩
end Go.Proofs.Ytdlanenbbmnbhaa
