/-
  The law OwnGone: its walk.
-/
import Derived.Test.YtdlanenbbmnbhaaAr
import Derived.Test.YtdlanenbbmnbhaaMg
import Derived.Test.YtdlanenbbmnbhaaQt
import Derived.Deep.DeepCutAuto
import Derived.Deep.CutBlock
namespace Go.Proofs.Ytdlanenbbmnbhaa
open Go.RowKit

theorem arr_start {w : World} {q g1 g2 : Nat} {l : List Lf} (h1 : w.heap[g1]? = some (.cells (Array.replicate 16 (.int .i64 0)) 37)) (h2 : w.heap[g2]? = some (.cells (Array.replicate 16 (.slice none 0 0)) 55)) : Ar2 w q g1 g2 0 l :=
  ⟨⟨_, h1⟩, ⟨_, h2⟩, fun j hj => ⟨.int .i64 0, by simp [World.cell?, h1, hj]⟩, fun j hj => ⟨.slice none 0 0, by simp [World.cell?, h2, hj]⟩, fun j _ h => absurd h (by omega), fun j _ h => absurd h (by omega)⟩

set_option maxRecDepth 20000 in
set_option maxHeartbeats 4000000 in
theorem gone_walk (n0 ins : Int) (a : Option Addr) (c : Nat) (ops : List OpG) (w : World) (ho : SlO w a ops) (hol : ops.length ≤ maxLen) :
    Calls Try.prog 8 #[.int .i64 n0, .slice a ops.length c, .int .i64 ins] w fun e w' => e = .returned (.bool true) ∧ Below w.heap.size w w' := by
  unfold maxLen at hol
  cases hnew : newB n0 []
  · have HN := toHid (new_no n0 none 0 [] w hnew)
    have HL := toHid (lives_any w)
    clear ho hnew
    go_enter Try.func8, Try.ntmps8
    go_wp2_with fail
    refine Calls.mono HN.out ?_
    rintro e w1 ⟨rfl, hw⟩
    obtain rfl := hw.symm
    clear HN hw
    go_wp2_with fail
    refine Calls.mono HL.out ?_
    rintro e w3 ⟨rfl, hb3⟩
    have HB3 := toHid hb3
    clear hb3 HL
    go_wp2
    go_ret
    exact ⟨rfl, HB3.out⟩
  · have hnw : 1 ≤ n0 ∧ n0 ≤ 16 := by simp [newB] at hnew; omega
    obtain ⟨m, rfl⟩ : ∃ m : Nat, n0 = (m : Int) := ⟨n0.toNat, by omega⟩
    have hm1 : 1 ≤ m := by omega
    have hm2 : m ≤ 16 := by omega
    have HN := toHid (new_yes m none 0 [] w hm1 hm2 (by simp) ⟨fun j hj => by simp at hj⟩)
    have HS := toHid ho
    clear ho hnew hnw
    go_enter Try.func8, Try.ntmps8
    go_wp2_with fail
    refine Calls.mono HN.out ?_
    rintro e w1 ⟨⟨p, q, rfl, hb, hp, hq⟩, hB⟩
    have HB1 := toHid hb
    have HBe1 := toHid hB
    have hsz1 := hB.size
    have hpB := hb.lt.1
    have hqB := hb.lt.2.1
    clear HN hb hB
    go_upto_block 0 with fail
    go_cut [] (fun W => ∃ l : List Lf, l.length = m ∧ BkOk l ∧ Bk W p q l ∧ Below w.heap.size w W)
    case first =>
      go_wp2_with fail
      go_loopw [9] (fun i wr => ∃ n : Nat, ∃ l : List Lf, n ≤ ops.length ∧ i = .int .i64 n ∧ l.length = m ∧ BkOk l ∧ Bk wr p q l ∧ Below w.heap.size w wr) (fun i _ => ops.length - (intOf i).toNat)
      case atStart => exact ⟨0, _, Nat.zero_le _, rfl, new_len m [], new_ok m [], HB1.out, HBe1.out⟩
      case round =>
        clear HB1 HBe1
        obtain ⟨n, l, hn, rfl, hlm, hok, hbk, hbe⟩ := hrel
        have HO := toHid hok
        have HBk := toHid hbk
        have HBe := toHid hbe
        have HLm := toHid hlm
        have hso := HS.out.below hbe
        have hszr := hbe.size
        by_cases hgo : n < ops.length ∧ n < 80
        · obtain ⟨hlt, h80⟩ := hgo
          obtain ⟨b, o, rfl, c0, c1, c2⟩ := hso.at_ n hlt
          generalize ops[n] = op at c0 c1 c2
          obtain ⟨kd, pgo, ino⟩ := op
          simp only at c0 c1 c2
          by_cases k0 : kd = 0
          · subst k0
            have HC := toHid (need_any p q l pgo ino wr.drew hbk.drew hok)
            have HK := toHid (need_ok hok pgo ino)
            have HL := need_len l pgo ino
            rw [hlm] at HL
            clear hok hbk hbe hlm hso
            go_wp2_with fail
            refine wp_region_quiet_tail 11 Try.mixed (by kernel_rfl) ?_
            simp only [List.take_succ_cons, List.take_zero, List.drop_succ_cons, List.drop_zero]
            repeat (first | go_big_quiet_step (fail))
            refine wpQuiet_nil ?_
            go_wp2_with fail
            refine Calls.mono HC.out ?_
            rintro e w2 ⟨⟨v, rfl, hv⟩, hb2, ho2⟩
            have HX := toHid hb2
            have HY := toHid (HBe.out.drew.trans ((ho2.below (B := w.heap.size) hq hszr)))
            clear hb2 ho2 hv HC
            go_wp2_with fail
            go_roundw
            case rel => exact ⟨n + 1, _, by omega, by simp, HL, HK.out, HX.out, HY.out⟩
            case measure => first | omega | (simp only [intOf]; omega)
          · have e0 : (kd == 0) = false := by simpa using k0
            by_cases k1 : kd = 1
            · subst k1
              have HC := toHid (back_any p q l pgo ino wr.drew hbk.drew hok)
              have HK := toHid (back_ok hok pgo ino)
              have HL := back_len l pgo ino
              rw [hlm] at HL
              clear hok hbk hbe hlm hso
              go_wp2_with fail
              refine wp_region_quiet_tail 11 Try.mixed (by kernel_rfl) ?_
              simp only [List.take_succ_cons, List.take_zero, List.drop_succ_cons, List.drop_zero]
              repeat (first | go_big_quiet_step (fail))
              refine wpQuiet_nil ?_
              go_wp2_with fail
              refine Calls.mono HC.out ?_
              rintro e w2 ⟨⟨v, rfl, hv⟩, hb2, ho2⟩
              have HX := toHid hb2
              have HY := toHid (HBe.out.drew.trans ((ho2.below (B := w.heap.size) hq hszr)))
              clear hb2 ho2 hv HC
              go_wp2_with fail
              go_roundw
              case rel => exact ⟨n + 1, _, by omega, by simp, HL, HK.out, HX.out, HY.out⟩
              case measure => first | omega | (simp only [intOf]; omega)
            · have e1 : (kd == 1) = false := by simpa using k1
              by_cases k2 : kd = 2
              · subst k2
                have HC := toHid (fail_any p q l ino wr hbk hok)
                have HK := toHid (fail_ok hok ino)
                have HL := fail_len l ino
                rw [hlm] at HL
                clear hok hbk hbe hlm hso
                go_wp2_with fail
                refine Calls.mono HC.out ?_
                rintro e w2 ⟨⟨va, vc, rfl, hv, hvn⟩, hb2, ho2⟩
                have HX := toHid hb2
                have HY := toHid (HBe.out.trans ((ho2.below (B := w.heap.size) hq hszr)))
                clear hb2 ho2 hv HC
                go_wp2_with fail
                go_roundw
                case rel => exact ⟨n + 1, _, by omega, by simp, HL, HK.out, HX.out, HY.out⟩
                case measure => first | omega | (simp only [intOf]; omega)
              · have e2 : (kd == 2) = false := by simpa using k2
                by_cases k3 : kd = 3
                · subst k3
                  have HC := toHid (mend_any p q l pgo wr hbk hok)
                  have HK := toHid (mend_ok hok pgo)
                  have HL := mend_len l pgo
                  rw [hlm] at HL
                  clear hok hbk hbe hlm hso
                  go_wp2_with fail
                  refine Calls.mono HC.out ?_
                  rintro e w2 ⟨⟨v, rfl, hv⟩, hb2, ho2⟩
                  have HX := toHid hb2
                  have HY := toHid (HBe.out.trans ((ho2.below (B := w.heap.size) hq hszr)))
                  clear hb2 ho2 hv HC
                  go_wp2_with fail
                  go_roundw
                  case rel => exact ⟨n + 1, _, by omega, by simp, HL, HK.out, HX.out, HY.out⟩
                  case measure => first | omega | (simp only [intOf]; omega)
                · have e3 : (kd == 3) = false := by simpa using k3
                  clear hok hbk hbe hlm hso
                  go_wp2_with fail
                  go_roundw
                  case rel => exact ⟨n + 1, l, by omega, by simp, HLm.out, HO.out, HBk.out, HBe.out⟩
                  case measure => first | omega | (simp only [intOf]; omega)
        · have hx : (n < ops.length ∧ ¬ n < 80) ∨ ¬ n < ops.length := by omega
          clear hgo hso
          rcases hx with ⟨hlt, h80⟩ | hlt
          all_goals
            go_wp2
            go_meet
            case rel => exact ⟨l, hlm, hok, hbk, hbe⟩
    case rest =>
      clear HB1 HBe1 HS
      obtain ⟨l, hlm, hok, hbk, hbe⟩ := hcut
      have HO := toHid hok
      have HBe := toHid hbe
      have hl16 : l.length ≤ 16 := by omega
      have hszr := hbe.size
      have hbk0 := hbk.lt
      have j1 := heap_alloc_new wc (.cells #[.int .i64 0, .int .i64 0, .int .i64 0, .int .i64 0, .int .i64 0, .int .i64 0, .int .i64 0, .int .i64 0, .int .i64 0, .int .i64 0, .int .i64 0, .int .i64 0, .int .i64 0, .int .i64 0, .int .i64 0, .int .i64 0] 37)
      have b1 := (Below.refl wc.heap.size wc).alloc (Nat.le_refl _) (.cells #[.int .i64 0, .int .i64 0, .int .i64 0, .int .i64 0, .int .i64 0, .int .i64 0, .int .i64 0, .int .i64 0, .int .i64 0, .int .i64 0, .int .i64 0, .int .i64 0, .int .i64 0, .int .i64 0, .int .i64 0, .int .i64 0] 37)
      have z1 : (wc.alloc (.cells #[.int .i64 0, .int .i64 0, .int .i64 0, .int .i64 0, .int .i64 0, .int .i64 0, .int .i64 0, .int .i64 0, .int .i64 0, .int .i64 0, .int .i64 0, .int .i64 0, .int .i64 0, .int .i64 0, .int .i64 0, .int .i64 0] 37)).heap.size = wc.heap.size + 1 := by simp
      have j2 := heap_alloc_new (wc.alloc (.cells #[.int .i64 0, .int .i64 0, .int .i64 0, .int .i64 0, .int .i64 0, .int .i64 0, .int .i64 0, .int .i64 0, .int .i64 0, .int .i64 0, .int .i64 0, .int .i64 0, .int .i64 0, .int .i64 0, .int .i64 0, .int .i64 0] 37)) (.cells #[.slice none 0 0, .slice none 0 0, .slice none 0 0, .slice none 0 0, .slice none 0 0, .slice none 0 0, .slice none 0 0, .slice none 0 0, .slice none 0 0, .slice none 0 0, .slice none 0 0, .slice none 0 0, .slice none 0 0, .slice none 0 0, .slice none 0 0, .slice none 0 0] 55)
      rw [z1] at j2
      have b2 := b1.alloc (by omega) (.cells #[.slice none 0 0, .slice none 0 0, .slice none 0 0, .slice none 0 0, .slice none 0 0, .slice none 0 0, .slice none 0 0, .slice none 0 0, .slice none 0 0, .slice none 0 0, .slice none 0 0, .slice none 0 0, .slice none 0 0, .slice none 0 0, .slice none 0 0, .slice none 0 0] 55)
      have j3 : ((wc.alloc (.cells #[.int .i64 0, .int .i64 0, .int .i64 0, .int .i64 0, .int .i64 0, .int .i64 0, .int .i64 0, .int .i64 0, .int .i64 0, .int .i64 0, .int .i64 0, .int .i64 0, .int .i64 0, .int .i64 0, .int .i64 0, .int .i64 0] 37)).alloc (.cells #[.slice none 0 0, .slice none 0 0, .slice none 0 0, .slice none 0 0, .slice none 0 0, .slice none 0 0, .slice none 0 0, .slice none 0 0, .slice none 0 0, .slice none 0 0, .slice none 0 0, .slice none 0 0, .slice none 0 0, .slice none 0 0, .slice none 0 0, .slice none 0 0] 55)).heap[wc.heap.size]? = some (.cells #[.int .i64 0, .int .i64 0, .int .i64 0, .int .i64 0, .int .i64 0, .int .i64 0, .int .i64 0, .int .i64 0, .int .i64 0, .int .i64 0, .int .i64 0, .int .i64 0, .int .i64 0, .int .i64 0, .int .i64 0, .int .i64 0] 37) := by
        rw [((Below.refl (wc.alloc (.cells #[.int .i64 0, .int .i64 0, .int .i64 0, .int .i64 0, .int .i64 0, .int .i64 0, .int .i64 0, .int .i64 0, .int .i64 0, .int .i64 0, .int .i64 0, .int .i64 0, .int .i64 0, .int .i64 0, .int .i64 0, .int .i64 0] 37)).heap.size _).alloc (Nat.le_refl _) _).block _ (by omega)]
        exact j1
      have HB2 := toHid (hbk.below b2)
      have HY2 := toHid (hbe.trans (b2.mono hszr))
      have HA2 := toHid (arr_start (q := q) (l := l) j3 j2)
      have g1p : wc.heap.size ≠ p := by omega
      have g1q : wc.heap.size ≠ q := by omega
      have g2p : wc.heap.size + 1 ≠ p := by omega
      have g2q : wc.heap.size + 1 ≠ q := by omega
      have g12 : wc.heap.size ≠ wc.heap.size + 1 := by omega
      have g1w : w.heap.size ≤ wc.heap.size := hszr
      clear hok hbk hbe j1 b1 z1 j2 b2 j3
      go_upto_block 3 with fail
      generalize World.alloc (World.alloc _ _) _ = W0 at HB2 HY2 HA2 ⊢
      obtain ⟨g2, hg2⟩ : ∃ g2, wc.heap.size + 1 = g2 := ⟨_, rfl⟩
      rw [hg2] at HA2 g2p g2q g12 ⊢
      have g2w : w.heap.size ≤ g2 := by omega
      clear hg2
      generalize wc.heap.size = g1 at HA2 g1p g1q g12 g1w ⊢
      clear hbk0 hszr HBe
      go_cut [] (fun W => Bk W p q l ∧ Below w.heap.size w W ∧ Ar2 W q g1 g2 m l)
      case first =>
        go_wp2_with fail
        go_loopw [12] (fun i wr => ∃ n : Nat, n ≤ m ∧ i = .int .i64 n ∧ Bk wr p q l ∧ Below w.heap.size w wr ∧ Ar2 wr q g1 g2 n l) (fun i _ => m - (intOf i).toNat)
        case atStart => exact ⟨0, Nat.zero_le _, rfl, HB2.out, HY2.out, HA2.out⟩
        case round =>
          clear HB2 HY2 HA2
          obtain ⟨n, hn, rfl, hbk, hbe, har⟩ := hrel
          have hszr := hbe.size
          by_cases hlt : n < m
          · have hi : n < l.length := by omega
            have HOw := toHid (owner_any p q l n wr.drew hbk.drew)
            have HWa := toHid (waits_any p q l n wr.drew hbk.drew HO.out)
            rw [lfAt_yes hi] at HOw HWa
            have HBk := toHid hbk.drew
            have HAr : Hid (Ar2 wr.drew q g1 g2 n l) := toHid (har.below (Below.refl _ _).drew g1q g2q)
            have HBe := toHid hbe.drew
            clear hbk hbe har
            go_wp2_with fail
            go_region_with (first
              | (go_at_call 19; refine Calls.mono HOw.out ?_; rintro e w2 ⟨rfl, hw⟩; obtain rfl := hw.symm; clear hw)
              | (go_at_call 21; refine Calls.mono HWa.out ?_; rintro e w3 ⟨⟨v, rfl, a3, c3, rfl, hs3, hn3, -⟩, hb3⟩; have HB3 := toHid (HBk.out.below hb3); have HAr3 := toHid (HAr.out.below hb3 g1q g2q); have HY3 := toHid (HBe.out.trans (hb3.mono (by exact hszr))); have HS3 := toHid hs3; have HN3 := toHid hn3; obtain ⟨u1, y1⟩ := HAr3.out.e1 n (by omega); obtain ⟨u2, y2⟩ := HAr3.out.e2 n (by omega); obtain ⟨f1, f2⟩ := HAr3.out.fr n; clear hs3 hn3 hb3))
            all_goals
              have HX := toHid (HAr3.out.set hi (by omega) a3 c3 HS3.out HN3.out)
              have HXb : Hid (Bk ((w3.setCell ⟨g1, n, none⟩ (.int .i64 l[n].owner)).setCell ⟨g2, n, none⟩ (.slice a3 l[n].ws.length c3)) p q l) := by
                obtain ⟨M1, hM1⟩ := HAr3.out.t1
                obtain ⟨M2, hM2⟩ := HAr3.out.t2
                exact toHid ((HB3.out.cell hM1 (by decide) g1p g1q).cell (by rw [heap_setCell_other _ _ _ _ (fun e => g12 e.symm)]; exact hM2) (by decide) g2p g2q)
              have HXy := toHid ((HY3.out.setCell (p := ⟨g1, n, none⟩) g1w (.int .i64 l[n].owner)).setCell (p := ⟨g2, n, none⟩) g2w (.slice a3 l[n].ws.length c3))
              clear HAr3 HB3 HY3 HS3 HN3 y1 y2 f1 f2
              go_wp2_with fail
              go_roundw
              case rel => exact ⟨n + 1, by omega, by simp, HXb.out, HXy.out, HX.out⟩
              case measure => first | omega | (simp only [intOf]; omega)
          · obtain rfl : n = m := by omega
            go_wp2
            go_meet
            case rel => exact ⟨hbk, hbe, har⟩
      case rest =>
        clear HB2 HY2 HA2
        obtain ⟨hbk, hbe, har⟩ := hcut
        have HHas := toHid (has_any p q l ins wc hbk)
        have HBk := toHid hbk
        have HBe := toHid hbe
        have HAr := toHid har
        have hszr := hbe.size
        have hqc := hbk.lt.2.1
        clear hbk hbe har
        go_wp2_with fail
        refine Calls.mono HHas.out ?_
        rintro e w2 ⟨⟨ah, ch, rfl, hsh, hnh⟩, hb2⟩
        have HB2 := toHid (HBk.out.below hb2)
        have HA2 := toHid (HAr.out.below hb2 g1q g2q)
        have HY2 := toHid (HBe.out.trans (hb2.mono hszr))
        have HH2 := toHid hsh
        have HHn : Hid (∀ x, ah = some x → x.block ≠ q) := toHid fun x hx => by have := hnh x hx; omega
        have HFa := toHid (fail_any p q l ins w2 HB2.out HO.out)
        have hsz2 := HY2.out.size
        clear hsh hnh hb2 HHas HBk HBe HAr
        go_wp2_with fail
        refine Calls.mono HFa.out ?_
        rintro e w3 ⟨⟨al, cl, rfl, hsl, hnl⟩, hb3, ho3⟩
        have HB3 := toHid hb3
        have HA3 := toHid (HA2.out.one ho3 g1q g2q)
        have HY3 := toHid (HY2.out.trans (ho3.below hq hsz2))
        have HH3 := toHid (HH2.out.one ho3 HHn.out)
        have hhl := hasL_len l ins
        have HSm := toHid (same24 HH3.out hsl (c := ch) (d := cl) (by omega) (by omega))
        rw [decide_eq_true rfl] at HSm
        have hsz3 := HY3.out.size
        clear hsl hnl hb3 ho3 HFa HB2 HA2 HY2 HH2
        go_wp2_with fail
        refine Calls.mono HSm.out ?_
        rintro e w4 ⟨rfl, hb4⟩
        have HB4 := toHid (HB3.out.below hb4)
        have HA4 := toHid (HA3.out.below hb4 g1q g2q)
        have HY4 := toHid (HY3.out.trans (hb4.mono hsz3))
        have HH4 := toHid (HH3.out.below hb4)
        have HHa := toHid (has_any p q _ ins w4 HB4.out)
        rw [fail_has] at HHa
        have hsz4 := HY4.out.size
        clear hb4 HSm HB3 HA3 HY3 HH3
        go_wp2_with fail
        refine Calls.mono HHa.out ?_
        rintro e w5 ⟨⟨a5, c5, rfl, -, -⟩, hb5⟩
        have HB5 := toHid (HB4.out.below hb5)
        have HA5 := toHid (HA4.out.below hb5 g1q g2q)
        have HY5 := toHid (HY4.out.trans (hb5.mono hsz4))
        have HH5 := toHid (HH4.out.below hb5)
        have HOF := toHid (fail_ok HO.out ins)
        clear hb5 HHa HB4 HA4 HY4 HH4
        go_wp2_with fail
        go_loopw [15] (fun i wr => ∃ (n : Nat) (l3 : List Lf), n ≤ m ∧ i = .int .i64 n ∧ l3.length = m ∧ BkOk l3 ∧ (∀ j, n ≤ j → l3[j]? = (failL l ins)[j]?) ∧ Bk wr p q l3 ∧ Below w.heap.size w wr ∧ Ar2 wr q g1 g2 m l ∧ SlI wr ah (hasL l ins)) (fun i _ => m - (intOf i).toNat)
        case atStart => exact ⟨0, _, Nat.zero_le _, rfl, by rw [fail_len]; exact hlm, HOF.out, fun j _ => rfl, HB5.out, HY5.out, HA5.out, HH5.out⟩
        case round =>
          clear HB5 HA5 HY5 HH5
          obtain ⟨n, l3, hn, rfl, hl3, hok3, heq3, hbk, hbe, har, hsh⟩ := hrel
          have HBe := toHid hbe
          have hszr := hbe.size
          by_cases hlt : n < m
          · have hi : n < l.length := by omega
            have hi3 : n < l3.length := by omega
            obtain ⟨x, hx, hx1, hx2⟩ := fail_look HO.out ins n hi
            have hxe : l3[n] = x := by
              have := heq3 n (Nat.le_refl _)
              rw [hx, List.getElem?_eq_getElem hi3] at this
              injection this
            have hw8 := (HO.out.at hi).len
            obtain ⟨an, cn, d2, hsn, hnn⟩ := har.wa n hi hlt
            have d1 := har.ow n hi hlt
            have HOw : Hid (∀ W, Bk W p q l3 → Calls Try.prog 19 #[.pointer (some ⟨p, 0, none⟩), .int .i64 (n : Int)] W fun e w' => e = .returned (.int .i64 x.owner) ∧ w' = W) := toHid fun W hW => by
              have := owner_any p q l3 n W hW
              rwa [lfAt_yes hi3, hxe] at this
            have HLo : Hid (∀ W, Bk W p q l3 → Calls Try.prog 20 #[.pointer (some ⟨p, 0, none⟩), .int .i64 (n : Int)] W fun e w' => e = .returned (.bool x.lost) ∧ w' = W) := toHid fun W hW => by
              have := lost_any p q l3 n W hW
              rwa [lfAt_yes hi3, hxe] at this
            have HWa : Hid (∀ W, Bk W p q l3 → Calls Try.prog 21 #[.pointer (some ⟨p, 0, none⟩), .int .i64 (n : Int)] W fun e w' => (∃ v, e = .returned v ∧ IntR q w' v x.ws) ∧ Below W.heap.size W w') := toHid fun W hW => by
              have := waits_any p q l3 n W hW hok3
              rwa [lfAt_yes hi3, hxe] at this
            have HBk := toHid hbk
            have HAr := toHid har
            have HSh := toHid hsh
            have HEq := toHid heq3
            have HOk := toHid hok3
            have HX1 := toHid hx1
            have HX2 := toHid hx2
            have HXe := toHid hxe
            have HSn := toHid hsn
            have HNn := toHid hnn
            clear hbk hbe har hsh heq3 hok3 hx hx1 hx2 hxe hsn hnn
            have d1d : wr.drew.cell? ⟨g1, n, none⟩ = some (.int .i64 l[n].owner) := d1
            go_upto_region 29 with fail
            go_cut [16, 17] (fun v1 v2 W => v1 = .int .i64 l[n].owner ∧ v2 = .int .i64 x.owner ∧ W = wr.drew)
            case first =>
              go_region_with (first
                | (go_at_call 19; refine Calls.mono (HOw.out _ HBk.out.drew) ?_; rintro e w2 ⟨rfl, hw⟩; subst hw))
              all_goals
                go_wp2
                go_meet
                case rel => exact ⟨rfl, rfl, rfl⟩
            case rest =>
              obtain ⟨rfl, rfl, hwc⟩ := hcut
              subst hwc
              have HB1 := toHid HBk.out.drew
              have HA1 : Hid (Ar2 wr.drew q g1 g2 m l) := toHid (HAr.out.below (Below.refl _ _).drew g1q g2q)
              have HY1 := toHid HBe.out.drew
              have HH1 := toHid HSh.out.drew
              have HN1 := toHid HSn.out.drew
              have hszd : w.heap.size ≤ wr.drew.heap.size := hszr
              have d2d : wr.drew.cell? ⟨g2, n, none⟩ = some (.slice an l[n].ws.length cn) := d2
              clear HBk HAr HBe HSh HSn d1 d2 d1d
              generalize wr.drew = W0 at *
              have hhl := hasL_len l ins
              have HHs := toHid (has25 (c := ch) (k := (n : Int)) HH1.out (by omega))
              go_wp2_with fail
              refine Calls.mono HHs.out ?_
              rintro e w2 ⟨rfl, hw⟩
              obtain rfl := hw.symm
              clear HHs hw
              go_upto_if 140 with fail
              go_cut [16] (fun v W => v = .int .i64 x.owner ∧ W = W0)
              case first =>
                rcases HX1.out with ⟨h1, h2, h3⟩ | ⟨h1, h2⟩
                · rw [decide_eq_true h1]
                  have H2 := toHid h2
                  clear h2
                  have HL3 := toHid (HLo.out _ HB1.out)
                  rw [h3] at HL3
                  go_wp2_with fail
                  refine Calls.mono HL3.out ?_
                  rintro e w2 ⟨rfl, hw⟩
                  obtain rfl := hw.symm
                  clear HL3 hw
                  go_wp2
                  go_meet
                  case rel => exact ⟨by rw [H2.out], rfl⟩
                · rw [decide_eq_false h1]
                  have H2 := toHid h2
                  clear h2
                  go_wp2
                  go_meet
                  case rel => exact ⟨by rw [H2.out], rfl⟩
              case rest =>
                obtain ⟨rfl, hwc⟩ := hcut
                subst hwc
                generalize wc = U1 at *
                go_upto_block 7 with fail
                go_cut [18] (fun v W => ∃ a7 c7, v = .slice a7 (l[n].ws.filter (· != ins)).length c7 ∧ SlI W a7 (l[n].ws.filter (· != ins)) ∧ (∀ x, a7 = some x → U1.heap.size ≤ x.block) ∧ Below U1.heap.size U1 W)
                case first =>
                  go_wp2_with fail
                  go_loopw [19, 18] (fun i v wr => ∃ k : Nat, k ≤ l[n].ws.length ∧ i = .int .i64 k ∧ wr.ownsRow U1.heap.size 3 1 v ((l[n].ws.take k).filter (· != ins)).length (inVs ((l[n].ws.take k).filter (· != ins))) ∧ Below U1.heap.size U1 wr) (fun i _ _ => l[n].ws.length - (intOf i).toNat)
                  case atStart => exact ⟨0, Nat.zero_le _, rfl, by simpa using ownsRow_nilI U1 U1.heap.size, Below.refl _ _⟩
                  case round =>
                    obtain ⟨k, hk, rfl, hown, hbk⟩ := hrel
                    have HOwn := toHid hown
                    have HBk := toHid hbk
                    have hszk := hbk.size
                    have y2 : wr.cell? ⟨g2, n, none⟩ = some (.slice an l[n].ws.length cn) := by rw [hbk.cell (by exact cell_lt d2d)]; exact d2d
                    have hsk := HN1.out.below hbk
                    clear hown hbk d2d
                    by_cases hkl : k < l[n].ws.length
                    · obtain ⟨b8, o8, rfl, -, z0⟩ := hsk.at k hkl
                      have htk : l[n].ws.take (k + 1) = l[n].ws.take k ++ [l[n].ws[k]] := by rw [List.take_append_getElem]
                      have hfl : ((l[n].ws.take k).filter (· != ins)).length ≤ 100 := Nat.le_trans (List.length_filter_le _ _) (by simp; omega)
                      by_cases hne : l[n].ws[k] = ins
                      · have HF : Hid ((l[n].ws.take (k + 1)).filter (· != ins) = (l[n].ws.take k).filter (· != ins)) := toHid (by rw [htk, List.filter_append]; simp [hne])
                        rw [hne] at z0
                        clear htk hne hsk
                        go_wp2_with fail
                        go_roundw
                        case rel => exact ⟨k + 1, by omega, by simp, by rw [HF.out]; exact HOwn.out, HBk.out⟩
                        case measure => first | omega | (simp only [intOf]; omega)
                      · obtain ⟨y, hy⟩ : ∃ y, l[n].ws[k] = y := ⟨_, rfl⟩
                        rw [hy] at z0 hne htk
                        have HF : Hid ((l[n].ws.take (k + 1)).filter (· != ins) = (l[n].ws.take k).filter (· != ins) ++ [y]) := toHid (by rw [htk, List.filter_append]; simp [hne])
                        have hnb : (y != ins) = true := by simpa using hne
                        have HW := toHid (HOwn.out.alloc (.cells #[.int .i64 y] 3))
                        have HBW := toHid (HBk.out.alloc hszk (.cells #[.int .i64 y] 3))
                        have HCN := toHid (cell_new1 wr (.int .i64 y) 3)
                        clear htk hne hsk hy
                        go_wp2_with (at_builtin; refine wpList_ownI rfl (.tmp 161) (.tmp 168) 42 rfl Try.underlying42 U1.heap.size _ _ _ rfl HW.out _ 1 y rfl HCN.out (by omega) HBW.out.size ?_; intro v' w' ho2 hb2)
                        go_roundw
                        case rel => exact ⟨k + 1, by omega, by simp, by rw [HF.out]; simpa using ho2, HBW.out.trans hb2⟩
                        case measure => first | omega | (simp only [intOf]; omega)
                    · obtain rfl : k = l[n].ws.length := by omega
                      rw [List.take_length] at HOwn
                      obtain ⟨a7, c7, rfl, h1, h2⟩ := own_any HOwn.out rfl
                      go_wp2
                      go_meet
                      case rel => exact ⟨a7, c7, rfl, h1, h2, HBk.out⟩
                case rest =>
                  obtain ⟨a7, c7, rfl, hs7, hn7, hb7⟩ := hcut
                  have HB7 := toHid (HB1.out.below hb7)
                  have HA7 := toHid (HA1.out.below hb7 g1q g2q)
                  have HY7 := toHid (HY1.out.trans (hb7.mono hszd))
                  have HH7 := toHid (HH1.out.below hb7)
                  have HN7 := toHid (HN1.out.below hb7)
                  have HS7 := toHid hs7
                  have d7 : wc.cell? ⟨g2, n, none⟩ = some (.slice an l[n].ws.length cn) := by rw [hb7.cell (by exact cell_lt d2d)]; exact d2d
                  clear hs7 hn7 hb7 d2d HB1 HA1 HY1 HH1 HN1 HX1
                  generalize wc = U2 at *
                  go_upto_region 40 with fail
                  go_cut [175] (fun v W => v = .bool (!instB ins) ∧ W = U2)
                  case first =>
                    by_cases k1 : ins < 1
                    · have hb : instB ins = false := inst_no.2 (by omega)
                      have HBI := toHid hb
                      clear hb
                      go_wp2
                      go_meet
                      case rel => exact ⟨by rw [HBI.out]; rfl, rfl⟩
                    · by_cases k2 : 8 < ins
                      · have HBI := toHid (inst_no.2 (by omega) : instB ins = false)
                        go_wp2
                        go_meet
                        case rel => exact ⟨by rw [HBI.out]; rfl, rfl⟩
                      · have HBI := toHid (inst_iff.2 (by omega) : instB ins = true)
                        go_wp2
                        go_meet
                        case rel => exact ⟨by rw [HBI.out]; rfl, rfl⟩
                  case rest =>
                  obtain ⟨rfl, hwc⟩ := hcut
                  subst hwc
                  generalize wc = U2 at *
                  obtain ⟨bi, hbi⟩ : ∃ bi, instB ins = bi := ⟨_, rfl⟩
                  have HX3 : Hid ((bi = true ∧ x.ws = l[n].ws.filter (· != ins)) ∨ (bi = false ∧ x.ws = l[n].ws)) := toHid (by rw [← hbi]; exact HX2.out)
                  rw [hbi]
                  clear HX2 hbi
                  go_upto_if 175 with fail
                  go_cut [18] (fun v W => ∃ a9 c9, v = .slice a9 x.ws.length c9 ∧ SlI W a9 x.ws ∧ W = U2)
                  case first =>
                    rcases HX3.out with ⟨rfl, he⟩ | ⟨rfl, he⟩
                    · have HE := toHid he
                      clear he
                      go_wp2
                      go_meet
                      case rel => exact ⟨a7, c7, by rw [HE.out], by rw [HE.out]; exact HS7.out, rfl⟩
                    · have HE := toHid he
                      clear he
                      go_wp2
                      go_meet
                      case rel => exact ⟨an, cn, by rw [HE.out], by rw [HE.out]; exact HN7.out, rfl⟩
                  case rest =>
                    obtain ⟨a9, c9, rfl, hs9, hwc⟩ := hcut
                    subst hwc
                    generalize wc = U3 at *
                    have HW9 := toHid (HWa.out _ HB7.out)
                    have HS9 := toHid hs9
                    have hsz3 := HY7.out.size
                    have hxl : x.ws.length ≤ 8 := by
                      have := (HOk.out.at hi3).len
                      rw [HXe.out] at this
                      exact this
                    have hxo : x.lost = true → x.owner = 0 := by
                      have := (HOk.out.at hi3).lost
                      rw [HXe.out] at this
                      exact this
                    have HXo := toHid hxo
                    have hoo : (x.owner != x.owner) = false := by simp
                    clear hs9 d7 HS7 HN7 HX3 hxo
                    go_wp2_with fail
                    refine Calls.mono HW9.out ?_
                    rintro e w2 ⟨⟨v, rfl, a2, c2, rfl, hs2, -, -⟩, hb2⟩
                    have HB8 := toHid (HB7.out.below hb2)
                    have HA8 := toHid (HA7.out.below hb2 g1q g2q)
                    have HY8 := toHid (HY7.out.trans (hb2.mono hsz3))
                    have HH8 := toHid (HH7.out.below hb2)
                    have HSm := toHid (same24 hs2 (HS9.out.below hb2) (c := c2) (d := c9) (by omega) (by omega))
                    rw [decide_eq_true rfl] at HSm
                    have hsz4 := HY8.out.size
                    clear hs2 hb2 HW9 HB7 HA7 HY7 HH7 HS9
                    go_wp2_with fail
                    refine Calls.mono HSm.out ?_
                    rintro e w3 ⟨rfl, hb3⟩
                    have HB9 := toHid (HB8.out.below hb3)
                    have HA9 := toHid (HA8.out.below hb3 g1q g2q)
                    have HY9 := toHid (HY8.out.trans (hb3.mono hsz4))
                    have HH9 := toHid (HH8.out.below hb3)
                    have HL9 := toHid (HLo.out _ HB9.out)
                    have hsz5 := HY9.out.size
                    clear hb3 HSm HB8 HA8 HY8 HH8
                    go_wp2_with fail
                    refine Calls.mono HL9.out ?_
                    rintro e w4 ⟨rfl, hw⟩
                    obtain rfl := hw.symm
                    clear HL9 hw
                    obtain ⟨lo, hlo⟩ : ∃ lo, x.lost = lo := ⟨_, rfl⟩
                    rw [hlo]
                    cases lo
                    · clear hlo
                      go_wp2_with fail
                      go_roundw
                      case rel => exact ⟨n + 1, l3, by omega, by simp, hl3, HOk.out, fun j hj => HEq.out j (by omega), HB9.out, HY9.out, HA9.out, HH9.out⟩
                      case measure => first | omega | (simp only [intOf]; omega)
                    · have hll : l3[n].lost = true := by rw [HXe.out]; exact hlo
                      obtain ⟨n1, n2, n3, n4⟩ := need_lost HOk.out n hi3 hll
                      have HNd := toHid (need_any p q l3 n 8 w3 HB9.out HOk.out)
                      have HOk2 := toHid (need_ok HOk.out (n : Int) 8)
                      have hlen2 := need_len l3 (n : Int) 8
                      obtain ⟨R, hR⟩ : ∃ R, needL l3 (n : Int) 8 = R := ⟨_, rfl⟩
                      rw [hR] at HNd n1 n2 n3 n4 HOk2 hlen2
                      obtain ⟨l4, os, f⟩ := R
                      simp only at n1 n2 n3 n4 hlen2
                      subst n1
                      have HN4 := toHid n4
                      have HN3 := toHid n3
                      clear hR hll hlo n4 n3
                      go_wp2_with fail
                      refine Calls.mono HNd.out ?_
                      rintro e w4 ⟨⟨v, rfl, a4, c4, rfl, -, -⟩, hb4, ho4⟩
                      have HBa := toHid hb4
                      have HAa := toHid (HA9.out.one ho4 g1q g2q)
                      have HYa := toHid (HY9.out.trans (ho4.below hq hsz5))
                      have HHa := toHid (HH9.out.one ho4 HHn.out)
                      have HOa := toHid (owner_any p q l4 n w4 hb4)
                      rw [HN3.out] at HOa
                      clear hb4 ho4 HNd HB9 HA9 HY9 HH9
                      rcases n2 with rfl | rfl
                      all_goals
                        go_wp2_with fail
                        refine Calls.mono HOa.out ?_
                        rintro e w5 ⟨rfl, hw⟩
                        obtain rfl := hw.symm
                        clear HOa hw
                        go_wp2_with fail
                        go_roundw
                        case rel => exact ⟨n + 1, l4, by omega, by simp, by omega, HOk2.out, fun j hj => by rw [HN4.out j (by omega)]; exact HEq.out j (by omega), HBa.out, HYa.out, HAa.out, HHa.out⟩
                        case measure => first | omega | (simp only [intOf]; omega)
          · obtain rfl : n = m := by omega
            have HL := toHid (lives_any wr)
            clear hbk har hsh hbe
            go_wp2_with fail
            refine Calls.mono HL.out ?_
            rintro e w3 ⟨rfl, hb3⟩
            have HB3 := toHid (HBe.out.trans (hb3.mono hszr))
            clear hb3 HL
            go_wp2
            go_ret
            exact ⟨rfl, HB3.out⟩
end Go.Proofs.Ytdlanenbbmnbhaa
