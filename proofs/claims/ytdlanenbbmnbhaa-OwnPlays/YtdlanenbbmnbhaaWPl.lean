/-
  The law OwnPlays: its walk.
-/
import Derived.Test.YtdlanenbbmnbhaaAr
import Derived.Test.YtdlanenbbmnbhaaLv
import Derived.Test.YtdlanenbbmnbhaaEi
import Derived.Test.YtdlanenbbmnbhaaEk
namespace Go.Proofs.Ytdlanenbbmnbhaa
open Go.RowKit

set_option maxRecDepth 20000 in
set_option maxHeartbeats 4000000 in
theorem plays_walk (n0 : Int) (af : Option Addr) (cf : Nat) (fast : List Bool) (a : Option Addr) (c : Nat) (ops : List OpG) (w : World) (hfs : SlB w af fast) (hfl : fast.length ≤ maxLen) (ho : SlO w a ops) (hol : ops.length ≤ maxLen) :
    Calls Try.prog 3 #[.int .i64 n0, .slice af fast.length cf, .slice a ops.length c] w fun e w' => e = .returned (.bool true) ∧ Below w.heap.size w w' := by
  unfold maxLen at hol hfl
  by_cases hbig : 100 < fast.length
  · have HL := toHid (lives_any w)
    clear hfs ho
    go_enter Try.func3, Try.ntmps3
    go_wp2_with fail
    refine Calls.mono HL.out ?_
    rintro e w3 ⟨rfl, hb3⟩
    have HB3 := toHid hb3
    clear hb3 HL
    go_wp2
    go_ret
    exact ⟨rfl, HB3.out⟩
  · have hsm : ¬ (100 : Int) < (fast.length : Int) := by omega
    cases hnew : newB n0 fast
    · have HN := toHid (new_no n0 af cf fast w hnew)
      have HN2 := toHid (newD_no n0 af cf fast w hnew)
      have HL := toHid (lives_any w)
      clear hfs ho hnew hbig
      go_enter Try.func3, Try.ntmps3
      go_wp2_with fail
      refine Calls.mono HN.out ?_
      rintro e w1 ⟨rfl, hw⟩
      obtain rfl := hw.symm
      clear HN hw
      go_wp2_with fail
      refine Calls.mono HN2.out ?_
      rintro e w1 ⟨rfl, hw⟩
      obtain rfl := hw.symm
      clear HN2 hw
      go_wp2_with fail
      refine Calls.mono HL.out ?_
      rintro e w3 ⟨rfl, hb3⟩
      have HB3 := toHid hb3
      clear hb3 HL
      go_wp2
      go_ret
      exact ⟨rfl, HB3.out⟩
    · have hnw : 1 ≤ n0 ∧ n0 ≤ 16 ∧ (fast.length : Int) ≤ n0 := by simp [newB] at hnew; omega
      obtain ⟨m, rfl⟩ : ∃ m : Nat, n0 = (m : Int) := ⟨n0.toNat, by omega⟩
      have hm1 : 1 ≤ m := by omega
      have hm2 : m ≤ 16 := by omega
      have HN := toHid (new_yes m af cf fast w hm1 hm2 (by omega) hfs)
      have HN2 := toHid (fun (W : World) (hW : Below w.heap.size w W) => newD_yes m af cf fast W hm1 hm2 (by omega) (hfs.below hW))
      have HS := toHid ho
      clear ho hnew hnw hfs hbig
      go_enter Try.func3, Try.ntmps3
      go_wp2_with fail
      refine Calls.mono HN.out ?_
      rintro e w1 ⟨⟨p, q, rfl, hb, hp, hq⟩, hB⟩
      have HD := toHid (HN2.out w1 hB)
      have HB1 := toHid hb
      have HBe1 := toHid hB
      clear HN hb hB
      go_wp2_with fail
      refine Calls.mono HD.out ?_
      rintro e w2 ⟨v0, L0, rfl, hd0, hp0, hb2⟩
      have HB2 := toHid (HB1.out.below hb2)
      have HD2 := toHid hd0
      have HP2 := toHid hp0
      have HBe2 := toHid (HBe1.out.trans (hb2.mono HBe1.out.size))
      clear HD HB1 HBe1 hd0 hp0 hb2
      go_wp2_with fail
      go_loopw [9, 10, 11] (fun v _ i wr => ∃ (n : Nat) (l : List Lf) (L : List Pl), n ≤ ops.length ∧ i = .int .i64 n ∧ BkOk l ∧ Bk wr p q l ∧ Dl wr v L ∧ pls L = l ∧ Below w.heap.size w wr) (fun _ _ i _ => ops.length - (intOf i).toNat)
      case atStart => exact ⟨0, _, L0, Nat.zero_le _, rfl, new_ok m fast, HB2.out, HD2.out, HP2.out, HBe2.out⟩
      case round =>
        clear HB2 HD2 HP2 HBe2
        obtain ⟨n, l, L, hn, rfl, hok, hbk, hd, hpl, hbe⟩ := hrel
        have HBe := toHid hbe
        have hso := HS.out.below hbe
        have hszr := hbe.size
        by_cases hgo : n < ops.length ∧ n < 100
        · obtain ⟨hlt, h80⟩ := hgo
          obtain ⟨b, o, rfl, c0, c1, c2⟩ := hso.at_ n hlt
          generalize ops[n] = op at c0 c1 c2
          obtain ⟨kd, pgo, ino⟩ := op
          simp only at c0 c1 c2
          have HSt := toHid (step12 p q l hbk hok hd hpl kd pgo ino)
          have HOk := toHid (step_ok hok (kd, pgo, ino))
          clear hok hbk hd hpl hbe hso
          go_wp2_with fail
          refine Calls.mono HSt.out ?_
          rintro e w3 ⟨v3, L3, rfl, hb3, hd3, hp3, h13⟩
          have HA := toHid (alike13 p q _ hb3 HOk.out hd3 hp3)
          have HB3 := toHid hb3
          have HD3 := toHid hd3
          have HP3 := toHid hp3
          have HY3 := toHid (HBe.out.trans (h13.below hq hszr))
          clear HSt hb3 hd3 hp3 h13 c0 c1 c2
          go_wp2_with fail
          refine Calls.mono HA.out ?_
          rintro e w4 ⟨rfl, hb4⟩
          have HB4 := toHid (HB3.out.below hb4)
          have HD4 := toHid (HD3.out.below hb4)
          have HY4 := toHid (HY3.out.trans (hb4.mono HY3.out.size))
          clear HA hb4
          go_wp2
          go_roundw
          case rel => exact ⟨n + 1, _, L3, by omega, by simp, HOk.out, HB4.out, HD4.out, HP3.out, HY4.out⟩
          case measure => simp only [intOf]; omega
        · have hx : (n < ops.length ∧ ¬ n < 100) ∨ ¬ n < ops.length := by omega
          have HL := toHid (lives_any wr)
          clear hgo hso hok hbk hd hpl hbe
          rcases hx with ⟨hlt, h80⟩ | hlt
          all_goals
            go_wp2_with fail
            refine Calls.mono HL.out ?_
            rintro e w3 ⟨rfl, hb3⟩
            have HB3 := toHid (HBe.out.trans (hb3.mono HBe.out.size))
            clear hb3 HL
            go_wp2
            go_ret
            exact ⟨rfl, HB3.out⟩
end Go.Proofs.Ytdlanenbbmnbhaa
