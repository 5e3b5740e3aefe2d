/-
  The walk of ActBack.
-/
import Derived.Test.YtamkfcdehkdcpaaSua
import Derived.Test.YtamkfcdehkdcpaaSub
import Derived.Test.YtamkfcdehkdcpaaSuc
namespace Go.Proofs.Ytamkfcdehkdcpaa
open Go.RowKit

set_option maxRecDepth 100000 in
set_option maxHeartbeats 4000000 in
theorem walkBack (a0 : Option Addr) (c0 : Nat) (l0 : List Pr) (a1 : Option Addr) (c1 : Nat) (l1 : List Ac) (a : Ac) (w : World) (h : SlP w a0 l0) (hl : l0.length ≤ maxLen) (hA : SlA w a1 l1) :
    Calls Try.prog 5 #[.slice a0 l0.length c0, .slice a1 l1.length c1, actV a] w fun e w' => e = .returned (.bool true) ∧ Below w.heap.size w w' := by
  have HB0 : Hid (Below w.heap.size w (w.alloc (.cells (actC a) 35))) := (Below.refl _ _).alloc (Nat.le_refl _) _
  have HA : Hid _ := hA
  have HP0 : Hid _ := pair_any 2 (by decide) a0 c0 l0 (w.alloc (.cells (actC a) 35)) (h.on HB0.out) hl
  clear h hl hA
  go_enter Try.func5, Try.ntmps5
  go_wp2_with fail
  refine Calls.mono HP0.out ?_
  rintro e w1 ⟨L, v, a', c', rfl, hP, hb1⟩
  simp only [World.size_alloc] at hb1 hP
  unfold refP
  have HK1 : Hid (BkOk w a (w.heap.size + 1 + 1) v L w1) := ⟨hP.pg, hP.good, hb1⟩
  have HK2 : Hid (BkOk w a (w.heap.size + 1 + 1) v L (w1.alloc (.cells #[.int .i64 2, .int .u64 ((0 : Nat) : Int), .slice a' L.length c'] 29))) := HK1.out.call ((Below.refl _ _).alloc (Nat.le_refl _) _)
  obtain ⟨x0, x1, x2, x3⟩ := actC4 HK1.out.box
  have hsz : w.heap.size < w1.heap.size := by have := HK1.out.size; omega
  clear hP hb1 HP0
  go_wp2_with fail
  clear x0 x1 x2 x3
  refine Calls.mono (short_any a _) ?_
  rintro e w2 ⟨⟨b, rfl⟩, hb2⟩
  have HK3 : Hid (BkOk w a (w.heap.size + 1 + 1) v L w2) := HK2.out.call hb2
  clear hb2 HK2 HK1 hsz
  cases b
  · go_wp2_with fail
    refine Calls.mono (lives_any _) ?_
    rintro e w3 ⟨rfl, hb3⟩
    go_wp2
    go_ret
    exact ⟨rfl, (HK3.out.call hb3).low⟩
  go_wp2_with fail
  go_loopw [9] (fun i wr => ∃ k : Nat, ∃ v L, k ≤ l1.length ∧ i = .int .i64 k ∧ BkOk w a (w.heap.size + 1 + 1) v L wr) (fun i _ => l1.length - (intOf i).toNat)
  case atStart => exact ⟨0, v, L, Nat.zero_le _, rfl, HK3.out⟩
  case round =>
    obtain ⟨k, v, L, hk, rfl, hK⟩ := hrel
    have HKr : Hid _ := hK
    clear hK HK3
    by_cases hlt : k < l1.length ∧ k < 60
    · obtain ⟨h1, h60⟩ := hlt
      have h1' : decide ((k : Int) < (l1.length : Int)) = true := by simp; omega
      have h60' : decide ((k : Int) < 60) = true := by simp; omega
      obtain ⟨b, o, rfl, hbl, e0, e1, e2, e3⟩ := (HA.out.on HKr.out.low).at k h1
      have h1i : (k : Int) < (l1.length : Int) := by omega
      go_wp2_with fail
      clear e0 e1 e2 e3
      refine Calls.mono (short_any l1[k] _) ?_
      rintro e x1 ⟨⟨q, rfl⟩, hb⟩
      have HKx : Hid (BkOk w a (w.heap.size + 1 + 1) v L x1) := HKr.out.call hb
      clear hb HKr
      cases q
      · go_wp2_with fail
        go_roundw
        case rel => exact ⟨k + 1, v, L, by omega, by simp, HKx.out⟩
        case measure => first | omega | (simp only [intOf]; omega)
      · obtain ⟨b', o', eq, hbl', e0, e1, e2, e3⟩ := (HA.out.on HKx.out.low).at k h1
        simp at eq
        obtain ⟨rfl, rfl⟩ := eq
        go_wp2_with fail
        clear e0 e1 e2 e3
        refine Calls.mono (do_any _ (w.heap.size + 1 + 1) 2 0 v L l1[k] _ HKx.out.pg HKx.out.good) ?_
        rintro e x2 ⟨rfl, v2, hp2, ht2, _⟩
        have HKy : Hid (BkOk w a (w.heap.size + 1 + 1) v2 (doL L l1[k]).1 x2) := HKx.out.does hp2 ht2
        clear hp2 ht2 HKx
        go_wp2_with fail
        go_roundw
        case rel => exact ⟨k + 1, v2, _, by omega, by simp, HKy.out⟩
        case measure => first | omega | (simp only [intOf]; omega)
    · have hg : (¬ k < l1.length ∧ decide ((k : Int) < (l1.length : Int)) = false) ∨ ((k < l1.length ∧ decide ((k : Int) < (l1.length : Int)) = true) ∧ (¬ k < 60 ∧ decide ((k : Int) < 60) = false)) := by
        by_cases q : k < l1.length
        · exact .inr ⟨⟨q, by simp; omega⟩, by omega, by simp; omega⟩
        · exact .inl ⟨q, by simp; omega⟩
      have hfew := HKr.out.good.few
      have HGd : Hid (GoodL L) := HKr.out.good
      have HFin : Hid (∀ (u : Nat → Value), True) := fun _ => trivial
      clear hlt hk HFin
      rcases hg with ⟨hgn, hg⟩ | ⟨⟨hgn, hg⟩, hgm, hg2⟩
      all_goals
        go_wp2_with fail
        refine Calls.mono (pairs_any _ (w.heap.size + 1 + 1) 2 0 v L _ HKr.out.pg hfew) ?_
        rintro e y1 ⟨aw, cw, L1, rfl, hp1, hs1, ho1, hb⟩
        have HK4 : Hid (BkOk w a (w.heap.size + 1 + 1) v L y1) := HKr.out.call hb
        have HO4 : Hid _ := ho1
        have HPS : Hid (L1.Perm (prsL L) ∧ SortP L1) := ⟨hp1, hs1⟩
        obtain ⟨x0, x1, x2, x3⟩ := actC4 HK4.out.box
        clear hb ho1 hp1 hs1 HKr
        go_wp2_with fail
        clear x0 x1 x2 x3
        refine Calls.mono (do_any _ (w.heap.size + 1 + 1) 2 0 v L a _ HK4.out.pg HK4.out.good) ?_
        rintro e y2 ⟨rfl, v2, hp2, ht2, _⟩
        have HK5 : Hid (BkOk w a (w.heap.size + 1 + 1) v2 (doL L a).1 y2) := HK4.out.does hp2 ht2
        have HO5 : Hid _ := own_touch HO4.out HK4.out.pg ht2
        clear hp2 ht2 HK4 HO4
        by_cases hdo : (doL L a).2 = 0
        · rw [hdo]
          have HDO : Hid _ := hdo
          clear hdo
          go_wp2_with fail
          rename_i K hKc
          by_cases hk2 : a.kind = 2
          · by_cases hon : a.old = a.new
            · refine wp5 rfl rfl (reg5b w a (w.heap.size + 1 + 1) v2 L HGd.out HDO.out L1 HPS.out.1 HPS.out.2 aw cw _ y2 HK5.out HO5.out hk2 hon _ rfl rfl rfl _ _ (fun _ _ t _ _ h => by cases t <;> exact h) (fun u' w' h6 hbw => hKc _ _ ?_))
              rw [frame5_open, h6]
              go_wp2
              go_ret
              exact ⟨rfl, hbw⟩
            · refine wp5 rfl rfl (reg5c w a (w.heap.size + 1 + 1) v2 L HGd.out HDO.out L1 HPS.out.1 HPS.out.2 aw cw _ y2 HK5.out HO5.out hk2 hon _ rfl rfl rfl _ _ (fun _ _ t _ _ h => by cases t <;> exact h) (fun u' w' h6 hbw => hKc _ _ ?_))
              rw [frame5_open, h6]
              go_wp2
              go_ret
              exact ⟨rfl, hbw⟩
          · refine wp5 rfl rfl (reg5a w a (w.heap.size + 1 + 1) v2 L HGd.out HDO.out L1 HPS.out.1 HPS.out.2 aw cw _ y2 HK5.out HO5.out hk2 _ rfl rfl rfl _ _ (fun _ _ t _ _ h => by cases t <;> exact h) (fun u' w' h6 hbw => hKc _ _ ?_))
            rw [frame5_open, h6]
            go_wp2
            go_ret
            exact ⟨rfl, hbw⟩
        · have hne : ((doL L a).2 != 0) = true := by simpa using hdo
          have HL : Hid ((doL L a).1 = L) := do_err hdo
          obtain ⟨er, her⟩ : ∃ er, er = (doL L a).2 := ⟨_, rfl⟩
          rw [← her] at hne ⊢
          clear hdo her
          rw [HL.out] at HK5
          go_wp2_with fail
          refine Calls.mono (pairs_any _ (w.heap.size + 1 + 1) 2 0 v2 L _ HK5.out.pg hfew) ?_
          rintro e y3 ⟨ax, cx, L2, rfl, hp3, hs3, ho3, hb3⟩
          have HK6 : Hid (BkOk w a (w.heap.size + 1 + 1) v2 L y3) := HK5.out.call hb3
          have HO6 : Hid _ := ownQ_on HO5.out hb3
          have HO7 : Hid _ := ho3
          have hll1 : L1.length ≤ 64 := by have q1 := HPS.out.1.length_eq; have q2 := prs_le L; omega
          have hll2 : L2.length ≤ 64 := by have q1 := hp3.length_eq; have q2 := prs_le L; omega
          have HSP : Hid _ := samepairs_any aw cw L1 ax cx L2 y3 (slQ_of_own HO6.out) (slQ_of_own HO7.out) (by omega) (by omega)
          have hEq : L1 = L2 := (sorted_same HGd.out HPS.out.1 hp3 HPS.out.2 hs3).2 (List.Perm.refl _)
          have HEq : Hid (decide (L1 = L2) = true) := decide_eq_true hEq
          clear hEq hp3 hs3 ho3 hb3 HO5 HK5 hll1 hll2
          go_wp2_with fail
          refine Calls.mono HSP.out ?_
          rintro e y4 ⟨rfl, hb4⟩
          rw [HEq.out]
          have HK7 : Hid _ := HK6.out.call hb4
          clear hb4 HSP
          go_wp2_with fail
          refine Calls.mono (lives_any _) ?_
          rintro e y5 ⟨rfl, hb5⟩
          go_wp2
          go_ret
          exact ⟨rfl, (HK7.out.call hb5).low⟩

end Go.Proofs.Ytamkfcdehkdcpaa
