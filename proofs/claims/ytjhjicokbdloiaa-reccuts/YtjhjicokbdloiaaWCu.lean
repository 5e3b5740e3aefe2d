/-
  The walk of RecCuts.
-/
import Derived.Test.YtjhjicokbdloiaaRs
namespace Go.Proofs.Ytjhjicokbdloiaa
open Go.RowKit

theorem RI.zero (W : World) (ta da : Option Addr) : RI W Rc.zero ta da := ⟨⟨fun _ => rfl, fun x hx i t ht => by simp [Rc.zero] at ht⟩, ⟨fun _ => rfl, fun x hx i t ht => by simp [Rc.zero] at ht⟩, by simp [Rc.zero], by simp [Rc.zero]⟩

set_option maxRecDepth 20000 in
set_option maxHeartbeats 2000000 in
theorem cuts_walk (r : Rc) (ta : Option Addr) (tc : Nat) (da : Option Addr) (dc : Nat) (cut : Int) (w : World) (ha : RI w r ta da) (hc0 : -9223372036854775808 ≤ cut) (hc1 : cut ≤ 9223372036854775807) :
    Calls Try.prog 7 #[recV r ta tc da dc, .int .i64 cut] w fun e w' => e = .returned (.bool true) ∧ Below w.heap.size w w' := by
  have HK0 : Hid (Below (w.heap.size + 1) (w.alloc (.cells (recC r ta tc da dc) 31)) (w.alloc (.cells (recC r ta tc da dc) 31))) := Below.refl _ _
  have hr1 := ha.below (box1_below HK0.out)
  have HF := (show Hid _ from frame_any r ta tc da dc _ hr1.t hr1.d hr1.lt hr1.ld)
  have HC : Hid (∀ W, Below w.heap.size w W → Calls Try.prog 14 #[recV r ta tc da dc] W fun e w' => e = .returned (.int .i64 (argE (mayB r))) ∧ Below W.heap.size W w') := fun W hW => let h := ha.below hW; check_any r ta tc da dc W h.t h.d h.lt h.ld
  clear ha hr1
  cases hm : mayB r
  · rw [hm] at HF HC
    go_enter Try.func7, Try.ntmps7
    go_wp2_with fail
    refine Calls.mono HF.out ?_
    rintro e w1 ⟨v, rfl, hown, hb1⟩
    obtain ⟨ax, cx, rfl⟩ := ownsRow_shape hown
    have HK1 := (show Hid _ from box1_on HK0.out hb1)
    clear hb1 hown
    have ka := box1_kept HK1.out
    obtain ⟨⟨x0, x1, x2, x3, x4, x5, x6, x7, x8, x9, x10, x11⟩, _⟩ := rw_cells' ka
    have hza := lt_of_block ka
    clear ka HF hm
    unfold argE
    go_wp2_with fail
    refine (HC.out _ (box1_below HK1.out)).mono ?_
    rintro e w2 ⟨rfl, hb2⟩
    have HK2 := (show Hid _ from box1_on HK1.out hb2)
    clear hb2 x0 x1 x2 x3 x4 x5 x6 x7 x8 x9 x10 x11
    unfold argE
    go_wp2_with fail
    refine (lives_any _).mono ?_
    rintro e wz ⟨rfl, hbz⟩
    have hfin := box1_below (box1_on HK2.out hbz)
    clear hbz
    go_wp2
    go_ret
    exact ⟨rfl, hfin⟩
  · rw [hm, show outF r = frameB r by unfold outF; rw [hm]; rfl] at HF
    have Hm : Hid (mayB r = true) := hm
    have hLn := encB_length r hm
    have hFl := frameB_length r
    clear hm HC
    obtain ⟨n, hn⟩ : ∃ n, (frameB r).length = n := ⟨_, rfl⟩
    have hn1 : 27 ≤ n := by omega
    have hn2 : n ≤ 1206 := by omega
    clear hLn hFl
    have HN : Hid ((frameB r).length = n) := hn
    rw [hn] at HF
    clear hn
    obtain ⟨K, HKK⟩ : ∃ K : Int, Hid (K = if cut < 0 then -(cut + 1) else cut) := ⟨_, rfl⟩
    have hK0 : 0 ≤ K := by rw [HKK.out]; split <;> omega
    have hK1 : K ≤ 9223372036854775807 := by rw [HKK.out]; split <;> omega
    obtain ⟨k, hk⟩ : ∃ k : Nat, K % (n : Int) = (k : Int) := ⟨(K % (n : Int)).toNat, by rw [Int.toNat_of_nonneg (Int.emod_nonneg _ (by omega))]⟩
    have hkn : k < n := by have := Int.emod_lt_of_pos K (show (0 : Int) < n by omega); omega
    have hkt : K.tmod (n : Int) = (k : Int) := by rw [Int.tmod_eq_emod_of_nonneg hK0, hk]
    have HUn : Hid (∀ W g c, W.ownsRow (w.alloc (.cells (recC r ta tc da dc) 31)).heap.size 5 1 (.slice (some ⟨g, 0, none⟩) n c) n (bcells (frameB r)) → n ≤ c → Calls Try.prog 20 #[.slice (some ⟨g, 0, none⟩) k c] W fun e w' => ∃ ta tc da dc, e = .returned (.tuple #[recV Rc.zero ta tc da dc, .int .i64 0, .int .i64 4]) ∧ Below W.heap.size W w') := by
      intro W g c hown hnc
      have hown' : W.ownsRow (w.alloc (.cells (recC r ta tc da dc) 31)).heap.size 5 1 (.slice (some ⟨g, 0, none⟩) n c) (frameB r).length (bcells (frameB r)) := by rw [HN.out]; exact hown
      obtain ⟨hsl, _, _⟩ := slB_of_own hown'
      have hl : ((frameB r).take k).length = k := by rw [List.length_take, HN.out]; omega
      have h := unframe_any (some ⟨g, 0, none⟩) c ((frameB r).take k) W (hsl.take k) (by omega) (by omega) (by simp)
      rw [hl, unf_cut r Hm.out k (by rw [HN.out]; exact hkn)] at h
      refine Calls.mono h ?_
      rintro e w' ⟨ta, tc, da, dc, rfl, _, _, hb⟩
      exact ⟨ta, tc, da, dc, rfl, hb⟩
    have hki : (0 : Int) ≤ (k : Int) := by omega
    go_enter Try.func7, Try.ntmps7
    go_wp2_with fail
    refine Calls.mono HF.out ?_
    rintro e w1 ⟨v, rfl, hown, hb1⟩
    obtain ⟨g, c, rfl, hnc, hcm, hg⟩ : ∃ g c, v = .slice (some ⟨g, 0, none⟩) n c ∧ n ≤ c ∧ c ≤ maxLen ∧ g < w1.heap.size := by
      rcases hown.2 with ⟨_, h0⟩ | ⟨g, cap, cur, rfl, _, hh, h3, h4, _⟩
      · omega
      · exact ⟨g, cap, rfl, h3, h4, lt_of_block hh⟩
    have HCall := (show Hid _ from HUn.out w1 g c hown hnc)
    have HK1 := (show Hid _ from box1_on HK0.out hb1)
    unfold maxLen at hcm
    have hkc : (k : Int) ≤ (c : Int) := by omega
    have hn0 : ((n : Int) == 0) = false := by simp; omega
    have hnz : ¬ ((n : Int) = 0) := by omega
    clear hb1 hown HF HUn
    unfold argE
    have hcs : (cut < 0 ∧ Hid (-(cut + 1) = K)) ∨ (¬ cut < 0 ∧ Hid (cut = K)) := by
      by_cases h : cut < 0
      · exact .inl ⟨h, by show _ = _; rw [HKK.out, if_pos h]⟩
      · exact .inr ⟨h, by show _ = _; rw [HKK.out, if_neg h]⟩
    clear HKK
    rcases hcs with ⟨hneg, HE⟩ | ⟨hneg, HE⟩
    · have e1 := HE.out
      go_wp2_with fail
      refine Calls.mono HCall.out ?_
      rintro e w2 ⟨ta2, tc2, da2, dc2, rfl, hb2⟩
      have HK2 := (show Hid _ from box1_on HK1.out hb2)
      have HS := (show Hid _ from refsame_any Rc.zero Rc.zero ta2 tc2 da2 dc2 none 0 none 0 (w2.alloc (.cells (recC Rc.zero ta2 tc2 da2 dc2) 31)) (RI.zero _ _ _) (RI.zero _ _ _))
      rw [decide_eq_true rfl] at HS
      clear hb2 HCall
      go_wp2_with fail
      refine Calls.mono HS.out ?_
      rintro e w3 ⟨rfl, hb3⟩
      have HK3 := (show Hid _ from box1_on HK2.out (((Below.refl _ _).alloc (Nat.le_refl _) _).trans (hb3.mono (by simp))))
      clear hb3 HS
      go_wp2_with fail
      refine (lives_any _).mono ?_
      rintro e wz ⟨rfl, hbz⟩
      have hfin := box1_below (box1_on HK3.out hbz)
      clear hbz
      go_wp2
      go_ret
      exact ⟨rfl, hfin⟩
    · have e1 := HE.out
      subst e1
      go_wp2_with fail
      refine Calls.mono HCall.out ?_
      rintro e w2 ⟨ta2, tc2, da2, dc2, rfl, hb2⟩
      have HK2 := (show Hid _ from box1_on HK1.out hb2)
      have HS := (show Hid _ from refsame_any Rc.zero Rc.zero ta2 tc2 da2 dc2 none 0 none 0 (w2.alloc (.cells (recC Rc.zero ta2 tc2 da2 dc2) 31)) (RI.zero _ _ _) (RI.zero _ _ _))
      rw [decide_eq_true rfl] at HS
      clear hb2 HCall
      go_wp2_with fail
      refine Calls.mono HS.out ?_
      rintro e w3 ⟨rfl, hb3⟩
      have HK3 := (show Hid _ from box1_on HK2.out (((Below.refl _ _).alloc (Nat.le_refl _) _).trans (hb3.mono (by simp))))
      clear hb3 HS
      go_wp2_with fail
      refine (lives_any _).mono ?_
      rintro e wz ⟨rfl, hbz⟩
      have hfin := box1_below (box1_on HK3.out hbz)
      clear hbz
      go_wp2
      go_ret
      exact ⟨rfl, hfin⟩

end Go.Proofs.Ytjhjicokbdloiaa
