/-
  The walk of RecApart.
-/
import Derived.Test.YtjhjicokbdloiaaLa2
namespace Go.Proofs.Ytjhjicokbdloiaa
open Go.RowKit

set_option maxRecDepth 20000 in
set_option maxHeartbeats 4000000 in
theorem apart_walk (a b : Rc) (ta : Option Addr) (tc : Nat) (da : Option Addr) (dc : Nat) (ta2 : Option Addr) (tc2 : Nat) (da2 : Option Addr) (dc2 : Nat) (w : World) (ha : RI w a ta da) (hb : RI w b ta2 da2) :
    Calls Try.prog 6 #[recV a ta tc da dc, recV b ta2 tc2 da2 dc2] w fun e w' => e = .returned (.bool true) ∧ Below w.heap.size w w' := by
  have HCa : Hid (∀ W, Below w.heap.size w W → Calls Try.prog 14 #[recV a ta tc da dc] W fun e w' => e = .returned (.int .i64 (argE (mayB a))) ∧ Below W.heap.size W w') := fun W hW => let h := ha.below hW; check_any a ta tc da dc W h.t h.d h.lt h.ld
  have HCb : Hid (∀ W, Below w.heap.size w W → Calls Try.prog 14 #[recV b ta2 tc2 da2 dc2] W fun e w' => e = .returned (.int .i64 (argE (mayB b))) ∧ Below W.heap.size W w') := fun W hW => let h := hb.below hW; check_any b ta2 tc2 da2 dc2 W h.t h.d h.lt h.ld
  have HEa : Hid (∀ W, Below w.heap.size w W → mayB a = true → Calls Try.prog 11 #[recV a ta tc da dc] W fun e w' => ∃ ax cx, e = .returned (.tuple #[.slice ax (encB a).length cx, .int .i64 0]) ∧ (∀ W', Below w'.heap.size w' W' → (convert 34 9 (.slice ax (encB a).length cx)).run Try.prog W' = .ok (.string (txt (encB a))) W') ∧ Below W.heap.size W w') := fun W hW hm => by
    have h := ha.below hW
    refine Calls.mono (encode_any a ta tc da dc W h.t h.d h.lt h.ld) ?_
    rintro e w' ⟨v, rfl, hown, hb⟩
    rw [show outB a = encB a by unfold outB; rw [hm]; rfl] at hown
    obtain ⟨ax, cx, rfl⟩ := ownsRow_shape hown
    exact ⟨ax, cx, by rw [hm]; rfl, fun W' hW' => conv_txt (ownsRow_below hown hW' (ownsRow_lt hown)), hb⟩
  have HEb : Hid (∀ W, Below w.heap.size w W → mayB b = true → Calls Try.prog 11 #[recV b ta2 tc2 da2 dc2] W fun e w' => ∃ ax cx, e = .returned (.tuple #[.slice ax (encB b).length cx, .int .i64 0]) ∧ (∀ W', Below w'.heap.size w' W' → (convert 34 9 (.slice ax (encB b).length cx)).run Try.prog W' = .ok (.string (txt (encB b))) W') ∧ Below W.heap.size W w') := fun W hW hm => by
    have h := hb.below hW
    refine Calls.mono (encode_any b ta2 tc2 da2 dc2 W h.t h.d h.lt h.ld) ?_
    rintro e w' ⟨v, rfl, hown, hb⟩
    rw [show outB b = encB b by unfold outB; rw [hm]; rfl] at hown
    obtain ⟨ax, cx, rfl⟩ := ownsRow_shape hown
    exact ⟨ax, cx, by rw [hm]; rfl, fun W' hW' => conv_txt (ownsRow_below hown hW' (ownsRow_lt hown)), hb⟩
  have HFa : Hid (∀ W, Below w.heap.size w W → mayB a = true → Calls Try.prog 12 #[recV a ta tc da dc] W fun e w' => ∃ ax cx, e = .returned (.tuple #[.slice ax (frameB a).length cx, .int .i64 0]) ∧ (∀ W', Below w'.heap.size w' W' → (convert 34 9 (.slice ax (frameB a).length cx)).run Try.prog W' = .ok (.string (txt (frameB a))) W') ∧ Below W.heap.size W w') := fun W hW hm => by
    have h := ha.below hW
    refine Calls.mono (frame_any a ta tc da dc W h.t h.d h.lt h.ld) ?_
    rintro e w' ⟨v, rfl, hown, hb⟩
    rw [show outF a = frameB a by unfold outF; rw [hm]; rfl] at hown
    obtain ⟨ax, cx, rfl⟩ := ownsRow_shape hown
    exact ⟨ax, cx, by rw [hm]; rfl, fun W' hW' => conv_txt (ownsRow_below hown hW' (ownsRow_lt hown)), hb⟩
  have HFb : Hid (∀ W, Below w.heap.size w W → mayB b = true → Calls Try.prog 12 #[recV b ta2 tc2 da2 dc2] W fun e w' => ∃ ax cx, e = .returned (.tuple #[.slice ax (frameB b).length cx, .int .i64 0]) ∧ (∀ W', Below w'.heap.size w' W' → (convert 34 9 (.slice ax (frameB b).length cx)).run Try.prog W' = .ok (.string (txt (frameB b))) W') ∧ Below W.heap.size W w') := fun W hW hm => by
    have h := hb.below hW
    refine Calls.mono (frame_any b ta2 tc2 da2 dc2 W h.t h.d h.lt h.ld) ?_
    rintro e w' ⟨v, rfl, hown, hb⟩
    rw [show outF b = frameB b by unfold outF; rw [hm]; rfl] at hown
    obtain ⟨ax, cx, rfl⟩ := ownsRow_shape hown
    exact ⟨ax, cx, by rw [hm]; rfl, fun W' hW' => conv_txt (ownsRow_below hown hW' (ownsRow_lt hown)), hb⟩
  have HSa : Hid (∀ W, Below w.heap.size w W → Calls Try.prog 23 #[recV a ta tc da dc, recV b ta2 tc2 da2 dc2] W fun e w' => e = .returned (.bool (decide (a = b))) ∧ Below W.heap.size W w') := fun W hW => let h := ha.below hW; let k := hb.below hW; same_any a b ta tc da dc ta2 tc2 da2 dc2 W h.t h.d h.lt h.ld k.t k.d k.lt k.ld
  have HK0 : Hid (Below (w.heap.size + 2) ((w.alloc (.cells (recC a ta tc da dc) 31)).alloc (.cells (recC b ta2 tc2 da2 dc2) 31)) ((w.alloc (.cells (recC a ta tc da dc) 31)).alloc (.cells (recC b ta2 tc2 da2 dc2) 31))) := Below.refl _ _
  clear ha hb
  go_enter Try.func6, Try.ntmps6
  go_wp2_with fail
  refine (light_any a ta tc da dc _).mono ?_
  rintro e w1 ⟨la, rfl, hb1⟩
  have HK1 := (show Hid _ from box2_on HK0.out hb1)
  clear hb1
  obtain ⟨ka, kb⟩ := boxes HK1.out
  obtain ⟨⟨x0, x1, x2, x3, x4, x5, x6, x7, x8, x9, x10, x11⟩, _⟩ := rw_cells' ka
  obtain ⟨⟨y0, y1, y2, y3, y4, y5, y6, y7, y8, y9, y10, y11⟩, _⟩ := rw_cells' kb
  have hza := lt_of_block ka
  have hzb := lt_of_block kb
  clear ka kb
  cases la
  · go_wp2_with fail
    refine (lives_any _).mono ?_
    rintro e wz ⟨rfl, hbz⟩
    have hfin := box2_below (box2_on HK1.out hbz)
    clear hbz
    go_wp2
    go_ret
    exact ⟨rfl, hfin⟩
  go_wp2_with fail
  refine (light_any b ta2 tc2 da2 dc2 _).mono ?_
  rintro e w2 ⟨lb, rfl, hb2⟩
  have HK2 := (show Hid _ from box2_on HK1.out hb2)
  clear hb2 x0 x1 x2 x3 x4 x5 x6 x7 x8 x9 x10 x11 y0 y1 y2 y3 y4 y5 y6 y7 y8 y9 y10 y11 hza hzb
  obtain ⟨ka, kb⟩ := boxes HK2.out
  obtain ⟨⟨x0, x1, x2, x3, x4, x5, x6, x7, x8, x9, x10, x11⟩, _⟩ := rw_cells' ka
  obtain ⟨⟨y0, y1, y2, y3, y4, y5, y6, y7, y8, y9, y10, y11⟩, _⟩ := rw_cells' kb
  have hza := lt_of_block ka
  have hzb := lt_of_block kb
  clear ka kb
  cases lb
  · go_wp2_with fail
    refine (lives_any _).mono ?_
    rintro e wz ⟨rfl, hbz⟩
    have hfin := box2_below (box2_on HK2.out hbz)
    clear hbz
    go_wp2
    go_ret
    exact ⟨rfl, hfin⟩
  go_wp2_with fail
  refine (HCa.out _ (box2_below HK2.out)).mono ?_
  rintro e w3 ⟨rfl, hb3⟩
  have HK3 := (show Hid _ from box2_on HK2.out hb3)
  clear hb3 x0 x1 x2 x3 x4 x5 x6 x7 x8 x9 x10 x11 y0 y1 y2 y3 y4 y5 y6 y7 y8 y9 y10 y11 hza hzb
  obtain ⟨ka, kb⟩ := boxes HK3.out
  obtain ⟨⟨x0, x1, x2, x3, x4, x5, x6, x7, x8, x9, x10, x11⟩, _⟩ := rw_cells' ka
  obtain ⟨⟨y0, y1, y2, y3, y4, y5, y6, y7, y8, y9, y10, y11⟩, _⟩ := rw_cells' kb
  have hza := lt_of_block ka
  have hzb := lt_of_block kb
  clear ka kb
  cases hma : mayB a
  · unfold argE
    go_wp2_with fail
    refine (lives_any _).mono ?_
    rintro e wz ⟨rfl, hbz⟩
    have hfin := box2_below (box2_on HK3.out hbz)
    clear hbz
    go_wp2
    go_ret
    exact ⟨rfl, hfin⟩
  unfold argE
  go_wp2_with fail
  refine (HCb.out _ (box2_below HK3.out)).mono ?_
  rintro e w4 ⟨rfl, hb4⟩
  have HK4 := (show Hid _ from box2_on HK3.out hb4)
  clear hb4 x0 x1 x2 x3 x4 x5 x6 x7 x8 x9 x10 x11 y0 y1 y2 y3 y4 y5 y6 y7 y8 y9 y10 y11 hza hzb
  obtain ⟨ka, kb⟩ := boxes HK4.out
  obtain ⟨⟨x0, x1, x2, x3, x4, x5, x6, x7, x8, x9, x10, x11⟩, _⟩ := rw_cells' ka
  obtain ⟨⟨y0, y1, y2, y3, y4, y5, y6, y7, y8, y9, y10, y11⟩, _⟩ := rw_cells' kb
  have hza := lt_of_block ka
  have hzb := lt_of_block kb
  clear ka kb
  cases hmb : mayB b
  · unfold argE
    go_wp2_with fail
    refine (lives_any _).mono ?_
    rintro e wz ⟨rfl, hbz⟩
    have hfin := box2_below (box2_on HK4.out hbz)
    clear hbz
    go_wp2
    go_ret
    exact ⟨rfl, hfin⟩
  have Hma : Hid (mayB a = true) := hma
  have Hmb : Hid (mayB b = true) := hmb
  clear hma hmb
  unfold argE
  go_wp2_with fail
  refine (HEa.out _ (box2_below HK4.out) Hma.out).mono ?_
  rintro e w5 ⟨a1, c1, rfl, hc1, hb5⟩
  have HV1 := (show Hid _ from hc1)
  clear hc1
  have HK5 := (show Hid _ from box2_on HK4.out hb5)
  clear hb5 x0 x1 x2 x3 x4 x5 x6 x7 x8 x9 x10 x11 y0 y1 y2 y3 y4 y5 y6 y7 y8 y9 y10 y11 hza hzb
  obtain ⟨ka, kb⟩ := boxes HK5.out
  obtain ⟨⟨x0, x1, x2, x3, x4, x5, x6, x7, x8, x9, x10, x11⟩, _⟩ := rw_cells' ka
  obtain ⟨⟨y0, y1, y2, y3, y4, y5, y6, y7, y8, y9, y10, y11⟩, _⟩ := rw_cells' kb
  have hza := lt_of_block ka
  have hzb := lt_of_block kb
  clear ka kb
  go_wp2_with fail
  refine (HEb.out _ (box2_below HK5.out) Hmb.out).mono ?_
  rintro e w6 ⟨a2, c2, rfl, hc2, hb6⟩
  have HV2 := (show Hid _ from hc2)
  have HV1b : Hid (∀ W', Below w6.heap.size w6 W' → _) := fun W' hW' => HV1.out W' (below_on hb6 hW')
  clear hc2 HV1
  have HK6 := (show Hid _ from box2_on HK5.out hb6)
  clear hb6 x0 x1 x2 x3 x4 x5 x6 x7 x8 x9 x10 x11 y0 y1 y2 y3 y4 y5 y6 y7 y8 y9 y10 y11 hza hzb
  obtain ⟨ka, kb⟩ := boxes HK6.out
  obtain ⟨⟨x0, x1, x2, x3, x4, x5, x6, x7, x8, x9, x10, x11⟩, _⟩ := rw_cells' ka
  obtain ⟨⟨y0, y1, y2, y3, y4, y5, y6, y7, y8, y9, y10, y11⟩, _⟩ := rw_cells' kb
  have hza := lt_of_block ka
  have hzb := lt_of_block kb
  clear ka kb
  go_wp2_with fail
  refine (HFa.out _ (box2_below HK6.out) Hma.out).mono ?_
  rintro e w7 ⟨a3, c3, rfl, hc3, hb7⟩
  have HV3 := (show Hid _ from hc3)
  have HV1c : Hid (∀ W', Below w7.heap.size w7 W' → _) := fun W' hW' => HV1b.out W' (below_on hb7 hW')
  have HV2c : Hid (∀ W', Below w7.heap.size w7 W' → _) := fun W' hW' => HV2.out W' (below_on hb7 hW')
  clear hc3 HV1b HV2
  have HK7 := (show Hid _ from box2_on HK6.out hb7)
  clear hb7 x0 x1 x2 x3 x4 x5 x6 x7 x8 x9 x10 x11 y0 y1 y2 y3 y4 y5 y6 y7 y8 y9 y10 y11 hza hzb
  obtain ⟨ka, kb⟩ := boxes HK7.out
  obtain ⟨⟨x0, x1, x2, x3, x4, x5, x6, x7, x8, x9, x10, x11⟩, _⟩ := rw_cells' ka
  obtain ⟨⟨y0, y1, y2, y3, y4, y5, y6, y7, y8, y9, y10, y11⟩, _⟩ := rw_cells' kb
  have hza := lt_of_block ka
  have hzb := lt_of_block kb
  clear ka kb
  go_wp2_with fail
  refine (HFb.out _ (box2_below HK7.out) Hmb.out).mono ?_
  rintro e w8 ⟨a4, c4, rfl, hc4, hb8⟩
  have HV4 := (show Hid _ from hc4)
  have HV1d : Hid (∀ W', Below w8.heap.size w8 W' → _) := fun W' hW' => HV1c.out W' (below_on hb8 hW')
  have HV2d : Hid (∀ W', Below w8.heap.size w8 W' → _) := fun W' hW' => HV2c.out W' (below_on hb8 hW')
  have HV3d : Hid (∀ W', Below w8.heap.size w8 W' → _) := fun W' hW' => HV3.out W' (below_on hb8 hW')
  clear hc4 HV1c HV2c HV3
  have HK8 := (show Hid _ from box2_on HK7.out hb8)
  clear hb8 x0 x1 x2 x3 x4 x5 x6 x7 x8 x9 x10 x11 y0 y1 y2 y3 y4 y5 y6 y7 y8 y9 y10 y11 hza hzb
  obtain ⟨ka, kb⟩ := boxes HK8.out
  obtain ⟨⟨x0, x1, x2, x3, x4, x5, x6, x7, x8, x9, x10, x11⟩, _⟩ := rw_cells' ka
  obtain ⟨⟨y0, y1, y2, y3, y4, y5, y6, y7, y8, y9, y10, y11⟩, _⟩ := rw_cells' kb
  have hza := lt_of_block ka
  have hzb := lt_of_block kb
  clear ka kb
  go_wp2_with fail
  refine (HSa.out _ (box2_below HK8.out)).mono ?_
  rintro e w9 ⟨rfl, hb9⟩
  have hcv1 := HV1d.out _ hb9
  have hcv2 := HV2d.out _ hb9
  have hcv3 := HV3d.out _ hb9
  have hcv4 := HV4.out _ hb9
  have HK9 := (show Hid _ from box2_on HK8.out hb9)
  clear hb9 x0 x1 x2 x3 x4 x5 x6 x7 x8 x9 x10 x11 y0 y1 y2 y3 y4 y5 y6 y7 y8 y9 y10 y11 hza hzb
  obtain ⟨sm, Hsm⟩ : ∃ x, Hid (decide (a = b) = x) := ⟨_, rfl⟩
  have hx1 := str_same (encB a) (encB b) sm (by rw [encB_inj a b Hma.out Hmb.out, ← Hsm.out]; simp)
  have hx2 := str_same (frameB a) (frameB b) sm (by rw [frameB_inj a b Hma.out Hmb.out, ← Hsm.out]; simp)
  rw [Hsm.out]
  generalize txt (encB a) = t1 at *
  generalize txt (encB b) = t2 at *
  generalize txt (frameB a) = t3 at *
  generalize txt (frameB b) = t4 at *
  clear HV1d HV2d HV3d HV4 Hma Hmb Hsm
  cases sm
  all_goals
    go_wp2_with fail
    refine (lives_any _).mono ?_
    rintro e wz ⟨rfl, hbz⟩
    have hfin := box2_below (box2_on HK9.out hbz)
    clear hbz
    go_wp2
    go_ret
    exact ⟨rfl, hfin⟩

end Go.Proofs.Ytjhjicokbdloiaa
