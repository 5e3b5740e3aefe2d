/-
  lives: the chapter's example.
-/
import Derived.Test.YtfdpmffoajjchaaTk
namespace Go.Proofs.Ytfdpmffoajjchaa
open Go.RowKit Go.Conc

theorem mi_zero (w : World) (m : Ms) (h1 : m.wants = []) (h2 : m.pages = []) : MI w m zeroP := by
  refine ⟨?_, ?_, fun _ => ⟨by rw [h1]; rfl, rfl⟩, fun _ => ⟨by rw [h2]; rfl, rfl⟩⟩
  · rw [h1]; exact Rd.nil _ _
  · rw [h2]; exact Rd.nil _ _
def km (k : Int) : Ms := ⟨k, 0, 0, 0, false, 0, [], [], []⟩
theorem lim_km (k : Int) : Lim (km k) := ⟨by simp [km], by simp [km]⟩
theorem mi_km (w : World) (k : Int) : MI w (km k) zeroP := mi_zero w _ rfl rfl

set_option maxRecDepth 100000 in
set_option maxHeartbeats 1000000 in
theorem lives17 (w : World) : Calls Try.prog 17 #[] w fun e w' => e = .returned (.bool true) ∧ Below w.heap.size w w' := by
  have HW := toHid (new_yes w 2 (by omega) (by omega))
  go_enter Try.func17, Try.ntmps17
  go_wp2_with fail
  go_at_call 9
  refine Calls.mono HW.out ?_
  rintro e w1 ⟨rfl, hN1, hB1, hz1⟩
  have HN1 := toHid hN1
  have HB1 := toHid hB1
  have HZ1 := toHid hz1
  clear hN1 hB1 hz1 HW
  go_wp2_with fail
  go_at_call 12
  refine Calls.mono (send_none HN1.out 1 2 (by decide) (km 0) zeroP) ?_
  rintro e w2 ⟨rfl, hB2⟩
  have HN2 := toHid (HN1.out.below hB2)
  have HB2 := toHid hB2
  clear hB2
  go_wp2_with fail
  go_at_call 12
  refine Calls.mono (send_room HN2.out 0 1 (k := 2) (by decide) (by simp) (km 5) zeroP (mi_km _ _) (lim_km _)) ?_
  rintro e w3 ⟨rfl, b3, p3, hN3, hM3, hO3, hb3, hT3⟩
  have HN3 := toHid hN3
  have HM3 := toHid hM3
  have HT3 := toHid hT3
  clear hN3 hM3 hT3 hO3 hb3
  go_wp2_with fail
  go_at_call 12
  refine Calls.mono (send_room HN3.out 0 1 (k := 2) (by decide) (by simp [upd]) (km 6) zeroP (mi_km _ _) (lim_km _)) ?_
  rintro e w4 ⟨rfl, b4, p4, hN4, hM4, hO4, hb4, hT4⟩
  have HN4 := toHid hN4
  have HM4 := toHid (hT4.keepC HN3.out _ _ _ _ HM3.out)
  have HT4 := toHid hT4
  clear hN4 hM4 hT4 hO4 hb4
  go_wp2_with fail
  go_at_call 10
  refine Calls.mono (take_c HN4.out 0 1 (k := 2) (b := b3) (l := [b4]) (by decide) (by simp [upd]) (km 5) p3 HM4.out) ?_
  rintro e w5 ⟨rfl, hN5, hT5⟩
  have HN5 := toHid hN5
  have HT5 := toHid hT5
  clear hN5 hT5
  obtain ⟨wa, wc, pa, pc⟩ := p3
  go_wp2_with fail
  go_at_call 13
  refine Calls.mono (len_any _ _ 2 _ (HN5.out.below ((Below.refl _ _).alloc (Nat.le_refl _) _)) 0 1) ?_
  rintro e w6 ⟨rfl, hw6⟩
  obtain rfl := hw6.symm
  go_wp2_with fail
  go_ret
  have b2 := HB1.out.trans (HB2.out.mono HB1.out.size)
  have b3' := HT3.out.to b2 (Nat.le_refl _) b2.size
  have b4' := HT4.out.to b3' (Nat.le_refl _) b3'.size
  have b5' := HT5.out.to b4' (Nat.le_refl _) b4'.size
  exact ⟨rfl, b5'.alloc b5'.size _⟩

end Go.Proofs.Ytfdpmffoajjchaa
