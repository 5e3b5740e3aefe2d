/-
  PageReads: Parse of bytes whose sum is right and that are no page's: refused.
-/
import Derived.Test.YtoahcihhpimmgaaNe
import Derived.Test.YtoahcihhpimmgaaYe
namespace Go.Proofs.Ytoahcihhpimmgaa
open Go.RowKit

set_option maxRecDepth 20000 in
set_option maxHeartbeats 4000000 in
theorem parse_form (g o C id : Nat) (b : List UInt8) (w : World) (h : SlB w (some ⟨g, o, none⟩) b) (hlen : b.length = 512) (hC : 512 ≤ C) (hid : id < 16) (hno : b.all (· == 0) = false) (sm : Nat) (hv : leV (b.take 4) = sm) (hm : more 0 (b.drop 4) = sm)
    (hN : ∀ l lsn, GoodL l → lsn < 18446744073709551616 → b ≠ pageB id lsn l) :
    Calls Try.prog 18 #[.int .i64 (id : Int), .slice (some ⟨g, o, none⟩) 512 C] w fun e w' => e = .returned (.tuple #[.pointer none, .int .i64 5]) ∧ Below w.heap.size w w' := by
  have hsm : sm < 4294967296 := by rw [← hm]; exact more_lt _ _
  have HS : Hid _ := h
  have HL : Hid (b.length = 512) := hlen
  have HV : Hid (leV (b.take 4) = sm) := hv
  have HM : Hid (more 0 (b.drop 4) = sm) := hm
  have HNo : Hid (Calls Try.prog 43 #[.slice (some ⟨g, o, none⟩) 512 C] w fun e w' => e = .returned (.bool false) ∧ w' = w) := by
    have := noughts_any (some ⟨g, o, none⟩) C b w h (by omega)
    rw [hno, hlen] at this
    exact this
  have hneq : ((sm : Int) != (sm : Int)) = false := by simp
  have HNN : Hid (∀ l lsn, GoodL l → lsn < 18446744073709551616 → b ≠ pageB id lsn l) := hN
  clear h hlen hno hv hm hN
  have HC1 : Hid (∀ W, SlB W (some ⟨g, o, none⟩) (b.take 4) → Calls Try.prog 44 #[.slice (some ⟨g, o, none⟩) 4 C] W fun e w' => e = .returned (.int .u64 (sm : Int)) ∧ w' = W) := fun W hW => by
    have := number_any g o C (b.take 4) W hW (by rw [List.length_take, HL.out]; decide)
    rw [HV.out, List.length_take, HL.out] at this
    exact this
  have HC2 : Hid (∀ W, SlB W (some ⟨g, o + 4, none⟩) (b.drop 4) → Calls Try.prog 45 #[.slice (some ⟨g, o + 4, none⟩) 508 (C - 4)] W fun e w' => e = .returned (.int .u32 ((sm : Nat) : Int)) ∧ Below W.heap.size W w') := fun W hW => by
    have := sum_any (some ⟨g, o + 4, none⟩) (C - 4) (b.drop 4) W hW (by rw [List.length_drop, HL.out]; decide)
    rw [HM.out, List.length_drop, HL.out] at this
    exact this
  have HSS : Hid (SlB w.drew (some ⟨g, o, none⟩) (b.take 4) ∧ SlB w.drew (some ⟨g, o + 4, none⟩) (b.drop 4) ∧ Below w.heap.size w w.drew) := ⟨by have := (HS.out.sub 0 4).drew; simpa using this, by have := (HS.out.sub 4 508).drew; rwa [List.take_of_length_le (by rw [List.length_drop, HL.out]; decide)] at this, (Below.refl _ _).drew⟩
  have c1 : (4 : Int) ≤ (C : Int) := by omega
  have c2 : 4 ≤ C := by omega
  have c3 : ¬ C = 4 := by omega
  have c4 : ¬ C ≤ 4 := by omega
  have hk := known_any (id : Int) w
  rw [show (decide (0 ≤ (id : Int)) && decide ((id : Int) < 16)) = true by simp; omega] at hk
  have hwu : IntKind.u64.wrap (sm : Int) = (sm : Int) := by simp [IntKind.wrap, IntKind.bits, IntKind.signed]; omega
  have HK : Hid _ := hk
  clear hk
  go_enter Try.func18, Try.ntmps18
  go_wp2_with fail
  refine Calls.mono HK.out ?_
  rintro e w1 ⟨rfl, hw⟩
  obtain rfl := hw.symm
  go_wp2_with fail
  refine Calls.mono HNo.out ?_
  rintro e w1 ⟨rfl, hw⟩
  obtain rfl := hw.symm
  go_wp2_with fail
  refine wp_region_held_drew (S := (fun W => SlB W (some ⟨g, o, none⟩) (b.take 4) ∧ SlB W (some ⟨g, o + 4, none⟩) (b.drop 4) ∧ Below w.heap.size w W)) (by kernel_rfl) HSS.out (fun hHeld => ?_)
  refine wpAnyH_take (i := 0) (v := ?_) rfl (by kernel_rfl) (by kernel_rfl) (by kernel_rfl) (fun _ _ _ h => h) (Or.inl ⟨by rfl, ?_⟩) (by assumption) ?_
  rotate_left
  · (intro W hSw; (try dsimp only at hSw); go_simp; try with_reducible rfl)
  try simp only [Act.put, List.getElem_toArray, List.getElem_cons_zero, List.setIfInBounds_toArray, List.set_cons_zero, List.set_cons_succ]
  refine wpAnyH_take (i := 1) (v := ?_) rfl (by kernel_rfl) (by kernel_rfl) (by kernel_rfl) (fun _ _ _ h => h) (Or.inl ⟨by rfl, ?_⟩) (by assumption) ?_
  rotate_left
  · (intro W hSw; (try dsimp only at hSw); go_simp; try with_reducible rfl)
  try simp only [Act.put, List.getElem_toArray, List.getElem_cons_zero, List.getElem_cons_succ, List.setIfInBounds_toArray, List.set_cons_zero, List.set_cons_succ]
  refine wpAnyH_take (i := 3) (v := ?_) rfl (by kernel_rfl) (by kernel_rfl) (by kernel_rfl) (fun _ _ _ h => h) (Or.inl ⟨by rfl, ?_⟩) (by assumption) ?_
  rotate_left
  · (intro W hSw; (try dsimp only at hSw); go_simp; try with_reducible rfl)
  try simp only [Act.put, List.getElem_toArray, List.getElem_cons_zero, List.getElem_cons_succ, List.setIfInBounds_toArray, List.set_cons_zero, List.set_cons_succ]
  refine wpAnyH_take (i := 4) (v := ?_) rfl (by kernel_rfl) (by kernel_rfl) (by kernel_rfl) (fun _ _ _ h => h) (Or.inl ⟨by rfl, ?_⟩) (by assumption) ?_
  rotate_left
  · (intro W hSw; (try dsimp only at hSw); go_simp; try with_reducible rfl)
  try simp only [Act.put, List.getElem_toArray, List.getElem_cons_zero, List.getElem_cons_succ, List.setIfInBounds_toArray, List.set_cons_zero, List.set_cons_succ]
  refine wpAnyH_ready (rs := [2]) (by kernel_rfl) (by simp) ?_
  refine AllReadyH.cons rfl (fun K hK => ?_) AllReadyH.nil
  go_simp
  refine Calls.mono (HC1.out _ hHeld.1) ?_
  rintro e wn ⟨rfl, hw⟩
  obtain rfl := hw.symm
  try go_wp2_with fail
  refine hK.out _ _ (hHeld) (fun hHeld => ?_)
  clear hK K
  try simp only [Act.put, List.getElem_toArray, List.getElem_cons_zero, List.getElem_cons_succ, List.setIfInBounds_toArray, List.set_cons_zero, List.set_cons_succ]
  refine wpAnyH_ready (rs := [5]) (by kernel_rfl) (by simp) ?_
  refine AllReadyH.cons rfl (fun K hK => ?_) AllReadyH.nil
  go_simp
  refine Calls.mono (HC2.out _ hHeld.2.1) ?_
  rintro e w5 ⟨rfl, hb5⟩
  have HB5 : Hid _ := hHeld.2.2.trans (hb5.mono hHeld.2.2.size)
  have hH5 := (show SlB w5 _ _ ∧ SlB w5 _ _ ∧ Below w.heap.size w w5 from ⟨hHeld.1.below hb5, hHeld.2.1.below hb5, HB5.out⟩)
  have HH5 : Hid _ := hH5
  clear hb5 hH5 hHeld
  try go_wp2_with fail
  refine hK.out _ _ (HH5.out) (fun hHeld => ?_)
  clear hK K
  try simp only [Act.put, List.getElem_toArray, List.getElem_cons_zero, List.getElem_cons_succ, List.setIfInBounds_toArray, List.set_cons_zero, List.set_cons_succ]
  refine wpAnyH_take (i := 6) (v := ?_) rfl (by kernel_rfl) (by kernel_rfl) (by kernel_rfl) (fun _ _ _ h => h) (Or.inl ⟨by rfl, ?_⟩) (by assumption) ?_
  rotate_left
  · (intro W hSw; (try dsimp only at hSw); go_simp; try with_reducible rfl)
  try simp only [Act.put, List.getElem_toArray, List.getElem_cons_zero, List.getElem_cons_succ, List.setIfInBounds_toArray, List.set_cons_zero, List.set_cons_succ]
  refine wpAnyH_take (i := 7) (v := ?_) rfl (by kernel_rfl) (by kernel_rfl) (by kernel_rfl) (fun _ _ _ h => h) (Or.inl ⟨by rfl, ?_⟩) (by assumption) ?_
  rotate_left
  · (intro W hSw; (try dsimp only at hSw); go_simp; try with_reducible rfl)
  try simp only [Act.put, List.getElem_toArray, List.getElem_cons_zero, List.getElem_cons_succ, List.setIfInBounds_toArray, List.set_cons_zero, List.set_cons_succ]
  refine wpAnyH_done (by kernel_rfl) ?_ _
  have d1 : (14 : Int) ≤ (C : Int) := by omega
  have d2 : ¬ C = 12 := by omega
  have d3 : ¬ C ≤ 12 := by omega
  have d4 : 14 ≤ C := by omega
  have HSO : Hid _ := slotsOf_any g o C b w5 (HS.out.below HB5.out) HL.out hC
  clear hneq c1 c2 c3 c4 HC1 HC2 HSS HNo HK
  go_wp2_with fail
  refine Calls.mono HSO.out ?_
  rintro e w6 ⟨v, ok, rfl, hb6, hT⟩
  have HT : Hid (Told46 b ok) := hT
  have HB6 : Hid (Below w.heap.size w w6) := HB5.out.trans (hb6.mono HB5.out.size)
  clear hb6 HSO hT
  cases ok with
  | false =>
    go_wp2
    refine bodyPost_ret (v := .tuple #[.pointer none, .int .i64 5]) (by simp [results, Try.results18, go_sem]) rfl ⟨rfl, HB6.out⟩
  | true =>
    obtain ⟨id0, hid0⟩ : ∃ id0, leV ((b.drop 12).take 2) = id0 := ⟨_, rfl⟩
    have hidl : id0 < 65536 := by
      have := leV_lt ((b.drop 12).take 2)
      rw [hid0, List.length_take, List.length_drop, HL.out] at this
      simpa using this
    have hne : id0 ≠ id := fun e => by
      obtain ⟨l, hsf, h64, htr, hgap, hcn⟩ := HT.out rfl
      have hp := SoF.page HL.out hsf h64 htr hgap hcn (by rw [HM.out, ← HV.out]; exact (leB_leV _ 4 (by rw [List.length_take, HL.out]; decide)).symm)
      rw [hid0, e] at hp
      refine HNN.out l _ hp.1 ?_ hp.2
      have := leV_lt ((b.drop 4).take 8)
      rw [List.length_take, List.length_drop, HL.out] at this
      simpa using this
    have HNI : Hid (Calls Try.prog 44 #[.slice (some ⟨g, o + 12, none⟩) 2 (C - 12)] w6 fun e w' => e = .returned (.int .u64 ((id0 : Nat) : Int)) ∧ w' = w6) := by
      have hsub := (HS.out.below HB6.out).sub 12 2
      have := number_any g (o + 12) (C - 12) _ w6 hsub (by rw [List.length_take]; omega)
      rw [hid0, List.length_take, List.length_drop, HL.out] at this
      exact this
    clear hid0
    go_wp2_with fail
    refine Calls.mono HNI.out ?_
    rintro e w7 ⟨rfl, hw⟩
    obtain rfl := hw.symm
    have hn1 : (((id0 : Nat) : Int) != ((id : Nat) : Int)) = true := by simp; omega
    have hwi : IntKind.u64.wrap (id : Int) = (id : Int) := by simp [IntKind.wrap, IntKind.bits, IntKind.signed]; omega
    go_wp2
    refine bodyPost_ret (v := .tuple #[.pointer none, .int .i64 5]) (by simp [results, Try.results18, go_sem]) rfl ⟨rfl, HB6.out⟩
end Go.Proofs.Ytoahcihhpimmgaa
