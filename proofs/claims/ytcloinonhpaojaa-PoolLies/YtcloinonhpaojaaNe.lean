/-
  Parse: of other bytes, of a page's own bytes, under its id and under another one.
-/
import Derived.Test.YtcloinonhpaojaaNd
import Derived.Test.YtcloinonhpaojaaLv
import Derived.Deep.RegionHeld3
namespace Go.Proofs.Ytcloinonhpaojaa
open Go.RowKit

theorem ownsRow_base {w : World} {B B' : Nat} {e : TypeId} {size : Nat} {v : Value} {n : Nat} {xs : List Value} (h : w.ownsRow B e size v n xs) (hb : B' ≤ B) : w.ownsRow B' e size v n xs := by
  refine ⟨h.1, ?_⟩
  rcases h.2 with h2 | ⟨g, cap, cur, hv, hg, r⟩
  · exact .inl h2
  · exact .inr ⟨g, cap, cur, hv, Nat.le_trans hb hg, r⟩

set_option maxRecDepth 20000 in
set_option maxHeartbeats 2000000 in
theorem parse_sum (g o C id : Nat) (b : List UInt8) (w : World) (h : SlB w (some ⟨g, o, none⟩) b) (hl : b.length = 512) (hC : 512 ≤ C) (hid : id < 16) (hno : b.all (· == 0) = false) (vv sm : Nat) (hv : leV (b.take 4) = vv) (hm : more 0 (b.drop 4) = sm) (hne : vv ≠ sm) :
    Calls Try.prog 41 #[.int .i64 (id : Int), .slice (some ⟨g, o, none⟩) 512 C] w fun e w' => e = .returned (.tuple #[.pointer none, .int .i64 6]) ∧ Below w.heap.size w w' := by
  have hsm : sm < 4294967296 := by rw [← hm]; exact more_lt _ _
  have HS : Hid _ := h
  have HL : Hid (b.length = 512) := hl
  have HV : Hid (leV (b.take 4) = vv) := hv
  have HM : Hid (more 0 (b.drop 4) = sm) := hm
  have HNo : Hid (Calls Try.prog 72 #[.slice (some ⟨g, o, none⟩) 512 C] w fun e w' => e = .returned (.bool false) ∧ w' = w) := by
    have := noughts_any (some ⟨g, o, none⟩) C b w h (by omega)
    rw [hno, hl] at this
    exact this
  have hneq : ((vv : Int) != (sm : Int)) = true := by simp; omega
  clear h hl hv hm hno hne
  have HC1 : Hid (∀ W, SlB W (some ⟨g, o, none⟩) (b.take 4) → Calls Try.prog 73 #[.slice (some ⟨g, o, none⟩) 4 C] W fun e w' => e = .returned (.int .u64 (vv : Int)) ∧ w' = W) := fun W hW => by
    have := number_any g o C (b.take 4) W hW (by rw [List.length_take, HL.out]; decide)
    rw [HV.out, List.length_take, HL.out] at this
    exact this
  have HC2 : Hid (∀ W, SlB W (some ⟨g, o + 4, none⟩) (b.drop 4) → Calls Try.prog 46 #[.slice (some ⟨g, o + 4, none⟩) 508 (C - 4)] W fun e w' => e = .returned (.int .u32 ((sm : Nat) : Int)) ∧ Below W.heap.size W w') := fun W hW => by
    have := sum_any (some ⟨g, o + 4, none⟩) (C - 4) (b.drop 4) W hW (by rw [List.length_drop, HL.out]; decide)
    rw [HM.out, List.length_drop, HL.out] at this
    exact this
  have HSS : Hid (SlB w.drew (some ⟨g, o, none⟩) (b.take 4) ∧ SlB w.drew (some ⟨g, o + 4, none⟩) (b.drop 4) ∧ Below w.heap.size w w.drew) := ⟨by have := (HS.out.sub 0 4).drew; simpa using this, by have := (HS.out.sub 4 508).drew; rwa [List.take_of_length_le (by rw [List.length_drop, HL.out]; decide)] at this, (Below.refl _ _).drew⟩
  have c1 : (4 : Int) ≤ (C : Int) := by omega
  have c2 : 4 ≤ C := by omega
  have c3 : ¬ C = 4 := by omega
  have c4 : ¬ C ≤ 4 := by omega
  have hk := known_any (id : Int) w
  rw [show (decide (0 ≤ (id : Int)) && decide ((id : Int) < 16)) = true by simp; omega] at hk
  have hwu : IntKind.u64.wrap (sm : Int) = (sm : Int) := by simp [IntKind.wrap, IntKind.bits, IntKind.signed]; omega
  have HK : Hid _ := hk
  clear hk
  go_enter Try.func41, Try.ntmps41
  go_wp2_with fail
  refine Calls.mono HK.out ?_
  rintro e w1 ⟨rfl, hw⟩
  obtain rfl := hw.symm
  go_wp2_with fail
  refine Calls.mono HNo.out ?_
  rintro e w1 ⟨rfl, hw⟩
  obtain rfl := hw.symm
  go_wp2_with fail
  refine wp_region_held_drew (S := (fun W => SlB W (some ⟨g, o, none⟩) (b.take 4) ∧ SlB W (some ⟨g, o + 4, none⟩) (b.drop 4) ∧ Below w.heap.size w W)) (by kernel_rfl) HSS.out (fun hHeld => ?_)
  refine wpAnyH_take (i := 0) (v := ?_) rfl (by kernel_rfl) (by kernel_rfl) (by kernel_rfl) (fun _ _ _ h => h) (Or.inl ⟨by rfl, ?_⟩) (by assumption) ?_
  rotate_left
  · (intro W hSw; (try dsimp only at hSw); go_simp; try with_reducible rfl)
  try simp only [Act.put, List.getElem_toArray, List.getElem_cons_zero, List.setIfInBounds_toArray, List.set_cons_zero, List.set_cons_succ]
  refine wpAnyH_take (i := 1) (v := ?_) rfl (by kernel_rfl) (by kernel_rfl) (by kernel_rfl) (fun _ _ _ h => h) (Or.inl ⟨by rfl, ?_⟩) (by assumption) ?_
  rotate_left
  · (intro W hSw; (try dsimp only at hSw); go_simp; try with_reducible rfl)
  try simp only [Act.put, List.getElem_toArray, List.getElem_cons_zero, List.getElem_cons_succ, List.setIfInBounds_toArray, List.set_cons_zero, List.set_cons_succ]
  refine wpAnyH_take (i := 3) (v := ?_) rfl (by kernel_rfl) (by kernel_rfl) (by kernel_rfl) (fun _ _ _ h => h) (Or.inl ⟨by rfl, ?_⟩) (by assumption) ?_
  rotate_left
  · (intro W hSw; (try dsimp only at hSw); go_simp; try with_reducible rfl)
  try simp only [Act.put, List.getElem_toArray, List.getElem_cons_zero, List.getElem_cons_succ, List.setIfInBounds_toArray, List.set_cons_zero, List.set_cons_succ]
  refine wpAnyH_take (i := 4) (v := ?_) rfl (by kernel_rfl) (by kernel_rfl) (by kernel_rfl) (fun _ _ _ h => h) (Or.inl ⟨by rfl, ?_⟩) (by assumption) ?_
  rotate_left
  · (intro W hSw; (try dsimp only at hSw); go_simp; try with_reducible rfl)
  try simp only [Act.put, List.getElem_toArray, List.getElem_cons_zero, List.getElem_cons_succ, List.setIfInBounds_toArray, List.set_cons_zero, List.set_cons_succ]
  refine wpAnyH_ready (rs := [2]) (by kernel_rfl) (by simp) ?_
  refine AllReadyH.cons rfl (fun K hK => ?_) AllReadyH.nil
  go_simp
  refine Calls.mono (HC1.out _ hHeld.1) ?_
  rintro e wn ⟨rfl, hw⟩
  obtain rfl := hw.symm
  try go_wp2_with fail
  refine hK.out _ _ (hHeld) (fun hHeld => ?_)
  clear hK K
  try simp only [Act.put, List.getElem_toArray, List.getElem_cons_zero, List.getElem_cons_succ, List.setIfInBounds_toArray, List.set_cons_zero, List.set_cons_succ]
  refine wpAnyH_ready (rs := [5]) (by kernel_rfl) (by simp) ?_
  refine AllReadyH.cons rfl (fun K hK => ?_) AllReadyH.nil
  go_simp
  refine Calls.mono (HC2.out _ hHeld.2.1) ?_
  rintro e w5 ⟨rfl, hb5⟩
  have HB5 : Hid _ := hHeld.2.2.trans (hb5.mono hHeld.2.2.size)
  have hH5 := (show SlB w5 _ _ ∧ SlB w5 _ _ ∧ Below w.heap.size w w5 from ⟨hHeld.1.below hb5, hHeld.2.1.below hb5, HB5.out⟩)
  have HH5 : Hid _ := hH5
  clear hb5 hH5 hHeld
  try go_wp2_with fail
  refine hK.out _ _ (HH5.out) (fun hHeld => ?_)
  clear hK K
  try simp only [Act.put, List.getElem_toArray, List.getElem_cons_zero, List.getElem_cons_succ, List.setIfInBounds_toArray, List.set_cons_zero, List.set_cons_succ]
  refine wpAnyH_take (i := 6) (v := ?_) rfl (by kernel_rfl) (by kernel_rfl) (by kernel_rfl) (fun _ _ _ h => h) (Or.inl ⟨by rfl, ?_⟩) (by assumption) ?_
  rotate_left
  · (intro W hSw; (try dsimp only at hSw); go_simp; try with_reducible rfl)
  try simp only [Act.put, List.getElem_toArray, List.getElem_cons_zero, List.getElem_cons_succ, List.setIfInBounds_toArray, List.set_cons_zero, List.set_cons_succ]
  refine wpAnyH_take (i := 7) (v := ?_) rfl (by kernel_rfl) (by kernel_rfl) (by kernel_rfl) (fun _ _ _ h => h) (Or.inl ⟨by rfl, ?_⟩) (by assumption) ?_
  rotate_left
  · (intro W hSw; (try dsimp only at hSw); go_simp; try with_reducible rfl)
  try simp only [Act.put, List.getElem_toArray, List.getElem_cons_zero, List.getElem_cons_succ, List.setIfInBounds_toArray, List.set_cons_zero, List.set_cons_succ]
  refine wpAnyH_done (by kernel_rfl) ?_ _
  go_wp2
  refine bodyPost_ret (v := .tuple #[.pointer none, .int .i64 6]) (by simp [results, Try.results41, go_sem]) rfl ⟨rfl, HB5.out⟩

theorem zero_sum : more 0 (List.replicate 508 0) ≠ 0 := by decide +kernel
theorem page_not0 (id lsn : Nat) (l : List Cl) (h : 0 ≤ freeL l) : (pageB id lsn l).all (· == 0) = false := by
  rw [Bool.eq_false_iff]
  intro ha
  have hall : ∀ x ∈ pageB id lsn l, x = 0 := by simpa [List.all_eq_true] using ha
  have hz : pageB id lsn l = List.replicate 512 0 := List.eq_replicate_iff.2 ⟨pageB_length id lsn l h, hall⟩
  have h1 : bodyP id lsn l = List.replicate 508 0 := by rw [← pg_body, hz]; rfl
  have h2 := pg_sum id lsn l
  rw [h1, hz] at h2
  have h3 := congrArg leV h2
  rw [leV_leB] at h3
  have h4 : leV ((List.replicate 512 (0 : UInt8)).take 4) = 0 := by decide +kernel
  rw [h4] at h3
  have := more_lt 0 (List.replicate 508 0)
  have h5 := zero_sum
  omega
theorem page_sum (id lsn : Nat) (l : List Cl) : leV ((pageB id lsn l).take 4) = more 0 (bodyP id lsn l) := by
  rw [pg_sum, leV_leB]
  have := more_lt 0 (bodyP id lsn l)
  omega

set_option maxRecDepth 20000 in
set_option maxHeartbeats 2000000 in
theorem parse_other (g o C id id0 lsn : Nat) (l : List Cl) (w : World) (h : SlB w (some ⟨g, o, none⟩) (pageB id0 lsn l)) (hg : GoodL l) (hC : 512 ≤ C) (hid : id < 16) (hid1 : id0 < 16) (hne : id0 ≠ id) :
    Calls Try.prog 41 #[.int .i64 (id : Int), .slice (some ⟨g, o, none⟩) 512 C] w fun e w' => e = .returned (.tuple #[.pointer none, .int .i64 5]) ∧ Below w.heap.size w w' := by
  have hlen := pageB_length id0 lsn l hg.room
  obtain ⟨sm, hsme⟩ : ∃ sm, sm = more 0 (bodyP id0 lsn l) := ⟨_, rfl⟩
  have hsm : sm < 4294967296 := by rw [hsme]; exact more_lt _ _
  have HS : Hid _ := h
  have HL : Hid ((pageB id0 lsn l).length = 512) := hlen
  have HV : Hid (leV ((pageB id0 lsn l).take 4) = sm) := by rw [hsme]; exact page_sum _ _ _
  have HM : Hid (more 0 ((pageB id0 lsn l).drop 4) = sm) := by rw [hsme, pg_body]; rfl
  have HNo : Hid (Calls Try.prog 72 #[.slice (some ⟨g, o, none⟩) 512 C] w fun e w' => e = .returned (.bool false) ∧ w' = w) := by
    have := noughts_any (some ⟨g, o, none⟩) C (pageB id0 lsn l) w h (by omega)
    rw [page_not0 _ _ _ hg.room, hlen] at this
    exact this
  have hneq : ((sm : Int) != (sm : Int)) = false := by simp
  have HG : Hid _ := hg
  clear h hsme hlen hg
  have HC1 : Hid (∀ W, SlB W (some ⟨g, o, none⟩) ((pageB id0 lsn l).take 4) → Calls Try.prog 73 #[.slice (some ⟨g, o, none⟩) 4 C] W fun e w' => e = .returned (.int .u64 (sm : Int)) ∧ w' = W) := fun W hW => by
    have := number_any g o C ((pageB id0 lsn l).take 4) W hW (by rw [List.length_take, HL.out]; decide)
    rw [HV.out, List.length_take, HL.out] at this
    exact this
  have HC2 : Hid (∀ W, SlB W (some ⟨g, o + 4, none⟩) ((pageB id0 lsn l).drop 4) → Calls Try.prog 46 #[.slice (some ⟨g, o + 4, none⟩) 508 (C - 4)] W fun e w' => e = .returned (.int .u32 ((sm : Nat) : Int)) ∧ Below W.heap.size W w') := fun W hW => by
    have := sum_any (some ⟨g, o + 4, none⟩) (C - 4) ((pageB id0 lsn l).drop 4) W hW (by rw [List.length_drop, HL.out]; decide)
    rw [HM.out, List.length_drop, HL.out] at this
    exact this
  have HSS : Hid (SlB w.drew (some ⟨g, o, none⟩) ((pageB id0 lsn l).take 4) ∧ SlB w.drew (some ⟨g, o + 4, none⟩) ((pageB id0 lsn l).drop 4) ∧ Below w.heap.size w w.drew) := ⟨by have := (HS.out.sub 0 4).drew; simpa using this, by have := (HS.out.sub 4 508).drew; rwa [List.take_of_length_le (by rw [List.length_drop, HL.out]; decide)] at this, (Below.refl _ _).drew⟩
  have c1 : (4 : Int) ≤ (C : Int) := by omega
  have c2 : 4 ≤ C := by omega
  have c3 : ¬ C = 4 := by omega
  have c4 : ¬ C ≤ 4 := by omega
  have hk := known_any (id : Int) w
  rw [show (decide (0 ≤ (id : Int)) && decide ((id : Int) < 16)) = true by simp; omega] at hk
  have hwu : IntKind.u64.wrap (sm : Int) = (sm : Int) := by simp [IntKind.wrap, IntKind.bits, IntKind.signed]; omega
  have HK : Hid _ := hk
  clear hk
  go_enter Try.func41, Try.ntmps41
  go_wp2_with fail
  refine Calls.mono HK.out ?_
  rintro e w1 ⟨rfl, hw⟩
  obtain rfl := hw.symm
  go_wp2_with fail
  refine Calls.mono HNo.out ?_
  rintro e w1 ⟨rfl, hw⟩
  obtain rfl := hw.symm
  go_wp2_with fail
  refine wp_region_held_drew (S := (fun W => SlB W (some ⟨g, o, none⟩) ((pageB id0 lsn l).take 4) ∧ SlB W (some ⟨g, o + 4, none⟩) ((pageB id0 lsn l).drop 4) ∧ Below w.heap.size w W)) (by kernel_rfl) HSS.out (fun hHeld => ?_)
  refine wpAnyH_take (i := 0) (v := ?_) rfl (by kernel_rfl) (by kernel_rfl) (by kernel_rfl) (fun _ _ _ h => h) (Or.inl ⟨by rfl, ?_⟩) (by assumption) ?_
  rotate_left
  · (intro W hSw; (try dsimp only at hSw); go_simp; try with_reducible rfl)
  try simp only [Act.put, List.getElem_toArray, List.getElem_cons_zero, List.setIfInBounds_toArray, List.set_cons_zero, List.set_cons_succ]
  refine wpAnyH_take (i := 1) (v := ?_) rfl (by kernel_rfl) (by kernel_rfl) (by kernel_rfl) (fun _ _ _ h => h) (Or.inl ⟨by rfl, ?_⟩) (by assumption) ?_
  rotate_left
  · (intro W hSw; (try dsimp only at hSw); go_simp; try with_reducible rfl)
  try simp only [Act.put, List.getElem_toArray, List.getElem_cons_zero, List.getElem_cons_succ, List.setIfInBounds_toArray, List.set_cons_zero, List.set_cons_succ]
  refine wpAnyH_take (i := 3) (v := ?_) rfl (by kernel_rfl) (by kernel_rfl) (by kernel_rfl) (fun _ _ _ h => h) (Or.inl ⟨by rfl, ?_⟩) (by assumption) ?_
  rotate_left
  · (intro W hSw; (try dsimp only at hSw); go_simp; try with_reducible rfl)
  try simp only [Act.put, List.getElem_toArray, List.getElem_cons_zero, List.getElem_cons_succ, List.setIfInBounds_toArray, List.set_cons_zero, List.set_cons_succ]
  refine wpAnyH_take (i := 4) (v := ?_) rfl (by kernel_rfl) (by kernel_rfl) (by kernel_rfl) (fun _ _ _ h => h) (Or.inl ⟨by rfl, ?_⟩) (by assumption) ?_
  rotate_left
  · (intro W hSw; (try dsimp only at hSw); go_simp; try with_reducible rfl)
  try simp only [Act.put, List.getElem_toArray, List.getElem_cons_zero, List.getElem_cons_succ, List.setIfInBounds_toArray, List.set_cons_zero, List.set_cons_succ]
  refine wpAnyH_ready (rs := [2]) (by kernel_rfl) (by simp) ?_
  refine AllReadyH.cons rfl (fun K hK => ?_) AllReadyH.nil
  go_simp
  refine Calls.mono (HC1.out _ hHeld.1) ?_
  rintro e wn ⟨rfl, hw⟩
  obtain rfl := hw.symm
  try go_wp2_with fail
  refine hK.out _ _ (hHeld) (fun hHeld => ?_)
  clear hK K
  try simp only [Act.put, List.getElem_toArray, List.getElem_cons_zero, List.getElem_cons_succ, List.setIfInBounds_toArray, List.set_cons_zero, List.set_cons_succ]
  refine wpAnyH_ready (rs := [5]) (by kernel_rfl) (by simp) ?_
  refine AllReadyH.cons rfl (fun K hK => ?_) AllReadyH.nil
  go_simp
  refine Calls.mono (HC2.out _ hHeld.2.1) ?_
  rintro e w5 ⟨rfl, hb5⟩
  have HB5 : Hid _ := hHeld.2.2.trans (hb5.mono hHeld.2.2.size)
  have hH5 := (show SlB w5 _ _ ∧ SlB w5 _ _ ∧ Below w.heap.size w w5 from ⟨hHeld.1.below hb5, hHeld.2.1.below hb5, HB5.out⟩)
  have HH5 : Hid _ := hH5
  clear hb5 hH5 hHeld
  try go_wp2_with fail
  refine hK.out _ _ (HH5.out) (fun hHeld => ?_)
  clear hK K
  try simp only [Act.put, List.getElem_toArray, List.getElem_cons_zero, List.getElem_cons_succ, List.setIfInBounds_toArray, List.set_cons_zero, List.set_cons_succ]
  refine wpAnyH_take (i := 6) (v := ?_) rfl (by kernel_rfl) (by kernel_rfl) (by kernel_rfl) (fun _ _ _ h => h) (Or.inl ⟨by rfl, ?_⟩) (by assumption) ?_
  rotate_left
  · (intro W hSw; (try dsimp only at hSw); go_simp; try with_reducible rfl)
  try simp only [Act.put, List.getElem_toArray, List.getElem_cons_zero, List.getElem_cons_succ, List.setIfInBounds_toArray, List.set_cons_zero, List.set_cons_succ]
  refine wpAnyH_take (i := 7) (v := ?_) rfl (by kernel_rfl) (by kernel_rfl) (by kernel_rfl) (fun _ _ _ h => h) (Or.inl ⟨by rfl, ?_⟩) (by assumption) ?_
  rotate_left
  · (intro W hSw; (try dsimp only at hSw); go_simp; try with_reducible rfl)
  try simp only [Act.put, List.getElem_toArray, List.getElem_cons_zero, List.getElem_cons_succ, List.setIfInBounds_toArray, List.set_cons_zero, List.set_cons_succ]
  refine wpAnyH_done (by kernel_rfl) ?_ _
  have d1 : (14 : Int) ≤ (C : Int) := by omega
  have d2 : ¬ C = 12 := by omega
  have d3 : ¬ C ≤ 12 := by omega
  have d4 : 14 ≤ C := by omega
  have HSO : Hid _ := slotsOf_page g o C id0 lsn l w5 (HS.out.below HB5.out) HG.out hC
  clear hneq c1 c2 c3 c4 HC1 HC2 HSS HNo HK
  go_wp2_with fail
  refine Calls.mono HSO.out ?_
  rintro e w6 ⟨v, rfl, hown, hb6⟩
  obtain ⟨av, cv, rfl⟩ := ownsRow_shape hown
  have HO6 : Hid _ := hown
  have HB6 : Hid (Below w.heap.size w w6) := HB5.out.trans (hb6.mono HB5.out.size)
  have hsz : w.heap.size ≤ w5.heap.size := HB5.out.size
  have hid0 : id0 < 65536 := by omega
  have HNI : Hid (Calls Try.prog 73 #[.slice (some ⟨g, o + 12, none⟩) 2 (C - 12)] w6 fun e w' => e = .returned (.int .u64 ((id0 : Nat) : Int)) ∧ w' = w6) := by
    have hsub := (HS.out.below HB6.out).sub 12 2
    rw [pg_id] at hsub
    have := number_any g (o + 12) (C - 12) _ w6 hsub (by rw [leB_length]; decide)
    rw [leV_leB, leB_length] at this
    rw [show id0 % 256 ^ 2 = id0 by omega] at this
    exact this
  clear hb6 hown HSO
  go_wp2_with fail
  refine Calls.mono HNI.out ?_
  rintro e w7 ⟨rfl, hw⟩
  obtain rfl := hw.symm
  have hn1 : (((id0 : Nat) : Int) != ((id : Nat) : Int)) = true := by simp; omega
  have hwi : IntKind.u64.wrap (id : Int) = (id : Int) := by simp [IntKind.wrap, IntKind.bits, IntKind.signed]; omega
  go_wp2
  refine bodyPost_ret (v := .tuple #[.pointer none, .int .i64 5]) (by simp [results, Try.results41, go_sem]) rfl ⟨rfl, HB6.out⟩

set_option maxRecDepth 20000 in
set_option maxHeartbeats 2000000 in
theorem parse_own (g o C id lsn : Nat) (l : List Cl) (w : World) (h : SlB w (some ⟨g, o, none⟩) (pageB id lsn l)) (hg : GoodL l) (hC : 512 ≤ C) (hid : id < 16) (hlsn : lsn < 18446744073709551616) :
    Calls Try.prog 41 #[.int .i64 (id : Int), .slice (some ⟨g, o, none⟩) 512 C] w fun e w' => ∃ p v, e = .returned (.tuple #[.pointer (some ⟨p, 0, none⟩), .int .i64 0]) ∧ PgOk w' w.heap.size p (id : Int) lsn v l ∧ Below w.heap.size w w' := by
  have hlen := pageB_length id lsn l hg.room
  obtain ⟨sm, hsme⟩ : ∃ sm, sm = more 0 (bodyP id lsn l) := ⟨_, rfl⟩
  have hsm : sm < 4294967296 := by rw [hsme]; exact more_lt _ _
  have HS : Hid _ := h
  have HL : Hid ((pageB id lsn l).length = 512) := hlen
  have HV : Hid (leV ((pageB id lsn l).take 4) = sm) := by rw [hsme]; exact page_sum _ _ _
  have HM : Hid (more 0 ((pageB id lsn l).drop 4) = sm) := by rw [hsme, pg_body]; rfl
  have HNo : Hid (Calls Try.prog 72 #[.slice (some ⟨g, o, none⟩) 512 C] w fun e w' => e = .returned (.bool false) ∧ w' = w) := by
    have := noughts_any (some ⟨g, o, none⟩) C (pageB id lsn l) w h (by omega)
    rw [page_not0 _ _ _ hg.room, hlen] at this
    exact this
  have hneq : ((sm : Int) != (sm : Int)) = false := by simp
  have HG : Hid _ := hg
  clear h hsme hlen hg
  have HC1 : Hid (∀ W, SlB W (some ⟨g, o, none⟩) ((pageB id lsn l).take 4) → Calls Try.prog 73 #[.slice (some ⟨g, o, none⟩) 4 C] W fun e w' => e = .returned (.int .u64 (sm : Int)) ∧ w' = W) := fun W hW => by
    have := number_any g o C ((pageB id lsn l).take 4) W hW (by rw [List.length_take, HL.out]; decide)
    rw [HV.out, List.length_take, HL.out] at this
    exact this
  have HC2 : Hid (∀ W, SlB W (some ⟨g, o + 4, none⟩) ((pageB id lsn l).drop 4) → Calls Try.prog 46 #[.slice (some ⟨g, o + 4, none⟩) 508 (C - 4)] W fun e w' => e = .returned (.int .u32 ((sm : Nat) : Int)) ∧ Below W.heap.size W w') := fun W hW => by
    have := sum_any (some ⟨g, o + 4, none⟩) (C - 4) ((pageB id lsn l).drop 4) W hW (by rw [List.length_drop, HL.out]; decide)
    rw [HM.out, List.length_drop, HL.out] at this
    exact this
  have HSS : Hid (SlB w.drew (some ⟨g, o, none⟩) ((pageB id lsn l).take 4) ∧ SlB w.drew (some ⟨g, o + 4, none⟩) ((pageB id lsn l).drop 4) ∧ Below w.heap.size w w.drew) := ⟨by have := (HS.out.sub 0 4).drew; simpa using this, by have := (HS.out.sub 4 508).drew; rwa [List.take_of_length_le (by rw [List.length_drop, HL.out]; decide)] at this, (Below.refl _ _).drew⟩
  have c1 : (4 : Int) ≤ (C : Int) := by omega
  have c2 : 4 ≤ C := by omega
  have c3 : ¬ C = 4 := by omega
  have c4 : ¬ C ≤ 4 := by omega
  have hk := known_any (id : Int) w
  rw [show (decide (0 ≤ (id : Int)) && decide ((id : Int) < 16)) = true by simp; omega] at hk
  have hwu : IntKind.u64.wrap (sm : Int) = (sm : Int) := by simp [IntKind.wrap, IntKind.bits, IntKind.signed]; omega
  have HK : Hid _ := hk
  clear hk
  go_enter Try.func41, Try.ntmps41
  go_wp2_with fail
  refine Calls.mono HK.out ?_
  rintro e w1 ⟨rfl, hw⟩
  obtain rfl := hw.symm
  go_wp2_with fail
  refine Calls.mono HNo.out ?_
  rintro e w1 ⟨rfl, hw⟩
  obtain rfl := hw.symm
  go_wp2_with fail
  refine wp_region_held_drew (S := (fun W => SlB W (some ⟨g, o, none⟩) ((pageB id lsn l).take 4) ∧ SlB W (some ⟨g, o + 4, none⟩) ((pageB id lsn l).drop 4) ∧ Below w.heap.size w W)) (by kernel_rfl) HSS.out (fun hHeld => ?_)
  refine wpAnyH_take (i := 0) (v := ?_) rfl (by kernel_rfl) (by kernel_rfl) (by kernel_rfl) (fun _ _ _ h => h) (Or.inl ⟨by rfl, ?_⟩) (by assumption) ?_
  rotate_left
  · (intro W hSw; (try dsimp only at hSw); go_simp; try with_reducible rfl)
  try simp only [Act.put, List.getElem_toArray, List.getElem_cons_zero, List.setIfInBounds_toArray, List.set_cons_zero, List.set_cons_succ]
  refine wpAnyH_take (i := 1) (v := ?_) rfl (by kernel_rfl) (by kernel_rfl) (by kernel_rfl) (fun _ _ _ h => h) (Or.inl ⟨by rfl, ?_⟩) (by assumption) ?_
  rotate_left
  · (intro W hSw; (try dsimp only at hSw); go_simp; try with_reducible rfl)
  try simp only [Act.put, List.getElem_toArray, List.getElem_cons_zero, List.getElem_cons_succ, List.setIfInBounds_toArray, List.set_cons_zero, List.set_cons_succ]
  refine wpAnyH_take (i := 3) (v := ?_) rfl (by kernel_rfl) (by kernel_rfl) (by kernel_rfl) (fun _ _ _ h => h) (Or.inl ⟨by rfl, ?_⟩) (by assumption) ?_
  rotate_left
  · (intro W hSw; (try dsimp only at hSw); go_simp; try with_reducible rfl)
  try simp only [Act.put, List.getElem_toArray, List.getElem_cons_zero, List.getElem_cons_succ, List.setIfInBounds_toArray, List.set_cons_zero, List.set_cons_succ]
  refine wpAnyH_take (i := 4) (v := ?_) rfl (by kernel_rfl) (by kernel_rfl) (by kernel_rfl) (fun _ _ _ h => h) (Or.inl ⟨by rfl, ?_⟩) (by assumption) ?_
  rotate_left
  · (intro W hSw; (try dsimp only at hSw); go_simp; try with_reducible rfl)
  try simp only [Act.put, List.getElem_toArray, List.getElem_cons_zero, List.getElem_cons_succ, List.setIfInBounds_toArray, List.set_cons_zero, List.set_cons_succ]
  refine wpAnyH_ready (rs := [2]) (by kernel_rfl) (by simp) ?_
  refine AllReadyH.cons rfl (fun K hK => ?_) AllReadyH.nil
  go_simp
  refine Calls.mono (HC1.out _ hHeld.1) ?_
  rintro e wn ⟨rfl, hw⟩
  obtain rfl := hw.symm
  try go_wp2_with fail
  refine hK.out _ _ (hHeld) (fun hHeld => ?_)
  clear hK K
  try simp only [Act.put, List.getElem_toArray, List.getElem_cons_zero, List.getElem_cons_succ, List.setIfInBounds_toArray, List.set_cons_zero, List.set_cons_succ]
  refine wpAnyH_ready (rs := [5]) (by kernel_rfl) (by simp) ?_
  refine AllReadyH.cons rfl (fun K hK => ?_) AllReadyH.nil
  go_simp
  refine Calls.mono (HC2.out _ hHeld.2.1) ?_
  rintro e w5 ⟨rfl, hb5⟩
  have HB5 : Hid _ := hHeld.2.2.trans (hb5.mono hHeld.2.2.size)
  have hH5 := (show SlB w5 _ _ ∧ SlB w5 _ _ ∧ Below w.heap.size w w5 from ⟨hHeld.1.below hb5, hHeld.2.1.below hb5, HB5.out⟩)
  have HH5 : Hid _ := hH5
  clear hb5 hH5 hHeld
  try go_wp2_with fail
  refine hK.out _ _ (HH5.out) (fun hHeld => ?_)
  clear hK K
  try simp only [Act.put, List.getElem_toArray, List.getElem_cons_zero, List.getElem_cons_succ, List.setIfInBounds_toArray, List.set_cons_zero, List.set_cons_succ]
  refine wpAnyH_take (i := 6) (v := ?_) rfl (by kernel_rfl) (by kernel_rfl) (by kernel_rfl) (fun _ _ _ h => h) (Or.inl ⟨by rfl, ?_⟩) (by assumption) ?_
  rotate_left
  · (intro W hSw; (try dsimp only at hSw); go_simp; try with_reducible rfl)
  try simp only [Act.put, List.getElem_toArray, List.getElem_cons_zero, List.getElem_cons_succ, List.setIfInBounds_toArray, List.set_cons_zero, List.set_cons_succ]
  refine wpAnyH_take (i := 7) (v := ?_) rfl (by kernel_rfl) (by kernel_rfl) (by kernel_rfl) (fun _ _ _ h => h) (Or.inl ⟨by rfl, ?_⟩) (by assumption) ?_
  rotate_left
  · (intro W hSw; (try dsimp only at hSw); go_simp; try with_reducible rfl)
  try simp only [Act.put, List.getElem_toArray, List.getElem_cons_zero, List.getElem_cons_succ, List.setIfInBounds_toArray, List.set_cons_zero, List.set_cons_succ]
  refine wpAnyH_done (by kernel_rfl) ?_ _
  have d1 : (14 : Int) ≤ (C : Int) := by omega
  have d2 : ¬ C = 12 := by omega
  have d3 : ¬ C ≤ 12 := by omega
  have d4 : 14 ≤ C := by omega
  have HSO : Hid _ := slotsOf_page g o C id lsn l w5 (HS.out.below HB5.out) HG.out hC
  clear hneq c1 c2 c3 c4 HC1 HC2 HSS HNo HK
  go_wp2_with fail
  refine Calls.mono HSO.out ?_
  rintro e w6 ⟨v, rfl, hown, hb6⟩
  obtain ⟨av, cv, rfl⟩ := ownsRow_shape hown
  have HO6 : Hid _ := hown
  have HB6 : Hid (Below w.heap.size w w6) := HB5.out.trans (hb6.mono HB5.out.size)
  have hsz : w.heap.size ≤ w5.heap.size := HB5.out.size
  have hid0 : id < 65536 := by omega
  have HNI : Hid (Calls Try.prog 73 #[.slice (some ⟨g, o + 12, none⟩) 2 (C - 12)] w6 fun e w' => e = .returned (.int .u64 ((id : Nat) : Int)) ∧ w' = w6) := by
    have hsub := (HS.out.below HB6.out).sub 12 2
    rw [pg_id] at hsub
    have := number_any g (o + 12) (C - 12) _ w6 hsub (by rw [leB_length]; decide)
    rw [leV_leB, leB_length] at this
    rw [show id % 256 ^ 2 = id by omega] at this
    exact this
  clear hb6 hown HSO
  go_wp2_with fail
  refine Calls.mono HNI.out ?_
  rintro e w7 ⟨rfl, hw⟩
  obtain rfl := hw.symm
  have hn1 : (((id : Nat) : Int) != ((id : Nat) : Int)) = false := by simp
  have hwi : IntKind.u64.wrap (id : Int) = (id : Int) := by simp [IntKind.wrap, IntKind.bits, IntKind.signed]; omega
  have e1 : (12 : Int) ≤ (C : Int) := by omega
  have e2 : ¬ C = 4 := by omega
  have e3 : ¬ C ≤ 4 := by omega
  have HNL : Hid (Calls Try.prog 73 #[.slice (some ⟨g, o + 4, none⟩) 8 (C - 4)] w6 fun e w' => e = .returned (.int .u64 (lsn : Int)) ∧ w' = w6) := by
    have hsub := (HS.out.below HB6.out).sub 4 8
    rw [pg_lsn] at hsub
    have := number_any g (o + 4) (C - 4) _ w6 hsub (by rw [leB_length]; decide)
    rw [leV_leB, leB_length] at this
    rw [show lsn % 256 ^ 8 = lsn by omega] at this
    exact this
  go_wp2_with fail
  refine Calls.mono HNL.out ?_
  rintro e w7 ⟨rfl, hw⟩
  obtain rfl := hw.symm
  go_wp2
  refine bodyPost_ret (v := .tuple #[.pointer (some ⟨w6.heap.size, 0, none⟩), .int .i64 0]) (by simp [results, Try.results41, go_sem]) rfl ⟨_, _, rfl, ⟨heap_alloc_new _ _, (ownsRow_base HO6.out hsz).alloc _, fun q => ?_, HB6.out.size⟩, HB6.out.alloc HB6.out.size _⟩
  have := ownsRow_lt HO6.out _ q
  omega

end Go.Proofs.Ytcloinonhpaojaa
