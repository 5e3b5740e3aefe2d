/-
  At: where a page is; place: where one is that must be there.
-/
import Derived.Test.YtcloinonhpaojaaFb
namespace Go.Proofs.Ytcloinonhpaojaa.Ck
open Go.RowKit

theorem check_yes (a : Option Addr) (c : Nat) (r : Rg) (w : World) (h : SlF w a r.fr) (hM : MayR r) :
    Calls Try.prog 58 #[rgV a c r] w fun e w' => e = .returned (.int .i64 0) ∧ Below w.heap.size w w' :=
  (check_any a c r w h (by have := hM.most; unfold maxLen; omega)).mono (by rintro e w' ⟨rfl, hb⟩; exact ⟨by rw [chkI_yes hM], hb⟩)
theorem check_no (a : Option Addr) (c : Nat) (r : Rg) (w : World) (h : SlF w a r.fr) (hl : r.fr.length ≤ maxLen) (hM : ¬ MayR r) :
    Calls Try.prog 58 #[rgV a c r] w fun e w' => e = .returned (.int .i64 1) ∧ Below w.heap.size w w' :=
  (check_any a c r w h hl).mono (by rintro e w' ⟨rfl, hb⟩; exact ⟨by rw [chkI_no hM], hb⟩)
theorem known_yes (p : Int) (w : World) (h : knownB p = true) : Calls Try.prog 59 #[.int .i64 p] w fun e w' => e = .returned (.bool true) ∧ w' = w :=
  (known_any p w).mono (by rintro e w' ⟨rfl, hb⟩; exact ⟨by rw [h], hb⟩)
theorem known_no (p : Int) (w : World) (h : knownB p = false) : Calls Try.prog 59 #[.int .i64 p] w fun e w' => e = .returned (.bool false) ∧ w' = w :=
  (known_any p w).mono (by rintro e w' ⟨rfl, hb⟩; exact ⟨by rw [h], hb⟩)

theorem atR_no {r : Rg} {p : Int} (h : ¬ MayR r) : atR r p = -1 := by simp [atR, mayB_false.2 h]
theorem atR_un {r : Rg} {p : Int} (h : knownB p = false) : atR r p = -1 := by simp [atR, h]
theorem atR_yes {r : Rg} {p : Int} (h : MayR r) (hk : knownB p = true) : atR r p = firI r.fr p := by simp [atR, hk, mayB_true.2 h]

set_option maxHeartbeats 1000000 in
theorem at_any (a : Option Addr) (c : Nat) (r : Rg) (p : Int) (w : World) (h : SlF w a r.fr) (hl : r.fr.length ≤ maxLen) :
    Calls Try.prog 54 #[rgV a c r, .int .i64 p] w fun e w' => e = .returned (.int .i64 (atR r p)) ∧ Below w.heap.size w w' := by
  have hB0 := (Below.refl w.heap.size w).alloc (Nat.le_refl _) (.cells #[.slice a r.fr.length c, .int .i64 r.hand] 36)
  have hs0 := h.below hB0
  by_cases hM : MayR r
  · have hM16 := hM.most
    go_enter Try.func54, Try.ntmps54
    go_wp2_with fail
    refine Calls.mono (check_yes a c r _ hs0 hM) ?_
    rintro e w1 ⟨rfl, hb1⟩
    have hk1 := box_in hb1
    have hB1 := below_on hB0 hb1
    have hs1 := hs0.below hb1
    clear hB0 hs0 hb1
    cases hk : knownB p
    · go_wp2_with fail
      refine Calls.mono (known_no p _ hk) ?_
      rintro e w' ⟨rfl, hw⟩
      obtain rfl := hw.symm
      go_wp2
      go_ret
      exact ⟨by rw [atR_un hk]; rfl, hB1⟩
    · go_wp2_with fail
      refine Calls.mono (known_yes p _ hk) ?_
      rintro e w' ⟨rfl, hw⟩
      obtain rfl := hw.symm
      obtain ⟨q0, q1, f0, f1, hz⟩ := cell2 hk1
      clear hk1
      go_wp2_with fail
      refine Calls.mono (first_any a c r.fr p _ hs1 (by omega)) ?_
      rintro e w2 ⟨rfl, hb2⟩
      have hB2 := below_on hB1 hb2
      clear hB1 hs1 hb2
      go_wp2
      go_ret
      exact ⟨by rw [atR_yes hM hk]; rfl, hB2⟩
  · go_enter Try.func54, Try.ntmps54
    go_wp2_with fail
    refine Calls.mono (check_no a c r _ hs0 hl hM) ?_
    rintro e w1 ⟨rfl, hb1⟩
    have hB1 := below_on hB0 hb1
    clear hB0 hs0 hb1
    go_wp2
    go_ret
    exact ⟨by rw [atR_no hM]; rfl, hB1⟩

theorem placeR_no {r : Rg} {p : Int} (h : ¬ MayR r) : placeR r p = (0, 1) := by simp [placeR, mayB_false.2 h]
theorem placeR_none {r : Rg} {p : Int} (h : MayR r) (hk : atR r p = -1) : placeR r p = (0, 8) := by simp [placeR, mayB_true.2 h, hk]
theorem placeR_yes {r : Rg} {p : Int} (h : MayR r) (hk : atR r p ≠ -1) : placeR r p = (atR r p, 0) := by simp [placeR, mayB_true.2 h, hk]

set_option maxHeartbeats 1000000 in
theorem place_any (a : Option Addr) (c : Nat) (r : Rg) (p : Int) (w : World) (h : SlF w a r.fr) (hl : r.fr.length ≤ maxLen) :
    Calls Try.prog 63 #[rgV a c r, .int .i64 p] w fun e w' => e = .returned (.tuple #[.int .i64 (placeR r p).1, .int .i64 (placeR r p).2]) ∧ Below w.heap.size w w' := by
  have hB0 := (Below.refl w.heap.size w).alloc (Nat.le_refl _) (.cells #[.slice a r.fr.length c, .int .i64 r.hand] 36)
  have hs0 := h.below hB0
  by_cases hM : MayR r
  · go_enter Try.func63, Try.ntmps63
    go_wp2_with fail
    refine Calls.mono (check_yes a c r _ hs0 hM) ?_
    rintro e w1 ⟨rfl, hb1⟩
    have hk1 := box_in hb1
    have hB1 := below_on hB0 hb1
    have hs1 := hs0.below hb1
    clear hB0 hs0 hb1
    obtain ⟨q0, q1, f0, f1, hz⟩ := cell2 hk1
    clear hk1
    go_wp2_with fail
    refine Calls.mono (at_any a c r p _ hs1 hl) ?_
    rintro e w2 ⟨rfl, hb2⟩
    have hB2 := below_on hB1 hb2
    clear hB1 hs1 hb2
    by_cases hp : atR r p = -1
    · have HP := toHid hp
      rw [hp]
      clear hp
      go_wp2
      go_ret2
      exact ⟨by rw [placeR_none hM HP.out]; rfl, hB2⟩
    · have HE := toHid (placeR_yes hM hp)
      obtain ⟨x, hx⟩ : ∃ x, Hid (x = atR r p) := ⟨_, toHid rfl⟩
      rw [← hx.out] at hp HE ⊢
      go_wp2
      go_ret2
      exact ⟨by rw [HE.out]; rfl, hB2⟩
  · go_enter Try.func63, Try.ntmps63
    go_wp2_with fail
    refine Calls.mono (check_no a c r _ hs0 hl hM) ?_
    rintro e w1 ⟨rfl, hb1⟩
    have hB1 := below_on hB0 hb1
    clear hB0 hs0 hb1
    go_wp2
    go_ret2
    exact ⟨by rw [placeR_no hM]; rfl, hB1⟩
end Go.Proofs.Ytcloinonhpaojaa.Ck
