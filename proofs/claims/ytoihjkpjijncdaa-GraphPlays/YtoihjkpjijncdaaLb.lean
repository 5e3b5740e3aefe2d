/-
  The chapter's example; two rings of one thing are one list.
-/
import Derived.Test.YtoihjkpjijncdaaLa
namespace Go.Proofs.Ytoihjkpjijncdaa
open Go.RowKit Go.Maps

theorem rise_eq : ∀ {l m : List Int}, l.Pairwise (· < ·) → m.Pairwise (· < ·) → (∀ x, x ∈ l ↔ x ∈ m) → l = m
  | [], [], _, _, _ => rfl
  | [], b :: s, _, _, h => by have := (h b).2 (by simp); simp at this
  | a :: r, [], _, _, h => by have := (h a).1 (by simp); simp at this
  | a :: r, b :: s, h1, h2, h => by
    obtain ⟨a1, a2⟩ := List.pairwise_cons.1 h1
    obtain ⟨b1, b2⟩ := List.pairwise_cons.1 h2
    have hab : a = b := by
      rcases List.mem_cons.1 ((h a).1 (by simp)) with e | ha
      · exact e
      · rcases List.mem_cons.1 ((h b).2 (by simp)) with e | hb
        · exact e.symm
        · have := a1 b hb
          have := b1 a ha
          omega
    subst hab
    rw [rise_eq a2 b2 (fun p => ⟨fun hp => by
      rcases List.mem_cons.1 ((h p).1 (by simp [hp])) with e | hp'
      · have := a1 p hp; omega
      · exact hp', fun hp => by
      rcases List.mem_cons.1 ((h p).2 (by simp [hp])) with e | hp'
      · have := b1 p hp; omega
      · exact hp'⟩)]
theorem rise_of {l : List Int} (h : l.Pairwise (· ≤ ·)) (hn : l.Nodup) : l.Pairwise (· < ·) := by
  refine (h.and hn).imp ?_
  intro a b ⟨h1, h2⟩
  omega
theorem IsRingI.rise {E : List (Lit × Lit)} {a : Lit} {R : List Int} (h : IsRingI E a R) : R.Pairwise (· < ·) := rise_of h.srt h.nd
/-- A ring is told by who is in it. -/
theorem IsRingI.eq {E E' : List (Lit × Lit)} {a a' : Lit} {R R' : List Int} (h : IsRingI E a R) (h' : IsRingI E' a' R') (e : ∀ z, (Lds (outE E) a (liI z) ∧ Lds (outE E) (liI z) a) ↔ (Lds (outE E') a' (liI z) ∧ Lds (outE E') (liI z) a')) : R = R' :=
  rise_eq h.rise h'.rise fun x => by rw [h.mem, h'.mem, e]

def ex4 : List (Int × Int) := [(1, 2), (2, 3), (3, 1), (3, 4)]
theorem ex4_made : madeE ex4 60 = [(liI 1, liI 2), (liI 2, liI 3), (liI 3, liI 1), (liI 3, liI 4)] := by
  simp [madeE, ex4, addE, leE, liI]
theorem ex4_out (x y : Lit) : outE (madeE ex4 60) x y = true ↔ (x = liI 1 ∧ y = liI 2) ∨ (x = liI 2 ∧ y = liI 3) ∨ (x = liI 3 ∧ y = liI 1) ∨ (x = liI 3 ∧ y = liI 4) := by
  rw [ex4_made]
  simp [outE]
theorem ex4_four {y : Lit} : ¬ Lds (outE (madeE ex4 60)) (liI 4) y := by
  intro h
  induction h with
  | one e => rw [ex4_out] at e; simp [liI] at e
  | more _ _ ih => exact ih
theorem ex4_to {x y : Lit} (h : Lds (outE (madeE ex4 60)) x y) : y = liI 1 ∨ y = liI 2 ∨ y = liI 3 ∨ y = liI 4 := by
  cases h with
  | one e => rw [ex4_out] at e; rcases e with ⟨_, h⟩ | ⟨_, h⟩ | ⟨_, h⟩ | ⟨_, h⟩ <;> simp [h]
  | more _ e => rw [ex4_out] at e; rcases e with ⟨_, h⟩ | ⟨_, h⟩ | ⟨_, h⟩ | ⟨_, h⟩ <;> simp [h]
theorem ex4_12 : Lds (outE (madeE ex4 60)) (liI 1) (liI 2) := .one ((ex4_out _ _).2 (.inl ⟨rfl, rfl⟩))
theorem ex4_23 : Lds (outE (madeE ex4 60)) (liI 2) (liI 3) := .one ((ex4_out _ _).2 (.inr (.inl ⟨rfl, rfl⟩)))
theorem ex4_31 : Lds (outE (madeE ex4 60)) (liI 3) (liI 1) := .one ((ex4_out _ _).2 (.inr (.inr (.inl ⟨rfl, rfl⟩))))
theorem ex4_mem {a : Int} (ha : a = 1 ∨ a = 2) (z : Int) : (Lds (outE (madeE ex4 60)) (liI a) (liI z) ∧ Lds (outE (madeE ex4 60)) (liI z) (liI a)) ↔ z ∈ [1, 2, 3] := by
  have h13 := ex4_12.trans ex4_23
  have h21 := ex4_23.trans ex4_31
  have h32 := ex4_31.trans ex4_12
  have h11 := ex4_12.trans h21
  have h22 := h21.trans ex4_12
  constructor
  · rintro ⟨h1, h2⟩
    rcases ex4_to h1 with h | h | h | h
    · cases h; simp
    · cases h; simp
    · cases h; simp
    · rw [h] at h2; exact absurd h2 ex4_four
  · intro h
    simp at h
    rcases ha with rfl | rfl <;> rcases h with rfl | rfl | rfl
    · exact ⟨h11, h11⟩
    · exact ⟨ex4_12, h21⟩
    · exact ⟨h13, ex4_31⟩
    · exact ⟨h21, ex4_12⟩
    · exact ⟨h22, h22⟩
    · exact ⟨ex4_23, h32⟩
theorem ex4_ring {a : Int} (ha : a = 1 ∨ a = 2) {R : List Int} (h : IsRingI (madeE ex4 60) (liI a) R) : R = [1, 2, 3] :=
  rise_eq h.rise (by decide) fun x => by rw [h.mem, ex4_mem ha]
theorem ex4_ring4 {R : List Int} (h : IsRingI (madeE ex4 60) (liI 4) R) : R = [] := by
  cases R with
  | nil => rfl
  | cons x r => exact absurd ((h.mem x).1 (by simp)).1 ex4_four

theorem row3 (w : World) : RowI (w.alloc (.cells #[.int .i64 1, .int .i64 2, .int .i64 3] 3)) (some ⟨w.heap.size, 0, none⟩) [1, 2, 3] := by
  have hblk := (MapKept.heap_alloc w (.cells #[.int .i64 1, .int .i64 2, .int .i64 3] 3)).1
  refine .inr ⟨w.heap.size, rfl, fun j hj => ?_⟩
  have : j = 0 ∨ j = 1 ∨ j = 2 := by simp at hj; omega
  rcases this with rfl | rfl | rfl <;> (unfold World.cell?; rw [hblk]; rfl)

set_option maxRecDepth 100000 in
set_option maxHeartbeats 2000000 in
theorem lives18 (w : World) : Calls Try.prog 18 #[] w fun e w' => e = .returned (.bool true) ∧ Below w.heap.size w w' := by
  obtain ⟨W0, hW0⟩ : ∃ W0, W0 = w.alloc (.cells #[.int .i64 1, .int .i64 2, .int .i64 2, .int .i64 3, .int .i64 3, .int .i64 1, .int .i64 3, .int .i64 4] 27) := ⟨_, rfl⟩
  have hblk : W0.heap[w.heap.size]? = some (.cells #[.int .i64 1, .int .i64 2, .int .i64 2, .int .i64 3, .int .i64 3, .int .i64 1, .int .i64 3, .int .i64 4] 27) := by rw [hW0]; exact (MapKept.heap_alloc _ _).1
  have HL : Hid (SlE W0 (some ⟨w.heap.size, 0, none⟩) ex4) := ⟨fun j hj => ⟨w.heap.size, 0, rfl, by
      have : j = 0 ∨ j = 1 ∨ j = 2 ∨ j = 3 := by simp [ex4] at hj; omega
      rcases this with rfl | rfl | rfl | rfl <;> simp [World.cell?, hblk, ex4], by
      have : j = 0 ∨ j = 1 ∨ j = 2 ∨ j = 3 := by simp [ex4] at hj; omega
      rcases this with rfl | rfl | rfl | rfl <;> simp [World.cell?, hblk, ex4]⟩, fun e he => by
      simp [ex4] at he
      rcases he with rfl | rfl | rfl | rfl <;> exact ⟨by decide, by decide⟩⟩
  have HB0 : Hid (Below w.heap.size w W0) := by rw [hW0]; exact (Below.refl _ _).alloc (Nat.le_refl _) _
  have hs0 : w.heap.size ≤ W0.heap.size := HB0.out.size
  have hsize : ex4.length = 4 := rfl
  clear hblk
  have HM := toHid (made19 (c := 4) HL.out)
  rw [hsize] at HM
  rw [hW0] at HM
  have HW0 := toHid hW0
  clear hW0 hsize hs0
  go_enter Try.func18, Try.ntmps18
  go_wp2_with fail
  refine HM.out.mono ?_
  rw [← HW0.out]
  rintro e w1 ⟨p, S, rfl, hM⟩
  have HG1 := toHid hM.gr
  have HB1 := toHid (below_next HB0.out HB0.out.size hM.low)
  clear hM
  have hE : (madeE ex4 60).length = 4 := by rw [ex4_made]; rfl
  have hk1 := keyI (x := 1) (by decide)
  have hk2 := keyI (x := 2) (by decide)
  have hk4 := keyI (x := 4) (by decide)
  go_wp2_with fail
  refine (victim23 HG1.out hk2 (by omega)).mono ?_
  rintro e w2 ⟨R2, rfl, hR2, hb2⟩
  obtain rfl := ex4_ring (.inr rfl) hR2
  have HG2 := toHid (HG1.out.below hb2)
  have HB2 := toHid (below_next HB1.out HB1.out.size hb2)
  clear hR2 hb2
  simp only [List.getLastD_cons, List.isEmpty_cons, Bool.not_false]
  go_wp2_with (first
    | (go_at_call 21; have _t := hk1; refine (ringI HG2.out hk1 (by omega)).mono ?_; rintro e w3 ⟨va, vc, R3, rfl, hr3, hb3, hR3, hl3⟩; obtain rfl := ex4_ring (.inl rfl) hR3; have HG3 := toHid (HG2.out.below hb3); have HB3 := toHid (below_next HB2.out HB2.out.size hb3); have HR3 := toHid ((RowI.of hr3).below ((Below.refl _ _).alloc (Nat.le_refl _) (.cells #[.int .i64 1, .int .i64 2, .int .i64 3] 3))); have HR4 := toHid (row3 w3); have HG4 := toHid (HG3.out.below ((Below.refl _ _).alloc (Nat.le_refl _) (.cells #[.int .i64 1, .int .i64 2, .int .i64 3] 3))); have HB4 := toHid (below_next HB3.out HB3.out.size ((Below.refl _ _).alloc (Nat.le_refl _) (.cells #[.int .i64 1, .int .i64 2, .int .i64 3] 3))); clear hr3 hb3 hR3 hk1)
    | (go_at_call 24; refine (same24 (l := [1, 2, 3]) (m := [1, 2, 3]) HR3.out HR4.out (by decide) (by decide)).mono ?_; rintro e w5 ⟨rfl, hb5⟩; rw [decide_eq_true rfl]; have HG5 := toHid (HG4.out.below hb5); have HB5 := toHid (below_next HB4.out HB4.out.size hb5); clear hb5)
    | (go_at_call 21; refine (ringI HG5.out hk4 (by omega)).mono ?_; rintro e w6 ⟨vd, ve, R6, rfl, hr6, hb6, hR6, hl6⟩; obtain rfl := ex4_ring4 hR6; have HG6 := toHid (HG5.out.below hb6); have HB6 := toHid (below_next HB5.out HB5.out.size hb6); clear hr6 hb6 hR6)
    | (go_at_call 16; refine (lenI HG6.out).mono ?_; rintro e w7 ⟨rfl, hw7⟩; subst w7; rw [hE])
    | fail)
  go_ret
  exact ⟨rfl, HB6.out⟩

end Go.Proofs.Ytoihjkpjijncdaa
