/-
  The walk of ActTurns.
-/
import Derived.Test.YtamkfcdehkdcpaaAf
namespace Go.Proofs.Ytamkfcdehkdcpaa
open Go.RowKit

set_option maxRecDepth 20000 in
set_option maxHeartbeats 4000000 in
theorem walkTurns (a : Ac) (w : World) : Calls Try.prog 4 #[actV a] w fun e w' => e = .returned (.bool true) ∧ Below w.heap.size w w' := by
  obtain ⟨k, x, y, z⟩ := a
  have HS := (show Hid _ from short_any ⟨k, x, y, z⟩)
  have HT := (show Hid _ from turn_any ⟨k, x, y, z⟩)
  have HB0 : Hid (Below w.heap.size w (w.alloc (.cells (actC ⟨k, x, y, z⟩) 35))) := (Below.refl _ _).alloc (Nat.le_refl _) _
  obtain ⟨tk, tx, ty, tz, he⟩ : ∃ tk tx ty tz, turnA ⟨k, x, y, z⟩ = ⟨tk, tx, ty, tz⟩ := ⟨_, _, _, _, rfl⟩
  have HE := (show Hid _ from he)
  rw [he] at HT
  clear he
  simp only [actV, actC] at *
  go_enter Try.func4, Try.ntmps4
  go_wp2_with fail
  refine Calls.mono (HS.out _) ?_
  rintro e w1 ⟨⟨b, rfl⟩, hb1⟩
  have HB1 := (show Hid _ from below_on HB0.out hb1)
  have HK1 := (show Hid _ from box_in hb1)
  obtain ⟨c0, c1, c2, c3, f0, f1, f2, f3, hz⟩ := cell4 HK1.out
  clear hb1 HB0 HS
  cases b
  · go_wp2_with fail
    refine Calls.mono (lives_any _) ?_
    rintro e w2 ⟨rfl, hb2⟩
    go_wp2
    go_ret
    exact ⟨rfl, below_on HB1.out hb2⟩
  · go_wp2_with fail
    refine Calls.mono (HT.out _) ?_
    rintro e w2 ⟨rfl, hb2⟩
    have HB2 := (show Hid _ from below_on HB1.out hb2)
    have HK2 := (show Hid _ from box_in' HK1.out hb2)
    clear hb2 c0 c1 c2 c3 f0 f1 f2 f3 HT
    obtain ⟨c0, c1, c2, c3, f0, f1, f2, f3, hz2⟩ := cell4 HK2.out
    have HTS : Hid (∀ W, Below (w2.heap.size + 1) (w2.alloc (.cells #[.int .i64 tk, .string (txt tx), .string (txt ty), .string (txt tz)] 35)) W →
        W.cell? ⟨w.heap.size, 0, none⟩ = some (.int .i64 k) ∧ W.cell? ⟨w.heap.size, 1, none⟩ = some (.string (txt x)) ∧ W.cell? ⟨w.heap.size, 2, none⟩ = some (.string (txt y)) ∧ W.cell? ⟨w.heap.size, 3, none⟩ = some (.string (txt z)) ∧
        W.cell? ⟨w2.heap.size, 0, none⟩ = some (.int .i64 tk) ∧ W.cell? ⟨w2.heap.size, 1, none⟩ = some (.string (txt tx)) ∧ W.cell? ⟨w2.heap.size, 2, none⟩ = some (.string (txt ty)) ∧ W.cell? ⟨w2.heap.size, 3, none⟩ = some (.string (txt tz)) ∧
        Below (w2.heap.size + 1) (w2.alloc (.cells #[.int .i64 tk, .string (txt tx), .string (txt ty), .string (txt tz)] 35)) W) := fun W hW => by
      have hq := box_in (show Below (w2.alloc (.cells #[.int .i64 tk, .string (txt tx), .string (txt ty), .string (txt tz)] 35)).heap.size _ W by simpa using hW)
      have hB : Below w2.heap.size w2 W := ((Below.refl _ _).alloc (Nat.le_refl _) _).trans (hW.mono (by omega))
      obtain ⟨a0, a1, a2, a3, _⟩ := cell4 (box_in' HK2.out hB)
      obtain ⟨b0, b1, b2, b3, _⟩ := cell4 hq
      exact ⟨a0, a1, a2, a3, b0, b1, b2, b3, hW⟩
    have HON : Hid (∀ W W', Below (w2.heap.size + 1) (w2.alloc (.cells #[.int .i64 tk, .string (txt tx), .string (txt ty), .string (txt tz)] 35)) W → Below W.heap.size W W' → Below (w2.heap.size + 1) (w2.alloc (.cells #[.int .i64 tk, .string (txt tx), .string (txt ty), .string (txt tz)] 35)) W') := fun W W' h1 h2 => h1.trans (h2.mono (by have := h1.size; simpa using this))
    have HBB : Hid (∀ W, Below (w2.heap.size + 1) (w2.alloc (.cells #[.int .i64 tk, .string (txt tx), .string (txt ty), .string (txt tz)] 35)) W → Below w.heap.size w W) := fun W hW => (below_on HB2.out (((Below.refl _ _).alloc (Nat.le_refl _) _).trans (hW.mono (by omega))))
    have H0 : Hid (Below (w2.heap.size + 1) (w2.alloc (.cells #[.int .i64 tk, .string (txt tx), .string (txt ty), .string (txt tz)] 35)) (w2.alloc (.cells #[.int .i64 tk, .string (txt tx), .string (txt ty), .string (txt tz)] 35))) := Below.refl _ _
    have H20 : Hid (∀ W, Below (w2.heap.size + 1) (w2.alloc (.cells #[.int .i64 tk, .string (txt tx), .string (txt ty), .string (txt tz)] 35)) W → Calls Try.prog 20 #[.agg #[.int .i64 k, .string (txt x), .string (txt y), .string (txt z)]] W fun e w' => e = .returned (.agg #[.int .i64 tk, .string (txt tx), .string (txt ty), .string (txt tz)]) ∧ Below (w2.heap.size + 1) (w2.alloc (.cells #[.int .i64 tk, .string (txt tx), .string (txt ty), .string (txt tz)] 35)) w') := fun W hW => by
      have := refturn_any ⟨k, x, y, z⟩ W
      rw [HE.out] at this
      exact this.mono fun e w' ⟨e1, e2⟩ => ⟨e1, HON.out _ _ hW e2⟩
    have H11 : Hid (∀ W, Below (w2.heap.size + 1) (w2.alloc (.cells #[.int .i64 tk, .string (txt tx), .string (txt ty), .string (txt tz)] 35)) W → Calls Try.prog 11 #[] W fun e w' => e = .returned (.bool true) ∧ Below (w2.heap.size + 1) (w2.alloc (.cells #[.int .i64 tk, .string (txt tx), .string (txt ty), .string (txt tz)] 35)) w') := fun W hW => (lives_any W).mono fun e w' ⟨e1, e2⟩ => ⟨e1, HON.out _ _ hW e2⟩
    have hq1 : ∀ W, (Op.equalIn 10000 35 (.agg #[.int .i64 tk, .string (txt tx), .string (txt ty), .string (txt tz)]) (.agg #[.int .i64 tk, .string (txt tx), .string (txt ty), .string (txt tz)])).run Try.prog W = .ok true W := fun W => by
      have := act_same ⟨tk, tx, ty, tz⟩ ⟨tk, tx, ty, tz⟩ W
      simpa using this
    have hS0 := HTS.out _ H0.out.drew
    have hMay := (show Hid _ from amay_any k x y z)
    cases hm : actB k x y z
    · have HM : Hid (∀ W, Below (w2.heap.size + 1) (w2.alloc (.cells #[.int .i64 tk, .string (txt tx), .string (txt ty), .string (txt tz)] 35)) W → Calls Try.prog 16 #[.agg #[.int .i64 k, .string (txt x), .string (txt y), .string (txt z)]] W fun e w' => e = .returned (.bool false) ∧ Below (w2.heap.size + 1) (w2.alloc (.cells #[.int .i64 tk, .string (txt tx), .string (txt ty), .string (txt tz)] 35)) w') := fun W hW => by
        have := hMay.out W
        rw [hm] at this
        exact this.mono fun e w' ⟨e1, e2⟩ => ⟨e1, HON.out _ _ hW e2⟩
      have he0 : (⟨tk, tx, ty, tz⟩ : Ac) = Ac.zero := by rw [← HE.out]; simp [turnA, mayA, hm]
      have hq2 : ∀ W, (Op.equalIn 10000 35 (.agg #[.int .i64 tk, .string (txt tx), .string (txt ty), .string (txt tz)]) (.agg #[.int .i64 0, .string ⟨#[]⟩, .string ⟨#[]⟩, .string ⟨#[]⟩])).run Try.prog W = .ok true W := fun W => by
        have h2 := act_same ⟨tk, tx, ty, tz⟩ Ac.zero W
        rw [decide_eq_true he0] at h2
        exact h2
      clear hm he0 hMay
      go_wp2_with fail
      have hbx := H0.out.drew
      refine wp_region_held_drew (S := (fun W => W.cell? ⟨w.heap.size, 0, none⟩ = some (.int .i64 k) ∧ W.cell? ⟨w.heap.size, 1, none⟩ = some (.string (txt x)) ∧ W.cell? ⟨w.heap.size, 2, none⟩ = some (.string (txt y)) ∧ W.cell? ⟨w.heap.size, 3, none⟩ = some (.string (txt z)) ∧
      W.cell? ⟨w2.heap.size, 0, none⟩ = some (.int .i64 tk) ∧ W.cell? ⟨w2.heap.size, 1, none⟩ = some (.string (txt tx)) ∧ W.cell? ⟨w2.heap.size, 2, none⟩ = some (.string (txt ty)) ∧ W.cell? ⟨w2.heap.size, 3, none⟩ = some (.string (txt tz)) ∧
      Below (w2.heap.size + 1) (w2.alloc (.cells #[.int .i64 tk, .string (txt tx), .string (txt ty), .string (txt tz)] 35)) W)) (by kernel_rfl) hS0 (fun hHeld => ?_)
      clear hS0
      refine wpAnyH_take (i := 0) (v := ?_) rfl (by kernel_rfl) (by kernel_rfl) (by kernel_rfl) (fun _ _ _ h => h) (Or.inl ⟨by rfl, ?_⟩) (by assumption) ?_
      rotate_left
      · (intro W hSw; (try dsimp only at hSw); go_simp; try with_reducible rfl)
      try simp only [Act.put, List.getElem_toArray, List.getElem_cons_zero, List.setIfInBounds_toArray, List.set_cons_zero, List.set_cons_succ]
      refine wpAnyH_take (i := 1) (v := ?_) rfl (by kernel_rfl) (by kernel_rfl) (by kernel_rfl) (fun _ _ _ h => h) (Or.inl ⟨by rfl, ?_⟩) (by assumption) ?_
      rotate_left
      · (intro W hSw; (try dsimp only at hSw); go_simp; try with_reducible rfl)
      try simp only [Act.put, List.getElem_toArray, List.getElem_cons_zero, List.getElem_cons_succ, List.setIfInBounds_toArray, List.set_cons_zero, List.set_cons_succ]
      refine wpAnyH_ready (rs := [2]) (by kernel_rfl) (by simp) ?_
      refine AllReadyH.cons rfl (fun K hK => ?_) AllReadyH.nil
      go_simp
      refine Calls.mono (H20.out _ hbx) ?_
      clear hHeld hbx
      rintro e wn ⟨rfl, hbx⟩
      try go_wp2_with fail
      refine hK.out _ _ (HTS.out _ hbx) (fun hHeld => ?_)
      clear hK K
      try simp only [Act.put, List.getElem_toArray, List.getElem_cons_zero, List.getElem_cons_succ, List.setIfInBounds_toArray, List.set_cons_zero, List.set_cons_succ]
      refine wpAnyH_take (i := 3) (v := ?_) rfl (by kernel_rfl) (by kernel_rfl) (by kernel_rfl) (fun _ _ _ h => h) (Or.inl ⟨by rfl, ?_⟩) (by assumption) ?_
      rotate_left
      · (intro W hSw; (try dsimp only at hSw); go_simp; try with_reducible rfl)
      try simp only [Act.put, List.getElem_toArray, List.getElem_cons_zero, List.getElem_cons_succ, List.setIfInBounds_toArray, List.set_cons_zero, List.set_cons_succ]
      refine wpAnyH_take (i := 4) (v := ?_) rfl (by kernel_rfl) (by kernel_rfl) (by kernel_rfl) (fun _ _ _ h => h) (Or.inl ⟨by rfl, ?_⟩) (by assumption) ?_
      rotate_left
      · (intro W hSw; (try dsimp only at hSw); go_simp; try with_reducible rfl)
      try simp only [Act.put, List.getElem_toArray, List.getElem_cons_zero, List.getElem_cons_succ, List.setIfInBounds_toArray, List.set_cons_zero, List.set_cons_succ]
      refine wpAnyH_take (i := 5) (v := ?_) rfl (by kernel_rfl) (by kernel_rfl) (by kernel_rfl) (fun _ _ _ h => h) (Or.inl ⟨by rfl, ?_⟩) (by assumption) ?_
      rotate_left
      · (intro W hSw; (try dsimp only at hSw); go_simp; try with_reducible rfl)
      try simp only [Act.put, List.getElem_toArray, List.getElem_cons_zero, List.getElem_cons_succ, List.setIfInBounds_toArray, List.set_cons_zero, List.set_cons_succ]
      refine wpAnyH_ready (rs := [6]) (by kernel_rfl) (by simp) ?_
      refine AllReadyH.cons rfl (fun K hK => ?_) AllReadyH.nil
      go_simp
      refine Calls.mono (HM.out _ hbx) ?_
      clear hHeld hbx
      rintro e wn ⟨rfl, hbx⟩
      try go_wp2_with fail
      refine hK.out _ _ (HTS.out _ hbx) (fun hHeld => ?_)
      clear hK K
      try simp only [Act.put, List.getElem_toArray, List.getElem_cons_zero, List.getElem_cons_succ, List.setIfInBounds_toArray, List.set_cons_zero, List.set_cons_succ]
      refine wpAnyH_take (i := 7) (v := ?_) rfl (by kernel_rfl) (by kernel_rfl) (by kernel_rfl) (fun _ _ _ h => h) (Or.inl ⟨by rfl, ?_⟩) (by assumption) ?_
      rotate_left
      · (intro W hSw; (try dsimp only at hSw); go_simp; try with_reducible rfl)
      try simp only [Act.put, List.getElem_toArray, List.getElem_cons_zero, List.getElem_cons_succ, List.setIfInBounds_toArray, List.set_cons_zero, List.set_cons_succ]
      refine wpAnyH_take (i := 8) (v := ?_) rfl (by kernel_rfl) (by kernel_rfl) (by kernel_rfl) (fun _ _ _ h => h) (Or.inl ⟨by rfl, ?_⟩) (by assumption) ?_
      rotate_left
      · (intro W hSw; (try dsimp only at hSw); go_simp; try with_reducible rfl)
      try simp only [Act.put, List.getElem_toArray, List.getElem_cons_zero, List.getElem_cons_succ, List.setIfInBounds_toArray, List.set_cons_zero, List.set_cons_succ]
      refine wpAnyH_take (i := 9) (v := ?_) rfl (by kernel_rfl) (by kernel_rfl) (by kernel_rfl) (fun _ _ _ h => h) (Or.inl ⟨by rfl, ?_⟩) (by assumption) ?_
      rotate_left
      · (intro W hSw; (try dsimp only at hSw); go_simp; try with_reducible rfl)
      try simp only [Act.put, List.getElem_toArray, List.getElem_cons_zero, List.getElem_cons_succ, List.setIfInBounds_toArray, List.set_cons_zero, List.set_cons_succ]
      refine wpAnyH_take (i := 10) (v := ?_) rfl (by kernel_rfl) (by kernel_rfl) (by kernel_rfl) (fun _ _ _ h => h) (Or.inl ⟨by rfl, ?_⟩) (by assumption) ?_
      rotate_left
      · (intro W hSw; (try dsimp only at hSw); go_simp; try with_reducible rfl)
      try simp only [Act.put, List.getElem_toArray, List.getElem_cons_zero, List.getElem_cons_succ, List.setIfInBounds_toArray, List.set_cons_zero, List.set_cons_succ]
      refine wpAnyH_take (i := 11) (v := ?_) rfl (by kernel_rfl) (by kernel_rfl) (by kernel_rfl) (fun _ _ _ h => h) (Or.inl ⟨by rfl, ?_⟩) (by assumption) ?_
      rotate_left
      · (intro W hSw; (try dsimp only at hSw); go_simp; try with_reducible rfl)
      try simp only [Act.put, List.getElem_toArray, List.getElem_cons_zero, List.getElem_cons_succ, List.setIfInBounds_toArray, List.set_cons_zero, List.set_cons_succ]
      refine wpAnyH_take (i := 12) (v := ?_) rfl (by kernel_rfl) (by kernel_rfl) (by kernel_rfl) (fun _ _ _ h => h) (Or.inl ⟨by rfl, ?_⟩) (by assumption) ?_
      rotate_left
      · (intro W hSw; (try dsimp only at hSw); go_simp; try with_reducible rfl)
      try simp only [Act.put, List.getElem_toArray, List.getElem_cons_zero, List.getElem_cons_succ, List.setIfInBounds_toArray, List.set_cons_zero, List.set_cons_succ]
      refine wpAnyH_take (i := 13) (v := ?_) rfl (by kernel_rfl) (by kernel_rfl) (by kernel_rfl) (fun _ _ _ h => h) (Or.inl ⟨by rfl, ?_⟩) (by assumption) ?_
      rotate_left
      · (intro W hSw; (try dsimp only at hSw); go_simp; try with_reducible rfl)
      try simp only [Act.put, List.getElem_toArray, List.getElem_cons_zero, List.getElem_cons_succ, List.setIfInBounds_toArray, List.set_cons_zero, List.set_cons_succ]
      refine wpAnyH_take (i := 14) (v := undef) rfl (by kernel_rfl) (by kernel_rfl) (by kernel_rfl) (fun _ _ _ h => h) (Or.inr ⟨by rfl, rfl⟩) (by assumption) ?_
      try simp only [Act.put, List.getElem_toArray, List.getElem_cons_zero, List.getElem_cons_succ, List.setIfInBounds_toArray, List.set_cons_zero, List.set_cons_succ]
      refine wpAnyH_take (i := 15) (v := undef) rfl (by kernel_rfl) (by kernel_rfl) (by kernel_rfl) (fun _ _ _ h => h) (Or.inr ⟨by rfl, rfl⟩) (by assumption) ?_
      try simp only [Act.put, List.getElem_toArray, List.getElem_cons_zero, List.getElem_cons_succ, List.setIfInBounds_toArray, List.set_cons_zero, List.set_cons_succ]
      refine wpAnyH_take (i := 16) (v := undef) rfl (by kernel_rfl) (by kernel_rfl) (by kernel_rfl) (fun _ _ _ h => h) (Or.inr ⟨by rfl, rfl⟩) (by assumption) ?_
      try simp only [Act.put, List.getElem_toArray, List.getElem_cons_zero, List.getElem_cons_succ, List.setIfInBounds_toArray, List.set_cons_zero, List.set_cons_succ]
      refine wpAnyH_take (i := 17) (v := undef) rfl (by kernel_rfl) (by kernel_rfl) (by kernel_rfl) (fun _ _ _ h => h) (Or.inr ⟨by rfl, rfl⟩) (by assumption) ?_
      try simp only [Act.put, List.getElem_toArray, List.getElem_cons_zero, List.getElem_cons_succ, List.setIfInBounds_toArray, List.set_cons_zero, List.set_cons_succ]
      refine wpAnyH_take (i := 18) (v := undef) rfl (by kernel_rfl) (by kernel_rfl) (by kernel_rfl) (fun _ _ _ h => h) (Or.inr ⟨by rfl, rfl⟩) (by assumption) ?_
      try simp only [Act.put, List.getElem_toArray, List.getElem_cons_zero, List.getElem_cons_succ, List.setIfInBounds_toArray, List.set_cons_zero, List.set_cons_succ]
      refine wpAnyH_take (i := 19) (v := undef) rfl (by kernel_rfl) (by kernel_rfl) (by kernel_rfl) (fun _ _ _ h => h) (Or.inr ⟨by rfl, rfl⟩) (by assumption) ?_
      try simp only [Act.put, List.getElem_toArray, List.getElem_cons_zero, List.getElem_cons_succ, List.setIfInBounds_toArray, List.set_cons_zero, List.set_cons_succ]
      refine wpAnyH_take (i := 20) (v := undef) rfl (by kernel_rfl) (by kernel_rfl) (by kernel_rfl) (fun _ _ _ h => h) (Or.inr ⟨by rfl, rfl⟩) (by assumption) ?_
      try simp only [Act.put, List.getElem_toArray, List.getElem_cons_zero, List.getElem_cons_succ, List.setIfInBounds_toArray, List.set_cons_zero, List.set_cons_succ]
      refine wpAnyH_take (i := 21) (v := undef) rfl (by kernel_rfl) (by kernel_rfl) (by kernel_rfl) (fun _ _ _ h => h) (Or.inr ⟨by rfl, rfl⟩) (by assumption) ?_
      try simp only [Act.put, List.getElem_toArray, List.getElem_cons_zero, List.getElem_cons_succ, List.setIfInBounds_toArray, List.set_cons_zero, List.set_cons_succ]
      refine wpAnyH_take (i := 22) (v := undef) rfl (by kernel_rfl) (by kernel_rfl) (by kernel_rfl) (fun _ _ _ h => h) (Or.inr ⟨by rfl, rfl⟩) (by assumption) ?_
      try simp only [Act.put, List.getElem_toArray, List.getElem_cons_zero, List.getElem_cons_succ, List.setIfInBounds_toArray, List.set_cons_zero, List.set_cons_succ]
      refine wpAnyH_take (i := 23) (v := undef) rfl (by kernel_rfl) (by kernel_rfl) (by kernel_rfl) (fun _ _ _ h => h) (Or.inr ⟨by rfl, rfl⟩) (by assumption) ?_
      try simp only [Act.put, List.getElem_toArray, List.getElem_cons_zero, List.getElem_cons_succ, List.setIfInBounds_toArray, List.set_cons_zero, List.set_cons_succ]
      refine wpAnyH_take (i := 24) (v := undef) rfl (by kernel_rfl) (by kernel_rfl) (by kernel_rfl) (fun _ _ _ h => h) (Or.inr ⟨by rfl, rfl⟩) (by assumption) ?_
      try simp only [Act.put, List.getElem_toArray, List.getElem_cons_zero, List.getElem_cons_succ, List.setIfInBounds_toArray, List.set_cons_zero, List.set_cons_succ]
      refine wpAnyH_take (i := 25) (v := undef) rfl (by kernel_rfl) (by kernel_rfl) (by kernel_rfl) (fun _ _ _ h => h) (Or.inr ⟨by rfl, rfl⟩) (by assumption) ?_
      try simp only [Act.put, List.getElem_toArray, List.getElem_cons_zero, List.getElem_cons_succ, List.setIfInBounds_toArray, List.set_cons_zero, List.set_cons_succ]
      refine wpAnyH_take (i := 26) (v := ?_) rfl (by kernel_rfl) (by kernel_rfl) (by kernel_rfl) (fun _ _ _ h => h) (Or.inl ⟨by rfl, ?_⟩) (by assumption) ?_
      rotate_left
      · (intro W hSw; (try dsimp only at hSw); go_simp; try with_reducible rfl)
      try simp only [Act.put, List.getElem_toArray, List.getElem_cons_zero, List.getElem_cons_succ, List.setIfInBounds_toArray, List.set_cons_zero, List.set_cons_succ]
      refine wpAnyH_take (i := 27) (v := ?_) rfl (by kernel_rfl) (by kernel_rfl) (by kernel_rfl) (fun _ _ _ h => h) (Or.inl ⟨by rfl, ?_⟩) (by assumption) ?_
      rotate_left
      · (intro W hSw; (try dsimp only at hSw); go_simp; try with_reducible rfl)
      try simp only [Act.put, List.getElem_toArray, List.getElem_cons_zero, List.getElem_cons_succ, List.setIfInBounds_toArray, List.set_cons_zero, List.set_cons_succ]
      refine wpAnyH_take (i := 28) (v := ?_) rfl (by kernel_rfl) (by kernel_rfl) (by kernel_rfl) (fun _ _ _ h => h) (Or.inl ⟨by rfl, ?_⟩) (by assumption) ?_
      rotate_left
      · (intro W hSw; (try dsimp only at hSw); go_simp; try with_reducible rfl)
      try simp only [Act.put, List.getElem_toArray, List.getElem_cons_zero, List.getElem_cons_succ, List.setIfInBounds_toArray, List.set_cons_zero, List.set_cons_succ]
      refine wpAnyH_ready (rs := [29]) (by kernel_rfl) (by simp) ?_
      refine AllReadyH.cons rfl (fun K hK => ?_) AllReadyH.nil
      go_simp
      refine Calls.mono (H11.out _ hbx) ?_
      clear hHeld hbx
      rintro e wn ⟨rfl, hbx⟩
      try go_wp2_with fail
      refine hK.out _ _ (HTS.out _ hbx) (fun hHeld => ?_)
      clear hK K
      try simp only [Act.put, List.getElem_toArray, List.getElem_cons_zero, List.getElem_cons_succ, List.setIfInBounds_toArray, List.set_cons_zero, List.set_cons_succ]
      refine wpAnyH_take (i := 30) (v := ?_) rfl (by kernel_rfl) (by kernel_rfl) (by kernel_rfl) (fun _ _ _ h => h) (Or.inl ⟨by rfl, ?_⟩) (by assumption) ?_
      rotate_left
      · (intro W hSw; (try dsimp only at hSw); go_simp; try with_reducible rfl)
      try simp only [Act.put, List.getElem_toArray, List.getElem_cons_zero, List.getElem_cons_succ, List.setIfInBounds_toArray, List.set_cons_zero, List.set_cons_succ]
      refine wpAnyH_take (i := 31) (v := ?_) rfl (by kernel_rfl) (by kernel_rfl) (by kernel_rfl) (fun _ _ _ h => h) (Or.inl ⟨by rfl, ?_⟩) (by assumption) ?_
      rotate_left
      · (intro W hSw; (try dsimp only at hSw); go_simp; try with_reducible rfl)
      try simp only [Act.put, List.getElem_toArray, List.getElem_cons_zero, List.getElem_cons_succ, List.setIfInBounds_toArray, List.set_cons_zero, List.set_cons_succ]
      refine wpAnyH_done (by kernel_rfl) ?_ _
      have HBf := (show Hid _ from HBB.out _ hbx)
      clear hHeld hbx
      go_wp2
      go_ret
      exact ⟨rfl, HBf.out⟩
    · have HM : Hid (∀ W, Below (w2.heap.size + 1) (w2.alloc (.cells #[.int .i64 tk, .string (txt tx), .string (txt ty), .string (txt tz)] 35)) W → Calls Try.prog 16 #[.agg #[.int .i64 k, .string (txt x), .string (txt y), .string (txt z)]] W fun e w' => e = .returned (.bool true) ∧ Below (w2.heap.size + 1) (w2.alloc (.cells #[.int .i64 tk, .string (txt tx), .string (txt ty), .string (txt tz)] 35)) w') := fun W hW => by
        have := hMay.out W
        rw [hm] at this
        exact this.mono fun e w' ⟨e1, e2⟩ => ⟨e1, HON.out _ _ hW e2⟩
      have het : (⟨turnK k, x, z, y⟩ : Ac) = ⟨tk, tx, ty, tz⟩ := by rw [← HE.out]; simp [turnA, mayA, hm]
      have HM2 : Hid (∀ W, Below (w2.heap.size + 1) (w2.alloc (.cells #[.int .i64 tk, .string (txt tx), .string (txt ty), .string (txt tz)] 35)) W → Calls Try.prog 16 #[.agg #[.int .i64 tk, .string (txt tx), .string (txt ty), .string (txt tz)]] W fun e w' => e = .returned (.bool true) ∧ Below (w2.heap.size + 1) (w2.alloc (.cells #[.int .i64 tk, .string (txt tx), .string (txt ty), .string (txt tz)] 35)) w') := fun W hW => by
        have h1 := amay_any tk tx ty tz W
        have h2 : actB tk tx ty tz = true := by have := turn_may ⟨k, x, y, z⟩ hm; rw [show (⟨turnK (Ac.mk k x y z).kind, (Ac.mk k x y z).key, (Ac.mk k x y z).new, (Ac.mk k x y z).old⟩ : Ac) = ⟨tk, tx, ty, tz⟩ from het] at this; exact this
        rw [h2] at h1
        exact h1.mono fun e w' ⟨e1, e2⟩ => ⟨e1, HON.out _ _ hW e2⟩
      have H19 : Hid (∀ W, Below (w2.heap.size + 1) (w2.alloc (.cells #[.int .i64 tk, .string (txt tx), .string (txt ty), .string (txt tz)] 35)) W → Calls Try.prog 19 #[.agg #[.int .i64 tk, .string (txt tx), .string (txt ty), .string (txt tz)]] W fun e w' => e = .returned (.agg #[.int .i64 k, .string (txt x), .string (txt y), .string (txt z)]) ∧ Below (w2.heap.size + 1) (w2.alloc (.cells #[.int .i64 tk, .string (txt tx), .string (txt ty), .string (txt tz)] 35)) w') := fun W hW => by
        have h1 := turn_any ⟨tk, tx, ty, tz⟩ W
        have h2 : turnA ⟨tk, tx, ty, tz⟩ = ⟨k, x, y, z⟩ := by rw [← HE.out]; exact turn_turn _ hm
        rw [h2] at h1
        exact h1.mono fun e w' ⟨e1, e2⟩ => ⟨e1, HON.out _ _ hW e2⟩
      have hq2 : ∀ W, (Op.equalIn 10000 35 (.agg #[.int .i64 k, .string (txt x), .string (txt y), .string (txt z)]) (.agg #[.int .i64 k, .string (txt x), .string (txt y), .string (txt z)])).run Try.prog W = .ok true W := fun W => by
        have := act_same ⟨k, x, y, z⟩ ⟨k, x, y, z⟩ W
        simpa using this
      clear hm het hMay
      go_wp2_with fail
      have hbx := H0.out.drew
      refine wp_region_held_drew (S := (fun W => W.cell? ⟨w.heap.size, 0, none⟩ = some (.int .i64 k) ∧ W.cell? ⟨w.heap.size, 1, none⟩ = some (.string (txt x)) ∧ W.cell? ⟨w.heap.size, 2, none⟩ = some (.string (txt y)) ∧ W.cell? ⟨w.heap.size, 3, none⟩ = some (.string (txt z)) ∧
      W.cell? ⟨w2.heap.size, 0, none⟩ = some (.int .i64 tk) ∧ W.cell? ⟨w2.heap.size, 1, none⟩ = some (.string (txt tx)) ∧ W.cell? ⟨w2.heap.size, 2, none⟩ = some (.string (txt ty)) ∧ W.cell? ⟨w2.heap.size, 3, none⟩ = some (.string (txt tz)) ∧
      Below (w2.heap.size + 1) (w2.alloc (.cells #[.int .i64 tk, .string (txt tx), .string (txt ty), .string (txt tz)] 35)) W)) (by kernel_rfl) hS0 (fun hHeld => ?_)
      clear hS0
      refine wpAnyH_take (i := 0) (v := ?_) rfl (by kernel_rfl) (by kernel_rfl) (by kernel_rfl) (fun _ _ _ h => h) (Or.inl ⟨by rfl, ?_⟩) (by assumption) ?_
      rotate_left
      · (intro W hSw; (try dsimp only at hSw); go_simp; try with_reducible rfl)
      try simp only [Act.put, List.getElem_toArray, List.getElem_cons_zero, List.setIfInBounds_toArray, List.set_cons_zero, List.set_cons_succ]
      refine wpAnyH_take (i := 1) (v := ?_) rfl (by kernel_rfl) (by kernel_rfl) (by kernel_rfl) (fun _ _ _ h => h) (Or.inl ⟨by rfl, ?_⟩) (by assumption) ?_
      rotate_left
      · (intro W hSw; (try dsimp only at hSw); go_simp; try with_reducible rfl)
      try simp only [Act.put, List.getElem_toArray, List.getElem_cons_zero, List.getElem_cons_succ, List.setIfInBounds_toArray, List.set_cons_zero, List.set_cons_succ]
      refine wpAnyH_ready (rs := [2]) (by kernel_rfl) (by simp) ?_
      refine AllReadyH.cons rfl (fun K hK => ?_) AllReadyH.nil
      go_simp
      refine Calls.mono (H20.out _ hbx) ?_
      clear hHeld hbx
      rintro e wn ⟨rfl, hbx⟩
      try go_wp2_with fail
      refine hK.out _ _ (HTS.out _ hbx) (fun hHeld => ?_)
      clear hK K
      try simp only [Act.put, List.getElem_toArray, List.getElem_cons_zero, List.getElem_cons_succ, List.setIfInBounds_toArray, List.set_cons_zero, List.set_cons_succ]
      refine wpAnyH_take (i := 3) (v := ?_) rfl (by kernel_rfl) (by kernel_rfl) (by kernel_rfl) (fun _ _ _ h => h) (Or.inl ⟨by rfl, ?_⟩) (by assumption) ?_
      rotate_left
      · (intro W hSw; (try dsimp only at hSw); go_simp; try with_reducible rfl)
      try simp only [Act.put, List.getElem_toArray, List.getElem_cons_zero, List.getElem_cons_succ, List.setIfInBounds_toArray, List.set_cons_zero, List.set_cons_succ]
      refine wpAnyH_take (i := 4) (v := ?_) rfl (by kernel_rfl) (by kernel_rfl) (by kernel_rfl) (fun _ _ _ h => h) (Or.inl ⟨by rfl, ?_⟩) (by assumption) ?_
      rotate_left
      · (intro W hSw; (try dsimp only at hSw); go_simp; try with_reducible rfl)
      try simp only [Act.put, List.getElem_toArray, List.getElem_cons_zero, List.getElem_cons_succ, List.setIfInBounds_toArray, List.set_cons_zero, List.set_cons_succ]
      refine wpAnyH_take (i := 5) (v := ?_) rfl (by kernel_rfl) (by kernel_rfl) (by kernel_rfl) (fun _ _ _ h => h) (Or.inl ⟨by rfl, ?_⟩) (by assumption) ?_
      rotate_left
      · (intro W hSw; (try dsimp only at hSw); go_simp; try with_reducible rfl)
      try simp only [Act.put, List.getElem_toArray, List.getElem_cons_zero, List.getElem_cons_succ, List.setIfInBounds_toArray, List.set_cons_zero, List.set_cons_succ]
      refine wpAnyH_ready (rs := [6]) (by kernel_rfl) (by simp) ?_
      refine AllReadyH.cons rfl (fun K hK => ?_) AllReadyH.nil
      go_simp
      refine Calls.mono (HM.out _ hbx) ?_
      clear hHeld hbx
      rintro e wn ⟨rfl, hbx⟩
      try go_wp2_with fail
      refine hK.out _ _ (HTS.out _ hbx) (fun hHeld => ?_)
      clear hK K
      try simp only [Act.put, List.getElem_toArray, List.getElem_cons_zero, List.getElem_cons_succ, List.setIfInBounds_toArray, List.set_cons_zero, List.set_cons_succ]
      refine wpAnyH_take (i := 7) (v := ?_) rfl (by kernel_rfl) (by kernel_rfl) (by kernel_rfl) (fun _ _ _ h => h) (Or.inl ⟨by rfl, ?_⟩) (by assumption) ?_
      rotate_left
      · (intro W hSw; (try dsimp only at hSw); go_simp; try with_reducible rfl)
      try simp only [Act.put, List.getElem_toArray, List.getElem_cons_zero, List.getElem_cons_succ, List.setIfInBounds_toArray, List.set_cons_zero, List.set_cons_succ]
      refine wpAnyH_take (i := 8) (v := ?_) rfl (by kernel_rfl) (by kernel_rfl) (by kernel_rfl) (fun _ _ _ h => h) (Or.inl ⟨by rfl, ?_⟩) (by assumption) ?_
      rotate_left
      · (intro W hSw; (try dsimp only at hSw); go_simp; try with_reducible rfl)
      try simp only [Act.put, List.getElem_toArray, List.getElem_cons_zero, List.getElem_cons_succ, List.setIfInBounds_toArray, List.set_cons_zero, List.set_cons_succ]
      refine wpAnyH_take (i := 9) (v := undef) rfl (by kernel_rfl) (by kernel_rfl) (by kernel_rfl) (fun _ _ _ h => h) (Or.inr ⟨by rfl, rfl⟩) (by assumption) ?_
      try simp only [Act.put, List.getElem_toArray, List.getElem_cons_zero, List.getElem_cons_succ, List.setIfInBounds_toArray, List.set_cons_zero, List.set_cons_succ]
      refine wpAnyH_take (i := 10) (v := undef) rfl (by kernel_rfl) (by kernel_rfl) (by kernel_rfl) (fun _ _ _ h => h) (Or.inr ⟨by rfl, rfl⟩) (by assumption) ?_
      try simp only [Act.put, List.getElem_toArray, List.getElem_cons_zero, List.getElem_cons_succ, List.setIfInBounds_toArray, List.set_cons_zero, List.set_cons_succ]
      refine wpAnyH_take (i := 11) (v := undef) rfl (by kernel_rfl) (by kernel_rfl) (by kernel_rfl) (fun _ _ _ h => h) (Or.inr ⟨by rfl, rfl⟩) (by assumption) ?_
      try simp only [Act.put, List.getElem_toArray, List.getElem_cons_zero, List.getElem_cons_succ, List.setIfInBounds_toArray, List.set_cons_zero, List.set_cons_succ]
      refine wpAnyH_take (i := 12) (v := ?_) rfl (by kernel_rfl) (by kernel_rfl) (by kernel_rfl) (fun _ _ _ h => h) (Or.inl ⟨by rfl, ?_⟩) (by assumption) ?_
      rotate_left
      · (intro W hSw; (try dsimp only at hSw); go_simp; try with_reducible rfl)
      try simp only [Act.put, List.getElem_toArray, List.getElem_cons_zero, List.getElem_cons_succ, List.setIfInBounds_toArray, List.set_cons_zero, List.set_cons_succ]
      refine wpAnyH_take (i := 13) (v := ?_) rfl (by kernel_rfl) (by kernel_rfl) (by kernel_rfl) (fun _ _ _ h => h) (Or.inl ⟨by rfl, ?_⟩) (by assumption) ?_
      rotate_left
      · (intro W hSw; (try dsimp only at hSw); go_simp; try with_reducible rfl)
      try simp only [Act.put, List.getElem_toArray, List.getElem_cons_zero, List.getElem_cons_succ, List.setIfInBounds_toArray, List.set_cons_zero, List.set_cons_succ]
      refine wpAnyH_take (i := 14) (v := ?_) rfl (by kernel_rfl) (by kernel_rfl) (by kernel_rfl) (fun _ _ _ h => h) (Or.inl ⟨by rfl, ?_⟩) (by assumption) ?_
      rotate_left
      · (intro W hSw; (try dsimp only at hSw); go_simp; try with_reducible rfl)
      try simp only [Act.put, List.getElem_toArray, List.getElem_cons_zero, List.getElem_cons_succ, List.setIfInBounds_toArray, List.set_cons_zero, List.set_cons_succ]
      refine wpAnyH_ready (rs := [15]) (by kernel_rfl) (by simp) ?_
      refine AllReadyH.cons rfl (fun K hK => ?_) AllReadyH.nil
      go_simp
      refine Calls.mono (HM.out _ hbx) ?_
      clear hHeld hbx
      rintro e wn ⟨rfl, hbx⟩
      try go_wp2_with fail
      refine hK.out _ _ (HTS.out _ hbx) (fun hHeld => ?_)
      clear hK K
      try simp only [Act.put, List.getElem_toArray, List.getElem_cons_zero, List.getElem_cons_succ, List.setIfInBounds_toArray, List.set_cons_zero, List.set_cons_succ]
      refine wpAnyH_take (i := 16) (v := ?_) rfl (by kernel_rfl) (by kernel_rfl) (by kernel_rfl) (fun _ _ _ h => h) (Or.inl ⟨by rfl, ?_⟩) (by assumption) ?_
      rotate_left
      · (intro W hSw; (try dsimp only at hSw); go_simp; try with_reducible rfl)
      try simp only [Act.put, List.getElem_toArray, List.getElem_cons_zero, List.getElem_cons_succ, List.setIfInBounds_toArray, List.set_cons_zero, List.set_cons_succ]
      refine wpAnyH_take (i := 17) (v := ?_) rfl (by kernel_rfl) (by kernel_rfl) (by kernel_rfl) (fun _ _ _ h => h) (Or.inl ⟨by rfl, ?_⟩) (by assumption) ?_
      rotate_left
      · (intro W hSw; (try dsimp only at hSw); go_simp; try with_reducible rfl)
      try simp only [Act.put, List.getElem_toArray, List.getElem_cons_zero, List.getElem_cons_succ, List.setIfInBounds_toArray, List.set_cons_zero, List.set_cons_succ]
      refine wpAnyH_take (i := 19) (v := ?_) rfl (by kernel_rfl) (by kernel_rfl) (by kernel_rfl) (fun _ _ _ h => h) (Or.inl ⟨by rfl, ?_⟩) (by assumption) ?_
      rotate_left
      · (intro W hSw; (try dsimp only at hSw); go_simp; try with_reducible rfl)
      try simp only [Act.put, List.getElem_toArray, List.getElem_cons_zero, List.getElem_cons_succ, List.setIfInBounds_toArray, List.set_cons_zero, List.set_cons_succ]
      refine wpAnyH_ready (rs := [18]) (by kernel_rfl) (by simp) ?_
      refine AllReadyH.cons rfl (fun K hK => ?_) AllReadyH.nil
      go_simp
      refine Calls.mono (H19.out _ hbx) ?_
      clear hHeld hbx
      rintro e wn ⟨rfl, hbx⟩
      try go_wp2_with fail
      refine hK.out _ _ (HTS.out _ hbx) (fun hHeld => ?_)
      clear hK K
      try simp only [Act.put, List.getElem_toArray, List.getElem_cons_zero, List.getElem_cons_succ, List.setIfInBounds_toArray, List.set_cons_zero, List.set_cons_succ]
      refine wpAnyH_take (i := 20) (v := ?_) rfl (by kernel_rfl) (by kernel_rfl) (by kernel_rfl) (fun _ _ _ h => h) (Or.inl ⟨by rfl, ?_⟩) (by assumption) ?_
      rotate_left
      · (intro W hSw; (try dsimp only at hSw); go_simp; try with_reducible rfl)
      try simp only [Act.put, List.getElem_toArray, List.getElem_cons_zero, List.getElem_cons_succ, List.setIfInBounds_toArray, List.set_cons_zero, List.set_cons_succ]
      refine wpAnyH_take (i := 21) (v := ?_) rfl (by kernel_rfl) (by kernel_rfl) (by kernel_rfl) (fun _ _ _ h => h) (Or.inl ⟨by rfl, ?_⟩) (by assumption) ?_
      rotate_left
      · (intro W hSw; (try dsimp only at hSw); go_simp; try with_reducible rfl)
      try simp only [Act.put, List.getElem_toArray, List.getElem_cons_zero, List.getElem_cons_succ, List.setIfInBounds_toArray, List.set_cons_zero, List.set_cons_succ]
      refine wpAnyH_take (i := 22) (v := ?_) rfl (by kernel_rfl) (by kernel_rfl) (by kernel_rfl) (fun _ _ _ h => h) (Or.inl ⟨by rfl, ?_⟩) (by assumption) ?_
      rotate_left
      · (intro W hSw; (try dsimp only at hSw); go_simp; try with_reducible rfl)
      try simp only [Act.put, List.getElem_toArray, List.getElem_cons_zero, List.getElem_cons_succ, List.setIfInBounds_toArray, List.set_cons_zero, List.set_cons_succ]
      refine wpAnyH_take (i := 23) (v := ?_) rfl (by kernel_rfl) (by kernel_rfl) (by kernel_rfl) (fun _ _ _ h => h) (Or.inl ⟨by rfl, ?_⟩) (by assumption) ?_
      rotate_left
      · (intro W hSw; (try dsimp only at hSw); go_simp; try with_reducible rfl)
      try simp only [Act.put, List.getElem_toArray, List.getElem_cons_zero, List.getElem_cons_succ, List.setIfInBounds_toArray, List.set_cons_zero, List.set_cons_succ]
      refine wpAnyH_ready (rs := [24]) (by kernel_rfl) (by simp) ?_
      refine AllReadyH.cons rfl (fun K hK => ?_) AllReadyH.nil
      go_simp
      refine Calls.mono (HM2.out _ hbx) ?_
      clear hHeld hbx
      rintro e wn ⟨rfl, hbx⟩
      try go_wp2_with fail
      refine hK.out _ _ (HTS.out _ hbx) (fun hHeld => ?_)
      clear hK K
      try simp only [Act.put, List.getElem_toArray, List.getElem_cons_zero, List.getElem_cons_succ, List.setIfInBounds_toArray, List.set_cons_zero, List.set_cons_succ]
      refine wpAnyH_take (i := 25) (v := ?_) rfl (by kernel_rfl) (by kernel_rfl) (by kernel_rfl) (fun _ _ _ h => h) (Or.inl ⟨by rfl, ?_⟩) (by assumption) ?_
      rotate_left
      · (intro W hSw; (try dsimp only at hSw); go_simp; try with_reducible rfl)
      try simp only [Act.put, List.getElem_toArray, List.getElem_cons_zero, List.getElem_cons_succ, List.setIfInBounds_toArray, List.set_cons_zero, List.set_cons_succ]
      refine wpAnyH_take (i := 26) (v := ?_) rfl (by kernel_rfl) (by kernel_rfl) (by kernel_rfl) (fun _ _ _ h => h) (Or.inl ⟨by rfl, ?_⟩) (by assumption) ?_
      rotate_left
      · (intro W hSw; (try dsimp only at hSw); go_simp; try with_reducible rfl)
      try simp only [Act.put, List.getElem_toArray, List.getElem_cons_zero, List.getElem_cons_succ, List.setIfInBounds_toArray, List.set_cons_zero, List.set_cons_succ]
      refine wpAnyH_take (i := 27) (v := ?_) rfl (by kernel_rfl) (by kernel_rfl) (by kernel_rfl) (fun _ _ _ h => h) (Or.inl ⟨by rfl, ?_⟩) (by assumption) ?_
      rotate_left
      · (intro W hSw; (try dsimp only at hSw); go_simp; try with_reducible rfl)
      try simp only [Act.put, List.getElem_toArray, List.getElem_cons_zero, List.getElem_cons_succ, List.setIfInBounds_toArray, List.set_cons_zero, List.set_cons_succ]
      refine wpAnyH_take (i := 28) (v := ?_) rfl (by kernel_rfl) (by kernel_rfl) (by kernel_rfl) (fun _ _ _ h => h) (Or.inl ⟨by rfl, ?_⟩) (by assumption) ?_
      rotate_left
      · (intro W hSw; (try dsimp only at hSw); go_simp; try with_reducible rfl)
      try simp only [Act.put, List.getElem_toArray, List.getElem_cons_zero, List.getElem_cons_succ, List.setIfInBounds_toArray, List.set_cons_zero, List.set_cons_succ]
      refine wpAnyH_ready (rs := [29]) (by kernel_rfl) (by simp) ?_
      refine AllReadyH.cons rfl (fun K hK => ?_) AllReadyH.nil
      go_simp
      refine Calls.mono (H11.out _ hbx) ?_
      clear hHeld hbx
      rintro e wn ⟨rfl, hbx⟩
      try go_wp2_with fail
      refine hK.out _ _ (HTS.out _ hbx) (fun hHeld => ?_)
      clear hK K
      try simp only [Act.put, List.getElem_toArray, List.getElem_cons_zero, List.getElem_cons_succ, List.setIfInBounds_toArray, List.set_cons_zero, List.set_cons_succ]
      refine wpAnyH_take (i := 30) (v := ?_) rfl (by kernel_rfl) (by kernel_rfl) (by kernel_rfl) (fun _ _ _ h => h) (Or.inl ⟨by rfl, ?_⟩) (by assumption) ?_
      rotate_left
      · (intro W hSw; (try dsimp only at hSw); go_simp; try with_reducible rfl)
      try simp only [Act.put, List.getElem_toArray, List.getElem_cons_zero, List.getElem_cons_succ, List.setIfInBounds_toArray, List.set_cons_zero, List.set_cons_succ]
      refine wpAnyH_take (i := 31) (v := ?_) rfl (by kernel_rfl) (by kernel_rfl) (by kernel_rfl) (fun _ _ _ h => h) (Or.inl ⟨by rfl, ?_⟩) (by assumption) ?_
      rotate_left
      · (intro W hSw; (try dsimp only at hSw); go_simp; try with_reducible rfl)
      try simp only [Act.put, List.getElem_toArray, List.getElem_cons_zero, List.getElem_cons_succ, List.setIfInBounds_toArray, List.set_cons_zero, List.set_cons_succ]
      refine wpAnyH_done (by kernel_rfl) ?_ _
      have HBf := (show Hid _ from HBB.out _ hbx)
      clear hHeld hbx
      go_wp2
      go_ret
      exact ⟨rfl, HBf.out⟩

end Go.Proofs.Ytamkfcdehkdcpaa
