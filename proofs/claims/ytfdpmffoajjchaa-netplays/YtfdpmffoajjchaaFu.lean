/-
  The walk of NetFull.
-/
import Derived.Test.YtfdpmffoajjchaaLi
import Derived.Test.YtfdpmffoajjchaaCu
namespace Go.Proofs.Ytfdpmffoajjchaa
open Go.RowKit Go.Conc

theorem sumR_upd (n : Nat) (R : Nat → List Nat) (k : Nat) (l : List Nat) : ∀ i, i ≤ n → sumR n (upd R k l) i + (if k < i ∨ (n ≤ k ∧ k < n + i) then (R k).length else 0) = sumR n R i + (if k < i ∨ (n ≤ k ∧ k < n + i) then l.length else 0)
  | 0, _ => by rw [if_neg (by omega), if_neg (by omega)]; rfl
  | i + 1, hi => by
    have ih := sumR_upd n R k l i (by omega)
    simp only [sumR]
    by_cases h1 : k = i
    · subst h1
      rw [if_neg (by omega), if_neg (by omega)] at ih
      rw [if_pos (by omega), if_pos (by omega), upd_same, upd_other _ _ _ _ (by omega)]
      omega
    · by_cases h2 : k = n + i
      · subst h2
        rw [if_neg (by omega), if_neg (by omega)] at ih
        rw [if_pos (by omega), if_pos (by omega), upd_same, upd_other _ _ _ _ (by omega)]
        omega
      · rw [upd_other _ _ _ _ (Ne.symm h1), upd_other _ _ _ _ (Ne.symm h2)]
        by_cases h3 : k < i ∨ (n ≤ k ∧ k < n + i)
        · rw [if_pos h3, if_pos h3] at ih
          rw [if_pos (by omega), if_pos (by omega)]
          omega
        · rw [if_neg h3, if_neg h3] at ih
          rw [if_neg (by omega), if_neg (by omega)]
          omega
theorem sumR_set {n : Nat} {R : Nat → List Nat} {k : Nat} {l : List Nat} (hk : k < 2 * n) : sumR n (upd R k l) n + (R k).length = sumR n R n + l.length := by
  have := sumR_upd n R k l n (Nat.le_refl _)
  rw [if_pos (by omega), if_pos (by omega)] at this
  exact this
theorem sumR_nil (n : Nat) : ∀ i, sumR n (fun _ => []) i = 0
  | 0 => rfl
  | i + 1 => by simp [sumR, sumR_nil n i]

def tm (x : Int) : Ms := ⟨0, x, 0, 0, false, 0, [], [], []⟩
theorem lim_tm (k : Int) : Lim (tm k) := ⟨by simp [tm], by simp [tm]⟩
theorem mi_tm (w : World) (k : Int) : MI w (tm k) zeroP := mi_zero w _ rfl rfl
theorem rix_up {n : Nat} {i : Int} (h : 1 ≤ i) (h2 : i ≤ n) : rix n i 0 = some (i.toNat - 1) := by
  unfold rix
  rw [if_neg (by omega), if_pos rfl, if_pos ⟨h, h2⟩]
theorem rix_down {n : Nat} {i : Int} (h : 1 ≤ i) (h2 : i ≤ n) : rix n 0 i = some (n + (i.toNat - 1)) := by
  unfold rix
  rw [if_pos rfl, if_pos ⟨h, h2⟩]

/-- A net with one row in use. -/
structure One (w W : World) (s n k i : Nat) (l : List Nat) : Prop where
  len : l.length = i
  net : NetOk W s n (upd (fun _ => []) k l)
  bel : Below w.heap.size w W
  head : ∀ b, l.head? = some b → ∃ p, W.heap[b]? = some (.cells (msC (tm 0) p) 31)

theorem One.put {w W W' : World} {s n k i b : Nat} {l : List Nat} {p : Pl} (h : One w W s n k i l) (hs : w.heap.size ≤ s) (hN : NetOk W' s n (upd (upd (fun _ => []) k l) k (upd (fun _ => []) k l k ++ [b]))) (hM : i = 0 → W'.heap[b]? = some (.cells (msC (tm 0) p) 31)) (hT : Tn s n W W') : One w W' s n k (i + 1) (l ++ [b]) := by
  refine ⟨by simp [h.len], ?_, hT.to h.bel hs h.bel.size, fun c hc => ?_⟩
  · rw [upd_upd, upd_same] at hN
    exact hN
  · cases l with
    | nil =>
      simp at hc
      subst hc
      exact ⟨p, hM (by simpa using h.len.symm)⟩
    | cons x r =>
      obtain ⟨p', hp⟩ := h.head x rfl
      simp at hc
      subst hc
      exact ⟨p', hT.keepC h.net _ _ _ _ hp⟩

set_option maxRecDepth 100000 in
set_option maxHeartbeats 2000000 in
theorem full_up (n : Nat) (i : Int) (w : World) (hn : 1 ≤ n) (hn8 : n ≤ 8) (hi1 : 1 ≤ i) (hi2 : i ≤ n) :
    Calls Try.prog 7 #[.int .i64 n, .int .i64 i, .bool true] w fun e w' => e = .returned (.bool true) ∧ Below w.heap.size w w' := by
  have HW := toHid (new_yes w n hn hn8)
  have HR := toHid (rix_up hi1 hi2)
  have HK := toHid (rix_lt (rix_up hi1 hi2))
  have hi3 : ¬ i < 1 := by omega
  have hi4 : ¬ (n : Int) < i := by omega
  generalize (i.toNat - 1) = k at HR HK
  clear hi1 hi2
  go_enter Try.func7, Try.ntmps7
  go_wp2_with fail
  go_at_call 9
  refine Calls.mono HW.out ?_
  rintro e w1 ⟨rfl, hN1, hB1, hz1⟩
  have HO : Hid (One w w1 w.heap.size n k 0 []) := ⟨rfl, by have e : upd (fun _ => []) k [] = (fun _ => []) := upd_self (fun _ => []) k; rw [e]; exact hN1, hB1, fun b hb => by simp at hb⟩
  clear hN1 hB1 hz1 HW
  go_wp2_with fail
  go_loopw [11] (fun q W => ∃ j : Nat, j ≤ 256 ∧ q = .int .i64 j ∧ ∃ l, One w W w.heap.size n k j l) (fun q _ => 256 - (intOf q).toNat)
  case atStart => exact ⟨0, by omega, rfl, [], HO.out⟩
  case round =>
    obtain ⟨j, hj, rfl, l, hO⟩ := hrel
    have HO := toHid hO
    clear hO
    by_cases hlt : j < 256
    · have h1 : (j : Int) < 256 := by omega
      go_wp2_with fail
      go_at_call 12
      refine Calls.mono (send_room HO.out.net i 0 HR.out (by rw [upd_same, HO.out.len]; exact hlt) (tm j) zeroP (mi_tm _ _) (lim_tm _)) ?_
      rintro e w3 ⟨rfl, b3, p3, hN3, hM3, hO3, hb3, hT3⟩
      have HO3 := toHid (HO.out.put (Nat.le_refl _) hN3 (fun e => by subst e; exact hM3) hT3)
      clear hN3 hM3 hT3 hO3 hb3
      go_wp2_with fail
      go_roundw
      case rel => exact ⟨j + 1, by omega, by go_num, _, HO3.out⟩
      case measure => simp [intOf]; omega
    · obtain rfl : j = 256 := by omega
      have hlen := HO.out.len
      obtain ⟨b, r, rfl⟩ : ∃ b r, l = b :: r := by
        cases l with
        | nil => simp at hlen
        | cons b r => exact ⟨b, r, rfl⟩
      obtain ⟨p, hp⟩ := HO.out.head b rfl
      have HP := toHid hp
      have HL : Hid (r.length = 255) := by simp at hlen; exact hlen
      clear hp hlen
      go_wp2_with fail
      go_at_call 12
      refine Calls.mono (send_full HO.out.net i 0 HR.out (by rw [upd_same]; exact HO.out.len) (tm 256) zeroP (mi_tm _ _) (lim_tm _)) ?_
      rintro e w3 ⟨rfl, hN3, hT3⟩
      have HN3 := toHid hN3
      have HB3 := toHid (hT3.to HO.out.bel (Nat.le_refl _) HO.out.bel.size)
      have HP3 := toHid (hT3.keepC HO.out.net _ _ _ _ HP.out)
      clear hN3 hT3
      go_wp2_with fail
      go_at_call 13
      refine Calls.mono (len_any _ _ n _ HN3.out i 0) ?_
      rintro e w4 ⟨rfl, hw4⟩
      obtain rfl := hw4.symm
      have e4 : lenO (upd (fun _ => []) k (b :: r)) (rix n i 0) = 256 := by rw [HR.out]; simp only [lenO]; rw [upd_same]; exact HO.out.len
      rw [e4]
      clear e4
      go_wp2_with fail
      go_at_call 10
      refine Calls.mono (take_c HN3.out i 0 HR.out (b := b) (l := r) (upd_same _ _ _) (tm 0) p HP3.out) ?_
      rintro e w5 ⟨rfl, hN5, hT5⟩
      have HN5 := toHid hN5
      have HB5 := toHid (hT5.to HB3.out (Nat.le_refl _) HB3.out.size)
      clear hN5 hT5
      obtain ⟨wa, wc, pa, pc⟩ := p
      go_wp2_with fail
      have HN6 := toHid (HN5.out.below ((Below.refl _ _).alloc (Nat.le_refl _) (.cells (msC (tm 0) ⟨wa, wc, pa, pc⟩) 31)))
      have HB6 := toHid (HB5.out.alloc HB5.out.size (.cells (msC (tm 0) ⟨wa, wc, pa, pc⟩) 31))
      go_at_call 12
      refine Calls.mono (send_room HN6.out i 0 HR.out (by rw [upd_same, HL.out]; omega) (tm 257) zeroP (mi_tm _ _) (lim_tm _)) ?_
      rintro e w7 ⟨rfl, b7, p7, hN7, hM7, hO7, hb7, hT7⟩
      have HN7 := toHid hN7
      have HB7 := toHid (hT7.to HB6.out (Nat.le_refl _) HB6.out.size)
      clear hN7 hM7 hT7 hO7 hb7
      go_wp2_with fail
      go_at_call 12
      refine Calls.mono (send_full HN7.out i 0 HR.out (by rw [upd_same, upd_same]; simp [HL.out]) (tm 0) zeroP (mi_tm _ _) (lim_tm _)) ?_
      rintro e w8 ⟨rfl, hN8, hT8⟩
      have HN8 := toHid hN8
      have HB8 := toHid (hT8.to HB7.out (Nat.le_refl _) HB7.out.size)
      clear hN8 hT8
      go_wp2_with fail
      go_at_call 14
      refine Calls.mono (sum_any HN8.out) ?_
      rintro e w9 ⟨rfl, q9, hw9⟩
      have e9 : sumR n (upd (upd (upd (fun _ => []) k (b :: r)) k r) k (upd (upd (fun _ => []) k (b :: r)) k r k ++ [b7])) n = 256 := by
        rw [upd_upd, upd_upd, upd_same]
        have := sumR_set (n := n) (R := fun _ => []) (l := r ++ [b7]) HK.out
        rw [sumR_nil] at this
        simp [HL.out] at this
        exact this
      rw [e9]
      clear e9
      have HB9 : Hid (Below w.heap.size w w9) := by rw [hw9]; exact ⟨HB8.out.os, HB8.out.tape, HB8.out.output, HB8.out.size, HB8.out.block⟩
      clear hw9
      go_wp2_with fail
      go_at_call 17
      refine Calls.mono (lives17 _) ?_
      rintro e w10 ⟨rfl, hB10⟩
      have HB10 := toHid (HB9.out.trans (hB10.mono HB9.out.size))
      clear hB10
      go_wp2_with fail
      go_ret
      exact ⟨rfl, HB10.out⟩

set_option maxRecDepth 100000 in
set_option maxHeartbeats 2000000 in
theorem full_down (n : Nat) (i : Int) (w : World) (hn : 1 ≤ n) (hn8 : n ≤ 8) (hi1 : 1 ≤ i) (hi2 : i ≤ n) :
    Calls Try.prog 7 #[.int .i64 n, .int .i64 i, .bool false] w fun e w' => e = .returned (.bool true) ∧ Below w.heap.size w w' := by
  have HW := toHid (new_yes w n hn hn8)
  have HR := toHid (rix_down hi1 hi2)
  have HK := toHid (rix_lt (rix_down hi1 hi2))
  have hi3 : ¬ i < 1 := by omega
  have hi4 : ¬ (n : Int) < i := by omega
  generalize (n + (i.toNat - 1)) = k at HR HK
  clear hi1 hi2
  go_enter Try.func7, Try.ntmps7
  go_wp2_with fail
  go_at_call 9
  refine Calls.mono HW.out ?_
  rintro e w1 ⟨rfl, hN1, hB1, hz1⟩
  have HO : Hid (One w w1 w.heap.size n k 0 []) := ⟨rfl, by have e : upd (fun _ => []) k [] = (fun _ => []) := upd_self (fun _ => []) k; rw [e]; exact hN1, hB1, fun b hb => by simp at hb⟩
  clear hN1 hB1 hz1 HW
  go_wp2_with fail
  go_loopw [11] (fun q W => ∃ j : Nat, j ≤ 256 ∧ q = .int .i64 j ∧ ∃ l, One w W w.heap.size n k j l) (fun q _ => 256 - (intOf q).toNat)
  case atStart => exact ⟨0, by omega, rfl, [], HO.out⟩
  case round =>
    obtain ⟨j, hj, rfl, l, hO⟩ := hrel
    have HO := toHid hO
    clear hO
    by_cases hlt : j < 256
    · have h1 : (j : Int) < 256 := by omega
      go_wp2_with fail
      go_at_call 12
      refine Calls.mono (send_room HO.out.net 0 i HR.out (by rw [upd_same, HO.out.len]; exact hlt) (tm j) zeroP (mi_tm _ _) (lim_tm _)) ?_
      rintro e w3 ⟨rfl, b3, p3, hN3, hM3, hO3, hb3, hT3⟩
      have HO3 := toHid (HO.out.put (Nat.le_refl _) hN3 (fun e => by subst e; exact hM3) hT3)
      clear hN3 hM3 hT3 hO3 hb3
      go_wp2_with fail
      go_roundw
      case rel => exact ⟨j + 1, by omega, by go_num, _, HO3.out⟩
      case measure => simp [intOf]; omega
    · obtain rfl : j = 256 := by omega
      have hlen := HO.out.len
      obtain ⟨b, r, rfl⟩ : ∃ b r, l = b :: r := by
        cases l with
        | nil => simp at hlen
        | cons b r => exact ⟨b, r, rfl⟩
      obtain ⟨p, hp⟩ := HO.out.head b rfl
      have HP := toHid hp
      have HL : Hid (r.length = 255) := by simp at hlen; exact hlen
      clear hp hlen
      go_wp2_with fail
      go_at_call 12
      refine Calls.mono (send_full HO.out.net 0 i HR.out (by rw [upd_same]; exact HO.out.len) (tm 256) zeroP (mi_tm _ _) (lim_tm _)) ?_
      rintro e w3 ⟨rfl, hN3, hT3⟩
      have HN3 := toHid hN3
      have HB3 := toHid (hT3.to HO.out.bel (Nat.le_refl _) HO.out.bel.size)
      have HP3 := toHid (hT3.keepC HO.out.net _ _ _ _ HP.out)
      clear hN3 hT3
      go_wp2_with fail
      go_at_call 13
      refine Calls.mono (len_any _ _ n _ HN3.out 0 i) ?_
      rintro e w4 ⟨rfl, hw4⟩
      obtain rfl := hw4.symm
      have e4 : lenO (upd (fun _ => []) k (b :: r)) (rix n 0 i) = 256 := by rw [HR.out]; simp only [lenO]; rw [upd_same]; exact HO.out.len
      rw [e4]
      clear e4
      go_wp2_with fail
      go_at_call 10
      refine Calls.mono (take_c HN3.out 0 i HR.out (b := b) (l := r) (upd_same _ _ _) (tm 0) p HP3.out) ?_
      rintro e w5 ⟨rfl, hN5, hT5⟩
      have HN5 := toHid hN5
      have HB5 := toHid (hT5.to HB3.out (Nat.le_refl _) HB3.out.size)
      clear hN5 hT5
      obtain ⟨wa, wc, pa, pc⟩ := p
      go_wp2_with fail
      have HN6 := toHid (HN5.out.below ((Below.refl _ _).alloc (Nat.le_refl _) (.cells (msC (tm 0) ⟨wa, wc, pa, pc⟩) 31)))
      have HB6 := toHid (HB5.out.alloc HB5.out.size (.cells (msC (tm 0) ⟨wa, wc, pa, pc⟩) 31))
      go_at_call 12
      refine Calls.mono (send_room HN6.out 0 i HR.out (by rw [upd_same, HL.out]; omega) (tm 257) zeroP (mi_tm _ _) (lim_tm _)) ?_
      rintro e w7 ⟨rfl, b7, p7, hN7, hM7, hO7, hb7, hT7⟩
      have HN7 := toHid hN7
      have HB7 := toHid (hT7.to HB6.out (Nat.le_refl _) HB6.out.size)
      clear hN7 hM7 hT7 hO7 hb7
      go_wp2_with fail
      go_at_call 12
      refine Calls.mono (send_full HN7.out 0 i HR.out (by rw [upd_same, upd_same]; simp [HL.out]) (tm 0) zeroP (mi_tm _ _) (lim_tm _)) ?_
      rintro e w8 ⟨rfl, hN8, hT8⟩
      have HN8 := toHid hN8
      have HB8 := toHid (hT8.to HB7.out (Nat.le_refl _) HB7.out.size)
      clear hN8 hT8
      go_wp2_with fail
      go_at_call 14
      refine Calls.mono (sum_any HN8.out) ?_
      rintro e w9 ⟨rfl, q9, hw9⟩
      have e9 : sumR n (upd (upd (upd (fun _ => []) k (b :: r)) k r) k (upd (upd (fun _ => []) k (b :: r)) k r k ++ [b7])) n = 256 := by
        rw [upd_upd, upd_upd, upd_same]
        have := sumR_set (n := n) (R := fun _ => []) (l := r ++ [b7]) HK.out
        rw [sumR_nil] at this
        simp [HL.out] at this
        exact this
      rw [e9]
      clear e9
      have HB9 : Hid (Below w.heap.size w w9) := by rw [hw9]; exact ⟨HB8.out.os, HB8.out.tape, HB8.out.output, HB8.out.size, HB8.out.block⟩
      clear hw9
      go_wp2_with fail
      go_at_call 17
      refine Calls.mono (lives17 _) ?_
      rintro e w10 ⟨rfl, hB10⟩
      have HB10 := toHid (HB9.out.trans (hB10.mono HB9.out.size))
      clear hB10
      go_wp2_with fail
      go_ret
      exact ⟨rfl, HB10.out⟩

set_option maxRecDepth 100000 in
set_option maxHeartbeats 2000000 in
theorem full_walk (n i : Int) (up : Bool) (w : World) : Calls Try.prog 7 #[.int .i64 n, .int .i64 i, .bool up] w fun e w' => e = .returned (.bool true) ∧ Below w.heap.size w w' := by
  by_cases hn : n < 1 ∨ 8 < n
  · have HW := toHid (new_no w n hn)
    have HL := toHid (lives17 w)
    clear hn
    go_enter Try.func7, Try.ntmps7
    go_wp2_with fail
    go_at_call 9
    refine Calls.mono HW.out ?_
    rintro e w1 ⟨rfl, hw⟩
    obtain rfl := hw.symm
    go_wp2_with fail
    go_at_call 17
    refine Calls.mono HL.out ?_
    rintro e w2 ⟨rfl, hB⟩
    have HB := toHid hB
    clear hB
    go_wp2_with fail
    go_ret
    exact ⟨rfl, HB.out⟩
  · obtain ⟨m, rfl⟩ : ∃ m : Nat, n = m := ⟨n.toNat, by omega⟩
    by_cases hi : 1 ≤ i ∧ i ≤ m
    · cases up
      · exact full_down m i w (by omega) (by omega) hi.1 hi.2
      · exact full_up m i w (by omega) (by omega) hi.1 hi.2
    · have HW := toHid (new_yes w m (by omega) (by omega))
      have HL := toHid lives17
      by_cases h1 : i < 1
      · go_enter Try.func7, Try.ntmps7
        go_wp2_with fail
        go_at_call 9
        refine Calls.mono HW.out ?_
        rintro e w1 ⟨rfl, hN1, hB1, hz1⟩
        have HB1 := toHid hB1
        clear hB1 hN1 hz1
        go_wp2_with fail
        go_at_call 17
        refine Calls.mono (HL.out _) ?_
        rintro e w2 ⟨rfl, hB⟩
        have HB := toHid (HB1.out.trans (hB.mono HB1.out.size))
        clear hB
        go_wp2_with fail
        go_ret
        exact ⟨rfl, HB.out⟩
      · have h2 : (m : Int) < i := by omega
        go_enter Try.func7, Try.ntmps7
        go_wp2_with fail
        go_at_call 9
        refine Calls.mono HW.out ?_
        rintro e w1 ⟨rfl, hN1, hB1, hz1⟩
        have HB1 := toHid hB1
        clear hB1 hN1 hz1
        go_wp2_with fail
        go_at_call 17
        refine Calls.mono (HL.out _) ?_
        rintro e w2 ⟨rfl, hB⟩
        have HB := toHid (HB1.out.trans (hB.mono HB1.out.size))
        clear hB
        go_wp2_with fail
        go_ret
        exact ⟨rfl, HB.out⟩

end Go.Proofs.Ytfdpmffoajjchaa
