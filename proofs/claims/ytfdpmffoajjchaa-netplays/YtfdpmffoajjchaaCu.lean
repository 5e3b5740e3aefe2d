/-
  Cut and Sum.
-/
import Derived.Test.YtfdpmffoajjchaaNu
import Derived.Deep.RegionHeld3
namespace Go.Proofs.Ytfdpmffoajjchaa
open Go.RowKit Go.Conc

theorem cut_nil (w : World) (p : Int) : Calls Try.prog 15 #[.pointer none, .int .i64 p] w fun e w' => e = .returned (.int .i64 0) ∧ w' = w := by
  have HB1 := toHid (between_nil w p 0)
  have HB2 := toHid (between_nil w 0 p)
  have HD := toHid (drain_nil w)
  go_enter Try.func15, Try.ntmps15
  go_wp2_with fail
  go_at_call 26
  refine Calls.mono HB1.out ?_
  rintro e w' ⟨rfl, hw⟩
  obtain rfl := hw.symm
  go_wp2_with fail
  go_at_call 29
  refine Calls.mono HD.out ?_
  rintro e w' ⟨rfl, hw⟩
  obtain rfl := hw.symm
  go_wp2_with fail
  go_at_call 26
  refine Calls.mono HB2.out ?_
  rintro e w' ⟨rfl, hw⟩
  obtain rfl := hw.symm
  go_wp2_with fail
  go_at_call 29
  refine Calls.mono HD.out ?_
  rintro e w' ⟨rfl, hw⟩
  obtain rfl := hw.symm
  go_wp2_with fail
  go_ret
  exact ⟨rfl, rfl⟩

def drnR (R : Nat → List Nat) : Option Nat → Nat → List Nat
  | some k => upd R k []
  | none => R
theorem drain_row {w : World} {s n : Nat} {R : Nat → List Nat} (h : NetOk w s n R) (o : Option Nat) (ho : ∀ k, o = some k → k < 2 * n) :
    Calls Try.prog 29 #[rowV s n o] w fun e w' => e = .returned (.int .i64 (lenO R o : Nat)) ∧ NetOk w' s n (drnR R o) ∧ Tn s n w w' := by
  cases o with
  | none =>
    refine Calls.mono (drain_nil w) ?_
    rintro e w' ⟨rfl, rfl⟩
    exact ⟨rfl, h, Tn.refl _ _ _⟩
  | some k => exact drain_any h (ho k rfl)

/-- What is left of the rows behind a cut. -/
def cutR (n : Nat) (R : Nat → List Nat) (p : Int) : Nat → List Nat := if 1 ≤ p ∧ p ≤ n then upd (upd R (p.toNat - 1) []) (n + (p.toNat - 1)) [] else R
def cutN (n : Nat) (R : Nat → List Nat) (p : Int) : Nat := if 1 ≤ p ∧ p ≤ n then (R (p.toNat - 1)).length + (R (n + (p.toNat - 1))).length else 0

theorem cut_any {w : World} {s n : Nat} {R : Nat → List Nat} (h : NetOk w s n R) (p : Int) :
    Calls Try.prog 15 #[netP s n, .int .i64 p] w fun e w' => e = .returned (.int .i64 (cutN n R p : Nat)) ∧ NetOk w' s n (cutR n R p) ∧ Tn s n w w' := by
  have h8 := h.n8
  obtain ⟨o1, ho1⟩ : ∃ o, o = rix n p 0 := ⟨_, rfl⟩
  obtain ⟨o2, ho2⟩ : ∃ o, o = rix n 0 p := ⟨_, rfl⟩
  have hl1 : lenO R o1 ≤ 256 := by rw [ho1]; exact lenO_le h.len _ _
  obtain ⟨R1, hR1⟩ : ∃ R1, R1 = drnR R o1 := ⟨_, rfl⟩
  have HB1 := toHid (ho1 ▸ between_any w s n R h p 0)
  have HD1 := toHid (hR1 ▸ drain_row h o1 (fun k e => rix_lt (ho1 ▸ e : rix n p 0 = some k)))
  have HB2 := toHid (fun (w : World) (h : NetOk w s n R1) => ho2 ▸ between_any w s n R1 h 0 p)
  have HD2 := toHid (fun (w : World) (h : NetOk w s n R1) => drain_row h o2 (fun k e => rix_lt (ho2 ▸ e : rix n 0 p = some k)))
  have hl2 : lenO R1 o2 ≤ 256 := by
    rw [ho2]
    refine lenO_le (fun k hk => ?_) _ _
    rw [hR1]
    cases o1 with
    | none => exact h.len k hk
    | some j =>
      simp only [drnR, upd]
      split
      · simp
      · exact h.len k hk
  have HE : Hid (lenO R o1 + lenO R1 o2 = cutN n R p ∧ (drnR R1 o2) = cutR n R p) := by
    unfold cutN cutR
    by_cases hp : 1 ≤ p ∧ p ≤ n
    · have e1 : o1 = some (p.toNat - 1) := by rw [ho1]; unfold rix; rw [if_neg (by omega), if_pos rfl, if_pos hp]
      have e2 : o2 = some (n + (p.toNat - 1)) := by rw [ho2]; unfold rix; rw [if_pos rfl, if_pos hp]
      rw [if_pos hp, if_pos hp, hR1, e1, e2]
      refine ⟨?_, rfl⟩
      simp only [lenO, drnR]
      rw [upd_other _ _ _ _ (by omega)]
    · have e1 : o1 = none := by
        rw [ho1]
        unfold rix
        by_cases h0 : p = 0
        · rw [if_pos h0, if_neg (by omega)]
        · rw [if_neg h0, if_pos rfl, if_neg hp]
      have e2 : o2 = none := by rw [ho2]; unfold rix; rw [if_pos rfl, if_neg hp]
      rw [if_neg hp, if_neg hp, hR1, e1, e2]
      exact ⟨rfl, rfl⟩
  obtain ⟨l1, hl1'⟩ : ∃ l, l = lenO R o1 := ⟨_, rfl⟩
  obtain ⟨l2, hl2'⟩ : ∃ l, l = lenO R1 o2 := ⟨_, rfl⟩
  rw [← hl1'] at hl1 HE HD1
  rw [← hl2'] at hl2 HE
  have HD2' : Hid (∀ (w : World), NetOk w s n R1 → Calls Try.prog 29 #[rowV s n o2] w fun e w' => e = .returned (.int .i64 (l2 : Nat)) ∧ NetOk w' s n (drnR R1 o2) ∧ Tn s n w w') := by
    rw [hl2']; exact HD2
  generalize (drnR R1 o2) = R2 at HE HD2'
  generalize rowV s n o1 = v1 at HB1 HD1
  generalize rowV s n o2 = v2 at HB2 HD2'
  clear HD2 hR1 hl1' hl2' ho1 ho2 h
  go_enter Try.func15, Try.ntmps15
  go_wp2_with fail
  go_at_call 26
  refine Calls.mono HB1.out ?_
  rintro e w' ⟨rfl, hw⟩
  obtain rfl := hw.symm
  go_wp2_with fail
  go_at_call 29
  refine Calls.mono HD1.out ?_
  rintro e w1 ⟨rfl, hN1, hT1⟩
  have HN1 := toHid hN1
  have HT1 := toHid hT1
  clear hN1 hT1
  go_wp2_with fail
  go_at_call 26
  refine Calls.mono (HB2.out w1 HN1.out) ?_
  rintro e w' ⟨rfl, hw⟩
  obtain rfl := hw.symm
  go_wp2_with fail
  go_at_call 29
  refine Calls.mono (HD2'.out w1 HN1.out) ?_
  rintro e w2 ⟨rfl, hN2, hT2⟩
  have HN2 := toHid hN2
  have HT2 := toHid hT2
  clear hN2 hT2
  go_wp2_with fail
  go_ret
  refine ⟨?_, HE.out.2 ▸ HN2.out, HT1.out.trans HT2.out⟩
  rw [← HE.out.1]
  simp

theorem sum_nil (w : World) : Calls Try.prog 14 #[.pointer none] w fun e w' => e = .returned (.int .i64 0) ∧ w' = w := by
  go_enter Try.func14, Try.ntmps14
  go_wp2
  go_ret
  exact ⟨rfl, rfl⟩

/-- How many messages all rows have. -/
def sumR (n : Nat) (R : Nat → List Nat) : Nat → Nat
  | 0 => 0
  | i + 1 => sumR n R i + ((R i).length + (R (n + i)).length)
theorem sumR_le {n : Nat} {R : Nat → List Nat} (h : ∀ k, k < 2 * n → (R k).length ≤ 256) : ∀ i, i ≤ n → sumR n R i ≤ 512 * i
  | 0, _ => by simp [sumR]
  | i + 1, hi => by
    have h1 := sumR_le h i (by omega)
    have h2 := h i (by omega)
    have h3 := h (n + i) (by omega)
    simp only [sumR]
    omega

set_option maxHeartbeats 1000000 in
theorem sum_any {w : World} {s n : Nat} {R : Nat → List Nat} (h : NetOk w s n R) :
    Calls Try.prog 14 #[netP s n] w fun e w' => e = .returned (.int .i64 (sumR n R n : Nat)) ∧ ∃ m, w' = w.drewN m := by
  have h8 := h.n8
  have hc0 : w.cell? ⟨s + 2 * n + 2, 0, none⟩ = some (.slice (some ⟨s, 0, none⟩) n n) := by simp [World.cell?, h.net]
  have hc1 : w.cell? ⟨s + 2 * n + 2, 1, none⟩ = some (.slice (some ⟨s + n + 1, 0, none⟩) n n) := by simp [World.cell?, h.net]
  have HN := toHid h
  clear h
  go_enter Try.func14, Try.ntmps14
  go_wp2_with fail
  go_loopw [3, 12] (fun q k W => ∃ i : Nat, i ≤ n ∧ k = .int .i64 i ∧ q = .int .i64 (sumR n R i : Nat) ∧ ∃ m, W = w.drewN m) (fun _ k _ => n - (intOf k).toNat)
  case atStart => exact ⟨0, Nat.zero_le _, rfl, rfl, 0, rfl⟩
  case round =>
    obtain ⟨i, hi, rfl, rfl, m, rfl⟩ := hrel
    by_cases hlt : i < n
    · have e1 : (i : Int) < (n : Int) := by omega
      have e2 : 0 ≤ (i : Int) := by omega
      have hu : w.cell? ⟨s, i, none⟩ = some (.chan (some (chb s n i))) := by
        have : chb s n i = s + 1 + i := by unfold chb; rw [if_pos hlt]
        simp [World.cell?, HN.out.up, chs_at _ _ _ hlt, this]
      have hd : w.cell? ⟨s + n + 1, i, none⟩ = some (.chan (some (chb s n (n + i)))) := by
        have : chb s n (n + i) = s + n + 2 + i := by unfold chb; rw [if_neg (by omega)]; omega
        simp [World.cell?, HN.out.down, chs_at _ _ _ hlt, this]
      have hlu : ∀ ty (W : World), W.heap = w.heap → (Builtin.len_ #[66] ty #[.chan (some (chb s n i))]).run Try.prog W = .ok (.int .i64 ((R i).length : Nat)) W := fun ty W hW => by
        obtain ⟨a, b, hc⟩ := HN.out.ch i (by omega)
        rw [run_len_chan 66 ty Try.underlying66 (by rw [hW]; exact hc)]
        simp [goInt, ptrs_length]
      have hld : ∀ ty (W : World), W.heap = w.heap → (Builtin.len_ #[66] ty #[.chan (some (chb s n (n + i)))]).run Try.prog W = .ok (.int .i64 ((R (n + i)).length : Nat)) W := fun ty W hW => by
        obtain ⟨a, b, hc⟩ := HN.out.ch (n + i) (by omega)
        rw [run_len_chan 66 ty Try.underlying66 (by rw [hW]; exact hc)]
        simp [goInt, ptrs_length]
      have l1 := HN.out.len i (by omega)
      have l2 := HN.out.len (n + i) (by omega)
      have l3 := sumR_le HN.out.len i (by omega)
      have hlu1 := fun ty => hlu ty (w.drewN m) rfl
      have hld1 := fun ty => hld ty (w.drewN m) rfl
      have hlu2 := fun ty k => hlu ty ((w.drewN m).drewN k) rfl
      have hld2 := fun ty k => hld ty ((w.drewN m).drewN k) rfl
      have hlu3 := fun ty k => hlu ty (w.drewN k) rfl
      have hld3 := fun ty k => hld ty (w.drewN k) rfl
      clear hlu hld
      obtain ⟨la, hla⟩ : ∃ l, l = (R i).length := ⟨_, rfl⟩
      obtain ⟨lb, hlb⟩ : ∃ l, l = (R (n + i)).length := ⟨_, rfl⟩
      obtain ⟨ls, hls⟩ : ∃ l, l = sumR n R i := ⟨_, rfl⟩
      have HS : Hid (sumR n R (i + 1) = ls + (la + lb)) := by show _ = _; rw [hla, hlb, hls]; rfl
      rw [← hla] at l1 hlu1 hlu2 hlu3
      rw [← hlb] at l2 hld1 hld2 hld3
      rw [← hls] at l3
      simp only [← hls]
      clear hla hlb hls
      go_wp2_with fail
      go_quiet (fail)
      go_wp2_with fail
      go_roundw
      case rel => exact ⟨i + 1, by omega, by go_num, by rw [HS.out]; go_num, _, rfl⟩
      case measure => simp [intOf]; omega
    · have e1 : ¬ (i : Int) < (n : Int) := by omega
      have e : i = n := by omega
      have HE := toHid e
      clear e
      go_wp2_with fail
      go_ret
      exact ⟨by rw [← HE.out]; rfl, m, rfl⟩

end Go.Proofs.Ytfdpmffoajjchaa
