/-
  noughts, number, and what a cell's bytes are.
-/
import Derived.Test.YtcloinonhpaojaaBe
import Derived.Test.YtcloinonhpaojaaRf
import Derived.WalkMore
namespace Go.Proofs.Ytcloinonhpaojaa
open Go.RowKit

theorem SlB.sub {w : World} {g o : Nat} {l : List UInt8} (h : SlB w (some ⟨g, o, none⟩) l) (x k : Nat) : SlB w (some ⟨g, o + x, none⟩) ((l.drop x).take k) :=
  ⟨fun h => by simp at h, fun y hy j u hu => by
    simp at hy
    subst hy
    have hj : j < ((l.drop x).take k).length := by have := (List.getElem?_eq_some_iff.1 hu).1; simpa [bcells] using this
    simp at hj
    have e1 : (⟨g, o + x, none⟩ : Addr).add j = (⟨g, o, none⟩ : Addr).add (x + j) := by
      unfold Addr.add
      by_cases hz : j = 0
      · subst hz
        by_cases hx : x = 0
        · subst hx; simp
        · simp [hx]
      · simp [hz, Nat.add_assoc]
    rw [e1]
    refine h.cells _ rfl (x + j) u ?_
    rw [show bcells ((l.drop x).take k) = ((bcells l).drop x).take k by simp [bcells], List.getElem?_take, if_pos (by omega), List.getElem?_drop] at hu
    exact hu⟩

set_option maxHeartbeats 1000000 in
theorem noughts_any (a : Option Addr) (c : Nat) (l : List UInt8) (w : World) (h : SlB w a l) (hl : l.length ≤ 1000000) :
    Calls Try.prog 72 #[.slice a l.length c] w fun e w' => e = .returned (.bool (l.all (· == 0))) ∧ w' = w := by
  go_enter Try.func72, Try.ntmps72
  go_wp2_with fail
  go_step3
  go_wp2_with fail
  go_step3
  go_wp2_with fail
  go_loop [3, 8] (fun s i => ∃ k : Nat, k ≤ l.length ∧ s = .int .i64 k ∧ i = .int .i64 k ∧ (l.take k).all (· == 0) = true) (fun _ i => l.length - (intOf i).toNat)
  case atStart => exact ⟨0, Nat.zero_le _, rfl, rfl, by simp⟩
  case round =>
    obtain ⟨k, hk, rfl, rfl, hup⟩ := hrel
    have HU := (show Hid _ from hup)
    clear hup
    by_cases hlt : k < l.length
    · obtain ⟨b, o, rfl⟩ : ∃ b o, a = some ⟨b, o, none⟩ := by
        cases a with
        | none => have := h.nonil rfl; subst this; simp at hlt
        | some x =>
          obtain ⟨b, o, sp⟩ := x
          obtain ⟨rfl, _⟩ := h.atc k hlt
          exact ⟨b, o, rfl⟩
      obtain ⟨_, c0⟩ := h.atc k hlt
      have het : l.take (k + 1) = l.take k ++ [l[k]] := by rw [List.take_add_one, List.getElem?_eq_getElem hlt]; rfl
      by_cases hz : l[k] = 0
      · have HA : Hid ((l.take (k + 1)).all (· == 0) = true) := by
          show _ = _
          rw [het, List.all_append, HU.out]
          simp [hz]
        rw [hz] at c0
        clear het hz
        go_wp2_with fail
        go_round
        case rel => exact ⟨k + 1, by omega, by simp, by simp, HA.out⟩
        case measure => first | omega | (simp only [intOf]; omega)
      · have hne : ((l[k].toNat : Int) == 0) = false := by
          simp
          intro h0
          exact hz (UInt8.toNat_inj.mp (by simpa using h0))
        have HA : Hid (l.all (· == 0) = false) := by
          show _ = _
          rw [List.all_eq_false]
          exact ⟨l[k], List.getElem_mem hlt, by simpa using hz⟩
        have hkl : ((k : Int) == (l.length : Int)) = false := by simp; omega
        clear het hz
        go_wp2
        first | go_ret | (rw [Exit.noGoto_ret]; go_ret)
        exact ⟨by rw [HA.out]; rfl, rfl⟩
    · obtain rfl : k = l.length := by omega
      have HA : Hid (l.all (· == 0) = true) := by
        show _ = _
        have := HU.out
        rw [List.take_length] at this
        exact this
      go_wp2
      go_ret
      exact ⟨by rw [HA.out]; simp, rfl⟩

set_option maxHeartbeats 1000000 in
theorem number_any (b o c : Nat) (l : List UInt8) (w : World) (h : SlB w (some ⟨b, o, none⟩) l) (hl : l.length ≤ 8) :
    Calls Try.prog 73 #[.slice (some ⟨b, o, none⟩) l.length c] w fun e w' => e = .returned (.int .u64 (leV l : Nat)) ∧ w' = w := by
  go_enter Try.func73, Try.ntmps73
  go_wp2_with fail
  go_loop [3, 8] (fun n i => ∃ k : Nat, k ≤ l.length ∧ n = .int .u64 (leV (l.take k) : Nat) ∧ i = .int .i64 k) (fun _ i => l.length - (intOf i).toNat)
  case atStart => exact ⟨0, Nat.zero_le _, rfl, rfl⟩
  case round =>
    obtain ⟨k, hk, rfl, rfl⟩ := hrel
    by_cases hlt : k < l.length
    · obtain ⟨_, c0⟩ := h.atc k hlt
      have het : l.take (k + 1) = l.take k ++ [l[k]] := by rw [List.take_add_one, List.getElem?_eq_getElem hlt]; rfl
      have hlk : (l.take k).length = k := by simp; omega
      have hor := or_step (l.take k) l[k] (by omega)
      rw [hlk, ← het] at hor
      have hwr : IntKind.i64.wrap (8 * (k : Int)) = 8 * (k : Int) := by simp [IntKind.wrap, IntKind.bits, IntKind.signed]; omega
      have hk0 : 0 ≤ 8 * (k : Int) := by omega
      have hk1 : 8 * (k : Int) < 64 := by omega
      have hbt := l[k].toNat_lt
      have hwb := wrap_u (l[k].toNat : Int) (by omega) (by omega)
      rw [show (8 * (k : Int)).toNat = 8 * k by omega] at hor
      have HOR := (show Hid _ from hor)
      clear het hlk hor
      go_wp2_with fail
      go_round
      case rel => exact ⟨k + 1, by omega, by rw [HOR.out], by simp⟩
      case measure => first | omega | (simp only [intOf]; omega)
    · obtain rfl : k = l.length := by omega
      go_wp2
      go_ret
      exact ⟨rfl, rfl⟩

end Go.Proofs.Ytcloinonhpaojaa
