/-
  The walks of See and Tick.
-/
import Derived.Test.YtflemjdeciekeaaCl
import Derived.Lib.MinMax
namespace Go.Proofs.Ytflemjdeciekeaa
open Go.RowKit

theorem see_bad (p l : Nat) (w : World) (hl : l < 18446744073709551616) (hv : okL l = false) : Calls Try.prog 18 #[.pointer (some ⟨p, 0, none⟩), .int .u64 (l : Int)] w fun e w' => e = .returned (.tuple #[]) ∧ w' = w := by
  have hva := valid_any l w hl
  rw [hv] at hva
  go_enter Try.func18, Try.ntmps18
  go_wp2_with (go_at_call 11; go_must (refine hva.mono ?_); rintro e w' ⟨rfl, hw⟩; obtain rfl := hw.symm)
  go_end0
  exact ⟨rfl, rfl⟩

theorem see_good (p : Nat) (i : Int) (c l : Nat) (w : World) (hC : COk w p i c) (hl : l < 18446744073709551616) (hv : okL l = true) : Calls Try.prog 18 #[.pointer (some ⟨p, 0, none⟩), .int .u64 (l : Int)] w fun e w' => e = .returned (.tuple #[]) ∧ COk w' p i (max c (l / 16)) ∧ w.grownBy w' (some p) ∧ w'.heap.size = w.heap.size := by
  have hva := valid_any l w hl
  rw [hv] at hva
  obtain ⟨c0, c1, f0, f1⟩ := two_cells hC.blk
  have hlt := hC.lt
  have HM : Hid (max (c : Int) ((l : Int) / 16) = ((max c (l / 16) : Nat) : Int)) := by show _ = _; omega
  go_enter Try.func18, Try.ntmps18
  go_wp2_with (go_at_call 11; go_must (refine hva.mono ?_); rintro e w' ⟨rfl, hw⟩; obtain rfl := hw.symm)
  go_region_with (go_at_call 13; refine (count_any l _ hl).mono ?_; rintro e w' ⟨rfl, hw⟩; obtain rfl := hw.symm)
  all_goals
    go_wp2
    go_end0
    exact ⟨rfl, ⟨by first | (rw [← HM.out]; exact two_set1 hC.blk) | exact two_set1 hC.blk⟩, grownBy_drew (gset _ _ _ _), by simp [World.setCell]⟩

theorem seeN_lt (c l : Nat) (hc : c ≤ 72057594037927936) : seeN c l ≤ 72057594037927936 := by
  unfold seeN okL
  split
  · rename_i h
    simp at h
    omega
  · exact hc

theorem see_any (p : Nat) (i : Int) (c l : Nat) (w : World) (hC : COk w p i c) (hl : l < 18446744073709551616) : Calls Try.prog 18 #[.pointer (some ⟨p, 0, none⟩), .int .u64 (l : Int)] w fun e w' => e = .returned (.tuple #[]) ∧ COk w' p i (seeN c l) ∧ w.grownBy w' (some p) ∧ w'.heap.size = w.heap.size := by
  cases hv : okL l with
  | false =>
    have e : seeN c l = c := by simp [seeN, hv]
    rw [e]
    exact (see_bad p l w hl hv).mono fun e w' ⟨h1, h2⟩ => ⟨h1, by rw [h2]; exact ⟨hC, World.grownBy.refl _ _, rfl⟩⟩
  | true =>
    have e : seeN c l = max c (l / 16) := by simp [seeN, hv]
    rw [e]
    exact see_good p i c l w hC hl hv

end Go.Proofs.Ytflemjdeciekeaa
