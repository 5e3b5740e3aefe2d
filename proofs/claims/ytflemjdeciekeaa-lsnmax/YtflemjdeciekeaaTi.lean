/-
  The walks of Tick, and of lives.
-/
import Derived.Test.YtflemjdeciekeaaSe
namespace Go.Proofs.Ytflemjdeciekeaa
open Go.RowKit

/-- A clock's count behind a tick. -/
def tickN (c : Nat) : Nat := if c < 72057594037927936 then c + 1 else c

theorem tick_yes (p : Nat) (i : Int) (c : Nat) (w : World) (hC : COk w p i c) (h0 : 0 ≤ i) (h7 : i < 8) (hc : c < 72057594037927936) : Calls Try.prog 19 #[.pointer (some ⟨p, 0, none⟩)] w fun e w' => e = .returned (.tuple #[.int .u64 ((16 * (c + 1) + i.toNat : Nat) : Int), .int .i64 0]) ∧ COk w' p i (c + 1) ∧ w.grownBy w' (some p) ∧ w'.heap.size = w.heap.size := by
  have hmk : ∀ W, Calls Try.prog 9 #[.int .u64 ((c : Int) + 1), .int .i64 i] W fun e w' => e = .returned (.tuple #[.int .u64 ((16 * (c + 1) + i.toNat : Nat) : Int), .int .i64 0]) ∧ w' = W := by
    intro W
    have h := make_any (c + 1) i W
    obtain ⟨e1, e2⟩ := mk_good (n := c + 1) (i := i) (by omega) (by omega)
    rw [e1, e2] at h
    exact h
  obtain ⟨c0, c1, f0, f1⟩ := two_cells hC.blk
  have hlt := hC.lt
  obtain ⟨m, hm⟩ : ∃ m : Nat, m = 16 * (c + 1) + i.toNat := ⟨_, rfl⟩
  rw [← hm] at hmk ⊢
  clear hm
  go_enter Try.func19, Try.ntmps19
  go_wp2_with fail
  go_quiet ((go_at_call 9; exact Calls.quiet_of_same (hmk _)))
  go_wp2
  refine bodyPost_ret (v := .tuple #[.int .u64 (m : Int), .int .i64 0]) (by simp [results, Try.results19, go_sem]) rfl ?_
  exact ⟨rfl, ⟨two_set1 hC.blk⟩, ⟨rfl, rfl, rfl, by simp [World.setCell], fun k _ hne => Below.heap_setCell _ _ _ _ (fun e => hne (by rw [e]))⟩, by simp [World.setCell]⟩
theorem tick_over (p : Nat) (i : Int) (w : World) (hC : COk w p i 72057594037927936) (h0 : 0 ≤ i) (h7 : i < 8) : Calls Try.prog 19 #[.pointer (some ⟨p, 0, none⟩)] w fun e w' => e = .returned (.tuple #[.int .u64 0, .int .i64 11]) ∧ COk w' p i 72057594037927936 ∧ w.grownBy w' (some p) ∧ w'.heap.size = w.heap.size := by
  have hmk : ∀ W, Calls Try.prog 9 #[.int .u64 72057594037927937, .int .i64 i] W fun e w' => e = .returned (.tuple #[.int .u64 0, .int .i64 11]) ∧ w' = W := by
    intro W
    have h := make_any 72057594037927937 i W
    obtain ⟨e1, e2⟩ := mk_badCount (n := 72057594037927937) (i := i) (by omega) (by omega)
    rw [e1, e2] at h
    exact h
  obtain ⟨c0, c1, f0, f1⟩ := two_cells hC.blk
  have hlt := hC.lt
  go_enter Try.func19, Try.ntmps19
  go_wp2_with fail
  go_quiet ((go_at_call 9; exact Calls.quiet_of_same (hmk _)))
  go_wp2
  refine bodyPost_ret (v := .tuple #[.int .u64 0, .int .i64 11]) (by simp [results, Try.results19, go_sem]) rfl ?_
  exact ⟨rfl, hC.drewN, grownBy_drewN (World.grownBy.refl _ _), rfl⟩

/-- Tick, at any count that a clock can have. -/
theorem tick_any (p : Nat) (i : Int) (c : Nat) (w : World) (hC : COk w p i c) (h0 : 0 ≤ i) (h7 : i < 8) (hc : c ≤ 72057594037927936) : Calls Try.prog 19 #[.pointer (some ⟨p, 0, none⟩)] w fun e w' => e = .returned (.tuple #[.int .u64 ((mkL (c + 1) i : Nat) : Int), .int .i64 (mkE (c + 1) i)]) ∧ COk w' p i (tickN c) ∧ w.grownBy w' (some p) ∧ w'.heap.size = w.heap.size := by
  by_cases hlt : c < 72057594037927936
  · obtain ⟨e1, e2⟩ := mk_good (n := c + 1) (i := i) (by omega) (by omega)
    rw [e1, e2, show tickN c = c + 1 by simp [tickN, hlt]]
    exact tick_yes p i c w hC h0 h7 hlt
  · obtain rfl : c = 72057594037927936 := by omega
    obtain ⟨e1, e2⟩ := mk_badCount (n := 72057594037927936 + 1) (i := i) (by omega) (by omega)
    rw [e1, e2, show tickN 72057594037927936 = 72057594037927936 by simp [tickN]]
    exact tick_over p i w hC h0 h7

theorem lives_any (w : World) : Calls Try.prog 15 #[] w fun e w' => e = .returned (.bool true) ∧ Below w.heap.size w w' := by
  have h1 := make_any 3 2 w
  rw [show mkL 3 2 = 50 by decide, show mkE 3 2 = 0 by decide] at h1
  have h2 := new_yes 1 w (by omega) (by omega)
  go_enter Try.func15, Try.ntmps15
  go_wp2_with fail
  refine h1.mono ?_
  rintro e w0 ⟨rfl, hw⟩
  obtain rfl := hw.symm
  go_wp2_with fail
  refine h2.mono ?_
  rintro e w1 ⟨rfl, hC, hb1, hs1⟩
  go_wp2_with fail
  refine (see_any w.heap.size 1 0 50 w1 hC (by omega)).mono ?_
  rintro e w2 ⟨rfl, hC2, hg2, hs2⟩
  rw [show seeN 0 50 = 3 by decide] at hC2
  go_wp2_with fail
  refine (tick_yes w.heap.size 1 3 w2 hC2 (by omega) (by omega) (by omega)).mono ?_
  rintro e w3 ⟨rfl, hC3, hg3, hs3⟩
  rw [show (16 * (3 + 1) + (1 : Int).toNat : Nat) = 65 by decide]
  go_wp2
  go_ret
  exact ⟨rfl, (hb1.grown hg2 (by omega) (by simp)).grown hg3 (by omega) (by simp)⟩
end Go.Proofs.Ytflemjdeciekeaa
