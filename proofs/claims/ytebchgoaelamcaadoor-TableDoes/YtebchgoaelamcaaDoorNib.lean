/-
  The walk of nibbles: the table of what four bits do.
-/
import Derived.Test.YtebchgoaelamcaaDoorChecked
import Derived.Test.YtebchgoaelamcaaDoorPc
import Derived.Laws.BitsAllLaws
import Derived.Laws.BitsLemmas
import Derived.Deep.WholeRow
import Derived.Laws.ResultCell
namespace Go.Proofs.YtebchgoaelamcaaDoor
open Go.RowKit
set_option maxRecDepth 100000

/-- The table behind k rounds. -/
def tabc (k : Nat) : Array Value := Array.ofFn (n := 16) fun j => .int .u32 ((if j.val < k then zrun 4 j.val else 0 : Nat) : Int)

theorem tabc_size (k : Nat) : (tabc k).size = 16 := by simp [tabc]
theorem tabc_at (k j : Nat) (h : j < 16) : (tabc k)[j]? = some (.int .u32 ((if j < k then zrun 4 j else 0 : Nat) : Int)) := by
  simp [tabc, h]
theorem tabc_zero : tabc 0 = Array.replicate 16 (.int .u32 0) := by rfl
theorem tabc_set (k : Nat) (h : k < 16) : (tabc k).setIfInBounds k (.int .u32 ((zrun 4 k : Nat) : Int)) = tabc (k + 1) := by
  apply Array.ext_getElem?
  intro i
  by_cases hi : i < 16
  · rw [tabc_at (k + 1) i hi, Array.getElem?_setIfInBounds]
    by_cases e : k = i
    · subst e
      simp [tabc_size, h]
    · rw [if_neg e, tabc_at k i hi]
      by_cases h2 : i < k
      · simp [h2, show i < k + 1 by omega]
      · simp [h2, show ¬ i < k + 1 by omega]
  · simp [tabc_size, hi]

/-- The whole table, written out. -/
def tab : Array Value := #[.int .u32 0, .int .u32 274646895, .int .u32 549293790, .int .u32 820201905, .int .u32 1098587580, .int .u32 1361435347, .int .u32 1640403810, .int .u32 1905808397, .int .u32 2197175160, .int .u32 2460548119, .int .u32 2722870694, .int .u32 2987750089, .int .u32 3280807620, .int .u32 3553878443, .int .u32 3811616794, .int .u32 4084100981]
theorem tab_eq : tabc 16 = tab := by rfl
theorem tabz_eq : tabc 0 = #[.int .u32 0, .int .u32 0, .int .u32 0, .int .u32 0, .int .u32 0, .int .u32 0, .int .u32 0, .int .u32 0, .int .u32 0, .int .u32 0, .int .u32 0, .int .u32 0, .int .u32 0, .int .u32 0, .int .u32 0, .int .u32 0] := by rfl

/-- One bit, as the program takes it. -/
theorem nib_step (r : Nat) (h : r < 4294967296) : bits .xor .u32 ((r : Int) / 2) (bits .and .u32 (r : Int) 1 * 2197175160 % 4294967296) = ((zstep r : Nat) : Int) := by
  have e1 : bits .and .u32 (r : Int) 1 = ((r % 2 : Nat) : Int) := by
    have := u32_and_nat r 1 h (by omega)
    rw [nat_mask1] at this
    exact this
  rw [e1]
  have e2 : ((r % 2 : Nat) : Int) * 2197175160 % 4294967296 = ((if r % 2 = 1 then poly else 0 : Nat) : Int) := by
    rcases Nat.mod_two_eq_zero_or_one r with h | h <;> simp [h, poly]
  rw [e2]
  have := u32_xor_nat (r / 2) (if r % 2 = 1 then poly else 0) (by omega) (by split <;> simp [poly])
  simpa [zstep] using this

theorem heap_second (w : World) (a b : Obj) : ((w.alloc a).alloc b).heap[w.heap.size]? = some a := by
  have h := ((Below.refl (w.heap.size + 1) (w.alloc a)).alloc (by simp) b).block w.heap.size (by omega)
  rw [h]
  exact heap_alloc_new w a

theorem nibbles_any (w : World) : Calls Tryd.prog 83 #[] w fun e w' => e = .returned (.agg tab) ∧ Below w.heap.size w w' := by
  go_enter Tryd.func83, Tryd.ntmps83
  go_wp2_with fail
  go_loopw [5] (fun i ws => ∃ k : Nat, k ≤ 16 ∧ i = .int .i64 k ∧ ws = (w.alloc (.cells (tabc 0) 128)).alloc (.cells (tabc k) 128)) (fun i _ => 16 - (intOf i).toNat)
  case atStart => exact ⟨0, by omega, rfl, by rw [tabc_zero]; rfl⟩
  case round =>
    obtain ⟨k, hk, rfl, rfl⟩ := hrel
    by_cases hlt : k < 16
    · obtain ⟨T, HT, hT⟩ : ∃ T, Hid (T = tabc k) ∧ T[k]? = some (.int .u32 0) := ⟨_, rfl, by rw [tabc_at k k hlt]; simp⟩
      obtain ⟨Z, HZ⟩ : ∃ Z, Hid (Z = tabc 0) := ⟨_, rfl⟩
      rw [← HT.out, ← HZ.out]
      go_wp2
      go_loopw [3, 10] (fun r i ws => ∃ j : Nat, j ≤ 4 ∧ r = .int .u32 ((zrun j k : Nat) : Int) ∧ i = .int .i64 j ∧ ws = (w.alloc (.cells Z 128)).alloc (.cells T 128)) (fun _ i _ => 4 - (intOf i).toNat)
      case atStart => exact ⟨0, by omega, rfl, rfl, rfl⟩
      case round =>
        obtain ⟨j, hj, rfl, rfl, rfl⟩ := hrel
        by_cases hjl : j < 4
        · have hst := nib_step (zrun j k) (zrun_lt j k (by omega))
          rw [← zrun_succ] at hst
          generalize zrun j k = r at *
          go_wp2
          go_roundw
          case rel => exact ⟨j + 1, by omega, rfl, by go_num, by trivial⟩
          case measure => simp [intOf]; omega
        · obtain ⟨z, hz⟩ : ∃ z, Hid (z = zrun 4 k) ∧ zrun j k = z := ⟨_, rfl, by rw [show j = 4 by omega]⟩
          rw [hz.2]
          obtain ⟨hz, hz2⟩ := hz
          clear hz2
          go_wp2
          go_roundw
          case rel => exact ⟨k + 1, by omega, by go_num, by rw [HT.out, HZ.out, hz.out, tabc_set k hlt]⟩
          case measure => simp [intOf]; omega
    · have e16 : tabc k = tab := by rw [show k = 16 by omega, tab_eq]
      rw [e16, tabz_eq]
      unfold tab
      go_wp2
      refine bodyPost_ret (v := .agg tab) ?_ rfl ⟨rfl, ?_⟩
      · exact results_cell_row (P := Tryd.prog) Tryd.results83 _ _ w.heap.size 128 tab (0, 0) _ rfl (heap_second w _ _) Tryd.underlying128 rfl (by kernel_rfl)
      · exact ((Below.refl _ _).alloc (Nat.le_refl _) _).alloc (by simp) _
end Go.Proofs.YtebchgoaelamcaaDoor
