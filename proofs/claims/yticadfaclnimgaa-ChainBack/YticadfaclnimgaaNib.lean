/-
  The walk of nibbles: the table of what four bits do.
-/
import Derived.Test.YticadfaclnimgaaChecked
import Derived.Test.YticadfaclnimgaaWr
import Derived.Laws.BitsAllLaws
import Derived.Laws.BitsLemmas
import Derived.Deep.WholeRow
import Derived.Laws.ResultCell
namespace Go.Proofs.Yticadfaclnimgaa
open Go.RowKit

/-- The table behind k rounds. -/
def tabc (k : Nat) : Array Value := Array.ofFn (n := 16) fun j => .int .u32 ((if j.val < k then zrun 4 j.val else 0 : Nat) : Int)

theorem tabc_size (k : Nat) : (tabc k).size = 16 := by simp [tabc]
theorem tabc_at (k j : Nat) (h : j < 16) : (tabc k)[j]? = some (.int .u32 ((if j < k then zrun 4 j else 0 : Nat) : Int)) := by
  simp [tabc, h]
theorem tabc_zero : tabc 0 = Array.replicate 16 (.int .u32 0) := by rfl
theorem tabc_set (k : Nat) (h : k < 16) : (tabc k).setIfInBounds k (.int .u32 ((zrun 4 k : Nat) : Int)) = tabc (k + 1) := by
  apply Array.ext_getElem?
  intro i
  by_cases hi : i < 16
  · rw [tabc_at (k + 1) i hi, Array.getElem?_setIfInBounds]
    by_cases e : k = i
    · subst e
      simp [tabc_size, h]
    · rw [if_neg e, tabc_at k i hi]
      by_cases h2 : i < k
      · simp [h2, show i < k + 1 by omega]
      · simp [h2, show ¬ i < k + 1 by omega]
  · simp [tabc_size, hi]

/-- The whole table, written out. -/
def tab : Array Value := #[.int .u32 0, .int .u32 274646895, .int .u32 549293790, .int .u32 820201905, .int .u32 1098587580, .int .u32 1361435347, .int .u32 1640403810, .int .u32 1905808397, .int .u32 2197175160, .int .u32 2460548119, .int .u32 2722870694, .int .u32 2987750089, .int .u32 3280807620, .int .u32 3553878443, .int .u32 3811616794, .int .u32 4084100981]
theorem tab_eq : tabc 16 = tab := by rfl
theorem tabz_eq : tabc 0 = #[.int .u32 0, .int .u32 0, .int .u32 0, .int .u32 0, .int .u32 0, .int .u32 0, .int .u32 0, .int .u32 0, .int .u32 0, .int .u32 0, .int .u32 0, .int .u32 0, .int .u32 0, .int .u32 0, .int .u32 0, .int .u32 0] := by rfl

/-- One bit, as the program takes it. -/
theorem nib_step (r : Nat) (h : r < 4294967296) : bits .xor .u32 ((r : Int) / 2) (bits .and .u32 (r : Int) 1 * 2197175160 % 4294967296) = ((zstep r : Nat) : Int) := by
  have e1 : bits .and .u32 (r : Int) 1 = ((r % 2 : Nat) : Int) := by
    have := u32_and_nat r 1 h (by omega)
    rw [nat_mask1] at this
    exact this
  rw [e1]
  have e2 : ((r % 2 : Nat) : Int) * 2197175160 % 4294967296 = ((if r % 2 = 1 then poly else 0 : Nat) : Int) := by
    rcases Nat.mod_two_eq_zero_or_one r with h | h <;> simp [h, poly]
  rw [e2]
  have := u32_xor_nat (r / 2) (if r % 2 = 1 then poly else 0) (by omega) (by split <;> simp [poly])
  simpa [zstep] using this

theorem heap_second (w : World) (a b : Obj) : ((w.alloc a).alloc b).heap[w.heap.size]? = some a := by
  have h := ((Below.refl (w.heap.size + 1) (w.alloc a)).alloc (by simp) b).block w.heap.size (by omega)
  rw [h]
  exact heap_alloc_new w a

end Go.Proofs.Yticadfaclnimgaa
