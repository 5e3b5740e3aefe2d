/-
  The walk of Bytes.
-/
import Derived.Test.YtebchgoaelamcaaDoorBc
import Derived.Test.YtebchgoaelamcaaDoorMo
namespace Go.Proofs.YtebchgoaelamcaaDoor
open Go.RowKit
set_option maxRecDepth 100000

theorem slotAt' (x : Int) (i s : Nat) (w : World) (hx : x = (i : Int)) (hs : s = 16 + 4 * i) (h : i ≤ 1000000) : Calls Tryd.prog 41 #[.int .i64 x] w fun e w' => e = .returned (.int .i64 (s : Int)) ∧ w' = w := by
  subst hx hs
  exact slotAt_any i w h

/-- A new block of noughts. -/
theorem make_buf (W : World) : (Instr.makeSlice 42 (.int .i64 512) (.int .i64 512)).run Tryd.prog W = .ok (.slice (some ⟨W.heap.size, 0, none⟩) 512 512) (W.alloc (.cells (bcells (List.replicate 512 0)).toArray 5)) := by
  obtain ⟨i0, hi, hz0, hz1, hz2⟩ := info_parts Tryd.info5
  have h := run_make (P := Tryd.prog) W 42 5 i0 (.int .u8 0) Tryd.underlying42 hi hz0 .i64 .i64 512 512 (by omega) (by omega) (by rw [hz2]; omega) (by omega)
  rw [hz1] at h
  have e : madeCells (Value.int .u8 0).cells (Int.toNat 512 * 1) = (bcells (List.replicate 512 0)).toArray := by kernel_rfl
  rw [e] at h
  exact h

theorem wrap_u (k : Int) (h : 0 ≤ k) (h' : k < 18446744073709551616) : IntKind.u64.wrap k = k := by
  rw [IntKind.wrap_u64]
  omega

end Go.Proofs.YtebchgoaelamcaaDoor
