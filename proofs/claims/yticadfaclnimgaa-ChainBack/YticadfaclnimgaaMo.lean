/-
  The walks of More, Sum and lives.
-/
import Derived.Test.YticadfaclnimgaaNib
import Derived.Lib.SlBytesConst
namespace Go.Proofs.Yticadfaclnimgaa
open Go.RowKit

theorem SlB.atc {w : World} {g o : Nat} {sp : Option Nat} {l : List UInt8} (h : SlB w (some ⟨g, o, sp⟩) l) (j : Nat) (hj : j < l.length) : sp = none ∧ w.cell? ⟨g, o + j, none⟩ = some (.int .u8 ((l[j]'hj).toNat : Nat)) := by
  have h0 := h.cells _ rfl 0 (.int .u8 ((l[0]'(by omega)).toNat : Nat)) (by simp [bcells, List.getElem?_eq_getElem (show 0 < l.length by omega)])
  have hs := World.cell?_spot h0
  obtain rfl : sp = none := by simpa [Addr.add] using hs
  refine ⟨rfl, ?_⟩
  have := h.cells _ rfl j (.int .u8 ((l[j]'hj).toNat : Nat)) (by simp [bcells, List.getElem?_eq_getElem hj])
  rw [← this]
  congr 1
  unfold Addr.add
  split <;> simp_all

/-- Four bits by the table, as the program takes them. -/
theorem nib_look (r : Nat) (h : r < 4294967296) : ∃ m t : Nat, bits .and .u32 (r : Int) 15 = (m : Int) ∧ m < 16 ∧ tab[m]? = some (.int .u32 (t : Int)) ∧ bits .xor .u32 ((r : Int) / 16) (t : Int) = ((zrun 4 r : Nat) : Int) := by
  refine ⟨r % 16, zrun 4 (r % 16), ?_, by omega, ?_, ?_⟩
  · have := u32_and_nat r 15 h (by omega)
    rw [nat_mask4] at this
    exact this
  · rw [← tab_eq, tabc_at 16 _ (by omega)]
    simp [show r % 16 < 16 by omega]
  · have := u32_xor_nat (r / 16) (zrun 4 (r % 16)) (by omega) (zrun_lt _ _ (by omega))
    rw [zrun_table 4 r, Nat.xor_comm]
    simpa using this

theorem not_u32 (s : Nat) (h : s < 4294967296) : bits .xor .u32 IntKind.u32.max (s : Int) = ((4294967295 - s : Nat) : Int) := by
  have := u32_xor_nat 4294967295 s (by omega) h
  rw [Nat.xor_comm, ← not32 s h] at this
  exact this

theorem crun_snoc (n : Nat) (l : List UInt8) (b : UInt8) : crun n (l ++ [b]) = zrun 4 (zrun 4 (crun n l ^^^ b.toNat)) := by
  rw [crun_append, ← zrun_add]
  rfl

end Go.Proofs.Yticadfaclnimgaa
