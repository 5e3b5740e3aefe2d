/-
  GraphTexts: a number's text.
-/
import Derived.Test.YtoihjkpjijncdaaLb
import Derived.Laws.BytesArg
namespace Go.Proofs.Ytoihjkpjijncdaa
open Go.RowKit Go.Maps

def nmL (n : Nat) : List UInt8 := [UInt8.ofNat (48 + n / 10), UInt8.ofNat (48 + n % 10)]
def nmB (n : Nat) : ByteArray := ⟨(nmL n).toArray⟩

set_option maxRecDepth 100000 in
set_option maxHeartbeats 1000000 in
theorem named28 (w : World) (n : Nat) (h : n ≤ 99) : Calls Try.prog 28 #[.int .i64 (n : Int)] w fun e w' => e = .returned (.string (nmB n)) ∧ Below w.heap.size w w' := by
  have hq : (n : Int).tdiv 10 = ((n / 10 : Nat) : Int) := by rw [Int.tdiv_eq_ediv_of_nonneg (by omega)]; omega
  have hr : (n : Int).tmod 10 = ((n % 10 : Nat) : Int) := by rw [Int.tmod_eq_emod_of_nonneg (by omega)]; omega
  have hq2 : n / 10 ≤ 9 := by omega
  have hr2 : n % 10 ≤ 9 := by omega
  have HV : Hid (nmB n = ⟨#[UInt8.ofNat (48 + n / 10), UInt8.ofNat (48 + n % 10)]⟩) := rfl
  generalize n / 10 = q at *
  generalize n % 10 = r at *
  have hc := run_convert_bytes_arg (P := Try.prog) (w.alloc (.cells #[.int .u8 (48 + (q : Int)), .int .u8 (48 + (r : Int))] 5)) 75 5 Try.underlying75 Try.underlying5 w.heap.size 0 2 2 [48 + (q : Int), 48 + (r : Int)] rfl (fun i hi => by
    have h1 := (MapKept.heap_alloc w (.cells #[.int .u8 (48 + (q : Int)), .int .u8 (48 + (r : Int))] 5)).1
    have : i = 0 ∨ i = 1 := by omega
    rcases this with rfl | rfl <;> (unfold World.cell?; rw [h1]; rfl)) 9 Try.underlying9
  have hS : strOfNums [48 + (q : Int), 48 + (r : Int)] = nmB n := by
    rw [HV.out]
    unfold strOfNums
    rw [show [48 + (q : Int), 48 + (r : Int)] = [((48 + q : Nat) : Int), ((48 + r : Nat) : Int)] by simp]
    rfl
  rw [hS] at hc
  clear hS HV
  go_enter Try.func28, Try.ntmps28
  go_wp2_with fail
  go_ret
  exact ⟨rfl, (Below.refl _ _).alloc (Nat.le_refl _) _⟩

/-- A text for each number, in their order. -/
theorem nm_inj {n m : Nat} (hn : n ≤ 99) (hm : m ≤ 99) (h : nmL n = nmL m) : n = m := by
  simp [nmL] at h
  obtain ⟨h1, h2⟩ := h
  have h1 := congrArg UInt8.toNat h1
  have h2 := congrArg UInt8.toNat h2
  simp at h1 h2
  omega
theorem nm_lt {n m : Nat} (hm : m ≤ 99) (h : n < m) : nmL n < nmL m := by
  have u1 : ∀ a b : Nat, a < b → b < 256 → UInt8.ofNat a < UInt8.ofNat b := fun a b h1 h2 => by
    rw [UInt8.lt_iff_toNat_lt]
    simp
    omega
  unfold nmL
  rcases Nat.lt_or_ge (n / 10) (m / 10) with h1 | h1
  · exact List.Lex.rel (u1 _ _ (by omega) (by omega))
  · have e : n / 10 = m / 10 := by omega
    rw [e]
    exact List.Lex.cons (List.Lex.rel (u1 _ _ (by omega) (by omega)))

end Go.Proofs.Ytoihjkpjijncdaa
