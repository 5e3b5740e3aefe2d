/-
  A slice of bytes that came in, opened.
-/
import Derived.Test.YtjdfjeaeoadmdaaAr
namespace Go.Proofs.Ytjdfjeaeoadmdaa
open Go.ChangeShapes Go.WideShapes Go.ChangeAt Go.RowKit

theorem open_bytes {H : Type} {enc : TypeId × Value → H} {W : World} {base : Nat} {spare : Nat → Bool} {held : Bool} {fuel : Nat} {a : Option Addr} {n c : Nat} {x : DataW H × List MemPlace}
    (hf : DataW.trod enc Try.prog W base spare held fuel 22 [.slice a n c] = some x) (hre : ∀ p q, x.1 = .slice p q → (p.length + q.length) * Try.prog.bytesOf 5 ≤ reachBytes) :
    ∃ l : List UInt8, n = l.length ∧ SlB W a l ∧ l.length ≤ 140737488355328 ∧ l.length ≤ c ∧ (a = none → c = 0) := by
  rcases open_ints Try.underlying22 Try.underlying5 Try.cells5 hf with ⟨hcs, _⟩ | ⟨y, ln, cp, zs, hcs, _, hl, hm, hz, hx, hcell, hwz⟩
  · simp at hcs
    obtain ⟨rfl, rfl, rfl⟩ := hcs
    exact ⟨[], rfl, SlB.empty, by simp, by simp, fun _ => rfl⟩
  · simp at hcs
    obtain ⟨rfl, rfl, rfl⟩ := hcs
    have hlz : n ≤ zs.length := by rw [hz]; split <;> omega
    have hreach := hre _ _ (by rw [hx])
    rw [Try.bytes5] at hreach
    simp only [lits, List.length_map, List.length_take, List.length_drop, reachBytes] at hreach
    refine ⟨toB (zs.take n), by simp [toB]; omega, slB_ints hcell hwz, by simp [toB]; omega, by simp [toB]; omega, fun h => by simp at h⟩

end Go.Proofs.Ytjdfjeaeoadmdaa
