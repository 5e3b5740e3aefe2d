/-
  A slice of things that came in, opened.
-/
import Derived.Test.YtdknodmdndkneaaTs
import Derived.Test.YtdknodmdndkneaaArg
import Derived.Deep.Strs
namespace Go.Proofs.Ytdknodmdndkneaa
open Go.ChangeShapes Go.WideShapes Go.ChangeAt Go.RowKit Go.Deep

theorem Try.cells28 : Try.prog.cellsOf 28 = 3 := by kernel_rfl
theorem Try.cells3 : Try.prog.cellsOf 3 = 1 := by kernel_rfl
theorem Try.cells26 : Try.prog.cellsOf 26 = 1 := by kernel_rfl
theorem Try.cells9 : Try.prog.cellsOf 9 = 1 := by kernel_rfl

theorem cells_three {w : World} {base : Nat} {a : Addr} {cs : List Value} (h : w.cells? base a 3 = some cs) : ∃ v0 v1 v2, cs = [v0, v1, v2] ∧ w.cell? a = some v0 ∧ w.cell? (a.add 1) = some v1 ∧ w.cell? (a.add 2) = some v2 := by
  obtain ⟨hb, hl, hc⟩ := World.cells?_some h
  match cs, hl with
  | [v0, v1, v2], _ =>
    have h0 := hc 0 (by simp)
    have h1 := hc 1 (by simp)
    have h2 := hc 2 (by simp)
    exact ⟨v0, v1, v2, rfl, by simpa [Addr.add] using h0, by simpa using h1, by simpa using h2⟩

theorem open_things {H : Type} {enc : TypeId × Value → H} {W : World} {base : Nat} {spare : Nat → Bool} {held : Bool} {fuel : Nat} {a : Option Addr} {n c : Nat} {x : DataW H × List MemPlace}
    (hf : DataW.trod enc Try.prog W base spare held fuel 22 [.slice a n c] = some x) : ∃ K N S, Things W a n K N S ∧ n ≤ maxLen := by
  rcases open_slice Try.underlying22 hf with ⟨hcs, _⟩ | ⟨ad, len, cap, m, nf, D, Pl, hcs, _, hl, hm, hmm, _, hx⟩
  · simp at hcs
    obtain ⟨rfl, rfl, rfl⟩ := hcs
    exact ⟨fun _ => 0, fun _ => 0, fun _ => ByteArray.empty, ⟨fun _ => rfl, fun y hy => by simp at hy, fun i hi => by omega⟩, by simp⟩
  · simp at hcs
    obtain ⟨rfl, rfl, rfl⟩ := hcs
    have hlm : n ≤ m := by rw [hmm]; split <;> omega
    have hsp : 0 < n → ad.spot = none := by
      intro h0
      obtain ⟨cs', hc, _⟩ := hx 0 (by omega)
      rw [Try.cells28] at hc
      obtain ⟨v0, v1, v2, rfl, e0, _, _⟩ := cells_three hc
      have := World.cell?_spot e0
      simpa [Addr.add] using this
    have each : ∀ i, i < n → ∃ q : Int × Int × ByteArray, (ad.spot = none ∧ W.cell? ⟨ad.block, ad.off + i * 3, none⟩ = some (.int .i64 q.1) ∧ W.cell? ⟨ad.block, ad.off + i * 3 + 1, none⟩ = some (.int .u64 q.2.1) ∧ W.cell? ⟨ad.block, ad.off + i * 3 + 2, none⟩ = some (.string q.2.2)) ∧ 0 ≤ q.2.1 ∧ q.2.1 < 18446744073709551616 ∧ q.2.2.size ≤ maxLen := by
      intro i hi
      obtain ⟨cs', hc, ht⟩ := hx i (by omega)
      rw [Try.cells28] at hc
      obtain ⟨v0, v1, v2, rfl, e0, e1, e2⟩ := cells_three hc
      obtain ⟨y0, y1, y2, nn, _, _, t0, t1, t2⟩ := trod_struct3 Try.underlying28 ht
      obtain ⟨kk, q0, _, _⟩ := DataW.trod_int Try.underlying3 t0
      obtain ⟨nv, q1, _, wf1⟩ := DataW.trod_int Try.underlying26 t1
      obtain ⟨sv, q2, _, hsv⟩ := DataW.trod_string Try.underlying9 t2
      simp [Try.cells3, Try.cells26, Try.cells9] at q0 q1 q2
      subst q0 q1 q2
      have hb : 0 ≤ nv ∧ nv < 18446744073709551616 := by
        simp [Lit.wf, IntKind.min, IntKind.max, IntKind.signed, IntKind.bits] at wf1
        omega
      obtain ⟨ab, ao, asp⟩ := ad
      obtain rfl : asp = none := hsp (by omega)
      have ea : ∀ j, (⟨ab, ao, none⟩ : Addr).add j = ⟨ab, ao + j, none⟩ := fun j => by unfold Addr.add; split <;> simp_all
      have eb : ∀ q j, (⟨ab, q, none⟩ : Addr).add j = ⟨ab, q + j, none⟩ := fun q j => by unfold Addr.add; split <;> simp_all
      rw [ea] at e0 e1 e2
      rw [eb] at e1 e2
      exact ⟨(kk, nv, sv), ⟨rfl, e0, e1, e2⟩, hb.1, hb.2, hsv⟩
    obtain ⟨q, hq⟩ := choose_lt each
    exact ⟨fun i => (q i).1, fun i => (q i).2.1, fun i => (q i).2.2, ⟨fun h => by simp at h, fun y hy i hi => by simp at hy; subst hy; exact (hq i hi).1, fun i hi => (hq i hi).2⟩, by omega⟩

end Go.Proofs.Ytdknodmdndkneaa
