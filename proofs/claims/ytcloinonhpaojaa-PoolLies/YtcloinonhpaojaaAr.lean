/-
  Steps that came in, opened.
-/
import Derived.Test.YtcloinonhpaojaaSo
import Derived.ProofKit
import Derived.OpenShut
import Derived.ShutString
import Derived.SizedLaws
import Derived.Deep.Strs
import Derived.Lib.SmallJoins
namespace Go.Proofs.Ytcloinonhpaojaa
open Go.ChangeShapes Go.WideShapes Go.ChangeAt Go.RowKit Go.Deep

theorem Try.own : ownKnob Try.prog.godebug = none := by kernel_rfl
theorem Try.laidOut : laidOutB Try.prog = true := by kernel_rfl
theorem Try.cells3 : Try.prog.cellsOf 3 = 1 := by kernel_rfl
theorem Try.cells9 : Try.prog.cellsOf 9 = 1 := by kernel_rfl
theorem Try.cells27 : Try.prog.cellsOf 27 = 1 := by kernel_rfl
theorem Try.cells30 : Try.prog.cellsOf 30 = 6 := by kernel_rfl

theorem cells_q6 {w : World} {base : Nat} {a : Addr} {cs : List Value} (h : w.cells? base a 6 = some cs) : ∃ v0 v1 v2 v3 v4 v5, cs = [v0, v1, v2, v3, v4, v5] ∧ w.cell? a = some v0 ∧ w.cell? (a.add 1) = some v1 ∧ w.cell? (a.add 2) = some v2 ∧ w.cell? (a.add 3) = some v3 ∧ w.cell? (a.add 4) = some v4 ∧ w.cell? (a.add 5) = some v5 := by
  obtain ⟨hb, hl, hc⟩ := World.cells?_some h
  match cs, hl with
  | [v0, v1, v2, v3, v4, v5], _ =>
    have h0 := hc 0 (by simp)
    have h1 := hc 1 (by simp)
    have h2 := hc 2 (by simp)
    have h3 := hc 3 (by simp)
    have h4 := hc 4 (by simp)
    have h5 := hc 5 (by simp)
    exact ⟨v0, v1, v2, v3, v4, v5, rfl, by simpa [Addr.add] using h0, by simpa using h1, by simpa using h2, by simpa using h3, by simpa using h4, by simpa using h5⟩

theorem u64_nat {n : Int} (w : (Lit.int .u64 n).wf = true) : n = ((n.toNat : Nat) : Int) ∧ n.toNat < 18446744073709551616 := by
  simp [Lit.wf, IntKind.min, IntKind.max, IntKind.signed, IntKind.bits] at w
  omega
theorem txt_of (s : ByteArray) : txt s.data.toList = s := by
  cases s
  simp [txt]
theorem len_of (s : ByteArray) : s.data.toList.length = s.size := Array.length_toList

set_option maxRecDepth 20000 in
theorem open_op {H : Type} {enc : TypeId × Value → H} {W : World} {base : Nat} {spare : Nat → Bool} {held : Bool} {fuel : Nat} {v0 v1 v2 v3 v4 v5 : Value} {x : DataW H × List MemPlace}
    (hf : DataW.trod enc Try.prog W base spare held fuel 30 [v0, v1, v2, v3, v4, v5] = some x) : ∃ o : Ov, #[v0, v1, v2, v3, v4, v5] = o.cells ∧ o.Wf := by
  obtain ⟨xs, n, _, hxe, _, hxl, hx⟩ := DataW.trod_struct Try.underlying30 hf
  match xs, hxl with
  | [y0, y1, y2, y3, y4, y5], _ =>
    have t0 := hx 0 _ rfl
    have t1 := hx 1 _ rfl
    have t2 := hx 2 _ rfl
    have t3 := hx 3 _ rfl
    have t4 := hx 4 _ rfl
    have t5 := hx 5 _ rfl
    obtain ⟨n0, q0, _, _⟩ := DataW.trod_int Try.underlying3 t0
    obtain ⟨n1, q1, _, _⟩ := DataW.trod_int Try.underlying3 t1
    obtain ⟨n2, q2, _, w2⟩ := DataW.trod_int Try.underlying27 t2
    obtain ⟨n3, q3, _, w3⟩ := DataW.trod_int Try.underlying27 t3
    obtain ⟨s4, q4, _, w4⟩ := DataW.trod_string Try.underlying9 t4
    obtain ⟨s5, q5, _, w5⟩ := DataW.trod_string Try.underlying9 t5
    simp [Try.cells3, Try.cells9, Try.cells27] at q0 q1 q2 q3 q4 q5
    subst q0 q1 q2 q3 q4 q5
    refine ⟨⟨n0, n1, n2.toNat, n3.toNat, s4.data.toList, s5.data.toList⟩, ?_, ⟨by rw [len_of]; exact w4, by rw [len_of]; exact w5, (u64_nat w2).2, (u64_nat w3).2⟩⟩
    simp only [Ov.cells]
    rw [txt_of, txt_of, ← (u64_nat w2).1, ← (u64_nat w3).1]

set_option maxRecDepth 20000 in
theorem open_ops {H : Type} {enc : TypeId × Value → H} {W : World} {base : Nat} {spare : Nat → Bool} {held : Bool} {fuel : Nat} {v : Value} {x : DataW H × List MemPlace}
    (hf : DataW.trod enc Try.prog W base spare held fuel 22 [v] = some x) : ∃ a c, ∃ l : List Ov, v = .slice a l.length c ∧ SlO W a l ∧ l.length ≤ maxLen := by
  rcases open_slice Try.underlying22 hf with ⟨hcs, _⟩ | ⟨ad, n, cap, m, nf, D, Pl, hcs, _, hl, hm, hmm, _, hx⟩
  · simp at hcs
    subst hcs
    exact ⟨none, 0, [], rfl, ⟨fun _ => rfl, fun y hy => by simp at hy, by simp⟩, by simp⟩
  · simp at hcs
    subst hcs
    have hlm : n ≤ m := by rw [hmm]; split <;> omega
    have hsp : 0 < n → ad.spot = none := by
      intro h0
      obtain ⟨cs', hc, _⟩ := hx 0 (by omega)
      rw [Try.cells30] at hc
      obtain ⟨v0, v1, v2, v3, v4, v5, rfl, e0, _⟩ := cells_q6 hc
      have := World.cell?_spot e0
      simpa [Addr.add] using this
    have each : ∀ i, i < n → ∃ t : Ov, ad.spot = none ∧ W.cell? ⟨ad.block, ad.off + i * 6, none⟩ = some (.int .i64 t.kind) ∧ W.cell? ⟨ad.block, ad.off + i * 6 + 1, none⟩ = some (.int .i64 t.page) ∧ W.cell? ⟨ad.block, ad.off + i * 6 + 2, none⟩ = some (.int .u64 (t.tm : Int)) ∧ W.cell? ⟨ad.block, ad.off + i * 6 + 3, none⟩ = some (.int .u64 (t.rec_ : Int)) ∧ W.cell? ⟨ad.block, ad.off + i * 6 + 4, none⟩ = some (.string (txt t.key)) ∧ W.cell? ⟨ad.block, ad.off + i * 6 + 5, none⟩ = some (.string (txt t.val)) ∧ t.Wf := by
      intro i hi
      obtain ⟨cs', hc, ht⟩ := hx i (by omega)
      rw [Try.cells30] at hc
      obtain ⟨v0, v1, v2, v3, v4, v5, rfl, e0, e1, e2, e3, e4, e5⟩ := cells_q6 hc
      obtain ⟨o, ho, hw⟩ := open_op ht
      simp only [Ov.cells, Array.mk.injEq, List.cons.injEq, and_true] at ho
      obtain ⟨rfl, rfl, rfl, rfl, rfl, rfl⟩ := ho
      obtain ⟨ab, ao, asp⟩ := ad
      obtain rfl : asp = none := hsp (by omega)
      have eb : ∀ q j, (⟨ab, q, none⟩ : Addr).add j = ⟨ab, q + j, none⟩ := fun q j => by unfold Addr.add; split <;> simp_all
      rw [eb] at e0 e1 e2 e3 e4 e5
      rw [eb] at e1 e2 e3 e4 e5
      exact ⟨o, rfl, e0, e1, e2, e3, e4, e5, hw⟩
    obtain ⟨q, hq⟩ := choose_lt each
    have hln : ((List.range n).map fun i => q i).length = n := by simp
    refine ⟨some ad, cap, (List.range n).map fun i => q i, by rw [hln], ⟨fun h => by simp at h, fun y hy i t ht => ?_, fun t ht => ?_⟩, by omega⟩
    · simp at hy
      subst hy
      have hi : i < n := by have := (List.getElem?_eq_some_iff.1 ht).1; omega
      simp [hi] at ht
      subst ht
      obtain ⟨h0, h1, h2, h3, h4, h5, h6, _⟩ := hq i hi
      exact ⟨h0, h1, h2, h3, h4, h5, h6⟩
    · simp at ht
      obtain ⟨i, hi, rfl⟩ := ht
      obtain ⟨_, _, _, _, _, _, _, h7⟩ := hq i hi
      exact h7
end Go.Proofs.Ytcloinonhpaojaa
