/-
  What the frames want of the program; edges and steps that came in, opened.
-/
import Derived.Test.YtoihjkpjijncdaaLa
import Derived.ProofKit
import Derived.OpenShut
import Derived.SizedLaws
import Derived.ChangeMaps5
import Derived.Deep.Grids
import Derived.Deep.Slices
namespace Go.Proofs.Ytoihjkpjijncdaa
open Go.ChangeShapes Go.WideShapes Go.ChangeAt Go.RowKit Go.Deep

theorem Try.own : ownKnob Try.prog.godebug = none := by kernel_rfl
theorem Try.laidOut : laidOutB Try.prog = true := by kernel_rfl
theorem Try.cells3 : Try.prog.cellsOf 3 = 1 := by kernel_rfl
theorem Try.cells27 : Try.prog.cellsOf 27 = 2 := by kernel_rfl
theorem Try.cells29 : Try.prog.cellsOf 29 = 3 := by kernel_rfl

theorem add_at (G o j : Nat) : (⟨G, o, none⟩ : Addr).add j = ⟨G, o + j, none⟩ := by unfold Addr.add; split <;> simp_all
theorem cells_q2 {w : World} {base : Nat} {a : Addr} {cs : List Value} (h : w.cells? base a 2 = some cs) : ∃ v0 v1, cs = [v0, v1] ∧ w.cell? a = some v0 ∧ w.cell? (a.add 1) = some v1 := by
  obtain ⟨hb, hl, hc⟩ := World.cells?_some h
  match cs, hl with
  | [v0, v1], _ =>
    have h0 := hc 0 (by simp)
    have h1 := hc 1 (by simp)
    exact ⟨v0, v1, rfl, by simpa [Addr.add] using h0, by simpa using h1⟩
theorem cells_q3 {w : World} {base : Nat} {a : Addr} {cs : List Value} (h : w.cells? base a 3 = some cs) : ∃ v0 v1 v2, cs = [v0, v1, v2] ∧ w.cell? a = some v0 ∧ w.cell? (a.add 1) = some v1 ∧ w.cell? (a.add 2) = some v2 := by
  obtain ⟨hb, hl, hc⟩ := World.cells?_some h
  match cs, hl with
  | [v0, v1, v2], _ =>
    have h0 := hc 0 (by simp)
    have h1 := hc 1 (by simp)
    have h2 := hc 2 (by simp)
    exact ⟨v0, v1, v2, rfl, by simpa [Addr.add] using h0, by simpa using h1, by simpa using h2⟩

theorem open_edgeL {H : Type} {enc : TypeId × Value → H} {W : World} {base : Nat} {spare : Nat → Bool} {held : Bool} {fuel : Nat} {v0 v1 : Value} {x : DataW H × List MemPlace}
    (hf : DataW.trod enc Try.prog W base spare held fuel 27 [v0, v1] = some x) : ∃ n0 n1 : Int, v0 = .int .i64 n0 ∧ v1 = .int .i64 n1 ∧ (Lit.int .i64 n0).wf = true ∧ (Lit.int .i64 n1).wf = true := by
  obtain ⟨y0, y1, nn, _, _, t0, t1⟩ := trod_struct2 Try.underlying27 hf
  obtain ⟨n0, q0, _, u0⟩ := DataW.trod_int Try.underlying3 t0
  obtain ⟨n1, q1, _, u1⟩ := DataW.trod_int Try.underlying3 t1
  simp [Try.cells3] at q0 q1
  exact ⟨n0, n1, q0, q1, u0, u1⟩
theorem open_edge {H : Type} {enc : TypeId × Value → H} {W : World} {base : Nat} {spare : Nat → Bool} {held : Bool} {fuel : Nat} {cs : Array Value} {x : DataW H × List MemPlace} (hsz : cs.size = 2)
    (hf : DataW.trod enc Try.prog W base spare held fuel 27 cs.toList = some x) : ∃ n0 n1 : Int, cs = #[.int .i64 n0, .int .i64 n1] ∧ (Lit.int .i64 n0).wf = true ∧ (Lit.int .i64 n1).wf = true := by
  obtain ⟨l⟩ := cs
  simp at hsz
  match l, hsz with
  | [v0, v1], _ =>
    obtain ⟨n0, n1, rfl, rfl, u0, u1⟩ := open_edgeL hf
    exact ⟨n0, n1, rfl, u0, u1⟩

set_option maxRecDepth 20000 in
theorem open_edges {H : Type} {enc : TypeId × Value → H} {W : World} {base : Nat} {spare : Nat → Bool} {held : Bool} {fuel : Nat} {v : Value} {x : DataW H × List MemPlace}
    (hf : DataW.trod enc Try.prog W base spare held fuel 25 [v] = some x) : ∃ a c, ∃ l : List (Int × Int), v = .slice a l.length c ∧ SlE W a l ∧ l.length ≤ maxLen := by
  rcases open_slice Try.underlying25 hf with ⟨hcs, _⟩ | ⟨ad, n, cap, m, nf, D, Pl, hcs, _, hl, hm, hmm, _, hx⟩
  · simp at hcs
    subst hcs
    exact ⟨none, 0, [], rfl, ⟨fun j hj => by simp at hj, by simp⟩, by simp⟩
  · simp at hcs
    subst hcs
    have hlm : n ≤ m := by rw [hmm]; split <;> omega
    have hsp : 0 < n → ad.spot = none := by
      intro h0
      obtain ⟨cs', hc, _⟩ := hx 0 (by omega)
      rw [Try.cells27] at hc
      obtain ⟨v0, v1, rfl, e0, _⟩ := cells_q2 hc
      have := World.cell?_spot e0
      simpa [Addr.add] using this
    have each : ∀ i, i < n → ∃ q : Int × Int, ad.spot = none ∧ (W.cell? ⟨ad.block, ad.off + i * 2, none⟩ = some (.int .i64 q.1) ∧ W.cell? ⟨ad.block, ad.off + i * 2 + 1, none⟩ = some (.int .i64 q.2)) ∧ (Lit.int .i64 q.1).wf = true ∧ (Lit.int .i64 q.2).wf = true := by
      intro i hi
      obtain ⟨cs', hc, ht⟩ := hx i (by omega)
      rw [Try.cells27] at hc
      obtain ⟨v0, v1, rfl, e0, e1⟩ := cells_q2 hc
      obtain ⟨n0, n1, rfl, rfl, u0, u1⟩ := open_edgeL ht
      obtain ⟨ab, ao, asp⟩ := ad
      obtain rfl : asp = none := hsp (by omega)
      rw [add_at] at e0 e1
      rw [add_at] at e1
      exact ⟨(n0, n1), rfl, ⟨e0, e1⟩, u0, u1⟩
    obtain ⟨q, hq⟩ := choose_lt each
    have hln : ((List.range n).map fun i => q i).length = n := by simp
    refine ⟨some ad, cap, (List.range n).map fun i => q i, by rw [hln], ⟨fun j hj => ?_, fun t ht => ?_⟩, by omega⟩
    · rw [hln] at hj
      obtain ⟨h0, h1, _⟩ := hq j hj
      obtain ⟨ab, ao, asp⟩ := ad
      obtain rfl : asp = none := h0
      exact ⟨ab, ao, rfl, by simpa using h1.1, by simpa using h1.2⟩
    · simp at ht
      obtain ⟨i, hi, rfl⟩ := ht
      exact (hq i hi).2.2

/-- A step: its kind, its edge. -/
abbrev OpG := Int × Int × Int
structure SlO (W : World) (a : Option Addr) (l : List OpG) : Prop where
  at_ : ∀ j (hj : j < l.length), ∃ b o, a = some ⟨b, o, none⟩ ∧ W.cell? ⟨b, o + j * 3, none⟩ = some (.int .i64 l[j].1) ∧ W.cell? ⟨b, o + j * 3 + 1, none⟩ = some (.int .i64 l[j].2.1) ∧ W.cell? ⟨b, o + j * 3 + 2, none⟩ = some (.int .i64 l[j].2.2)
  wf : ∀ e, e ∈ l → (Lit.int .i64 e.1).wf = true ∧ (Lit.int .i64 e.2.1).wf = true ∧ (Lit.int .i64 e.2.2).wf = true

set_option maxRecDepth 20000 in
theorem open_ops {H : Type} {enc : TypeId × Value → H} {W : World} {base : Nat} {spare : Nat → Bool} {held : Bool} {fuel : Nat} {v : Value} {x : DataW H × List MemPlace}
    (hf : DataW.trod enc Try.prog W base spare held fuel 22 [v] = some x) : ∃ a c, ∃ l : List OpG, v = .slice a l.length c ∧ SlO W a l ∧ l.length ≤ maxLen := by
  rcases open_slice Try.underlying22 hf with ⟨hcs, _⟩ | ⟨ad, n, cap, m, nf, D, Pl, hcs, _, hl, hm, hmm, _, hx⟩
  · simp at hcs
    subst hcs
    exact ⟨none, 0, [], rfl, ⟨fun j hj => by simp at hj, by simp⟩, by simp⟩
  · simp at hcs
    subst hcs
    have hlm : n ≤ m := by rw [hmm]; split <;> omega
    have hsp : 0 < n → ad.spot = none := by
      intro h0
      obtain ⟨cs', hc, _⟩ := hx 0 (by omega)
      rw [Try.cells29] at hc
      obtain ⟨v0, v1, v2, rfl, e0, _⟩ := cells_q3 hc
      have := World.cell?_spot e0
      simpa [Addr.add] using this
    have each : ∀ i, i < n → ∃ q : OpG, ad.spot = none ∧ (W.cell? ⟨ad.block, ad.off + i * 3, none⟩ = some (.int .i64 q.1) ∧ W.cell? ⟨ad.block, ad.off + i * 3 + 1, none⟩ = some (.int .i64 q.2.1) ∧ W.cell? ⟨ad.block, ad.off + i * 3 + 2, none⟩ = some (.int .i64 q.2.2)) ∧ (Lit.int .i64 q.1).wf = true ∧ (Lit.int .i64 q.2.1).wf = true ∧ (Lit.int .i64 q.2.2).wf = true := by
      intro i hi
      obtain ⟨cs', hc, ht⟩ := hx i (by omega)
      rw [Try.cells29] at hc
      obtain ⟨v0, v1, v2, rfl, e0, e1, e2⟩ := cells_q3 hc
      obtain ⟨y0, y1, nn, _, _, t0, t1⟩ := trod_struct2 Try.underlying29 ht
      obtain ⟨n0, q0, _, u0⟩ := DataW.trod_int Try.underlying3 t0
      simp [Try.cells3, Try.cells27] at q0 t1
      subst q0
      obtain ⟨n1, n2, rfl, rfl, u1, u2⟩ := open_edgeL t1
      obtain ⟨ab, ao, asp⟩ := ad
      obtain rfl : asp = none := hsp (by omega)
      rw [add_at] at e0 e1 e2
      rw [add_at] at e1 e2
      exact ⟨(n0, n1, n2), rfl, ⟨e0, e1, e2⟩, u0, u1, u2⟩
    obtain ⟨q, hq⟩ := choose_lt each
    have hln : ((List.range n).map fun i => q i).length = n := by simp
    refine ⟨some ad, cap, (List.range n).map fun i => q i, by rw [hln], ⟨fun j hj => ?_, fun t ht => ?_⟩, by omega⟩
    · rw [hln] at hj
      obtain ⟨h0, h1, _⟩ := hq j hj
      obtain ⟨ab, ao, asp⟩ := ad
      obtain rfl : asp = none := h0
      exact ⟨ab, ao, rfl, by simpa using h1.1, by simpa using h1.2.1, by simpa using h1.2.2⟩
    · simp at ht
      obtain ⟨i, hi, rfl⟩ := ht
      exact (hq i hi).2.2

theorem okWide_arr {P : Program} {w : World} {r : Reach} {base : Nat} {t : TypeId} {v : Value} {n : Nat} {e : TypeId} (ht : P.underlying t = some (.array n e)) (h : Value.okWide P w r base t v) : ∃ cs, v = .agg cs ∧ cs.size = P.cellsOf t := by
  simp only [Value.okWide, ht] at h
  obtain ⟨cs, h1, h2, _⟩ := h
  exact ⟨cs, h1, h2⟩

theorem Try.cells39 : Try.prog.cellsOf 39 = 3 := by kernel_rfl
theorem open_arr3 {H : Type} {enc : TypeId × Value → H} {W : World} {base : Nat} {spare : Nat → Bool} {held : Bool} {fuel : Nat} {cs : Array Value} {x : DataW H × List MemPlace} (hsz : cs.size = 3)
    (hf : DataW.trod enc Try.prog W base spare held fuel 39 cs.toList = some x) : ∃ a b c : Int, cs = #[.int .i64 a, .int .i64 b, .int .i64 c] ∧ (Lit.int .i64 a).wf = true ∧ (Lit.int .i64 b).wf = true ∧ (Lit.int .i64 c).wf = true := by
  obtain ⟨l⟩ := cs
  simp at hsz
  match l, hsz with
  | [v0, v1, v2], _ =>
    obtain ⟨xs, m, _, _, _, hl, hel⟩ := DataW.trod_array Try.underlying39 hf
    have h0 := hel 0 (by omega)
    have h1 := hel 1 (by omega)
    have h2 := hel 2 (by omega)
    rw [List.getElem?_eq_getElem (by omega)] at h0 h1 h2
    obtain ⟨n0, q0, _, u0⟩ := DataW.trod_int Try.underlying3 h0
    obtain ⟨n1, q1, _, u1⟩ := DataW.trod_int Try.underlying3 h1
    obtain ⟨n2, q2, _, u2⟩ := DataW.trod_int Try.underlying3 h2
    simp [Try.cells3] at q0 q1 q2
    subst q0 q1 q2
    exact ⟨n0, n1, n2, rfl, u0, u1, u2⟩

end Go.Proofs.Ytoihjkpjijncdaa
