/-
  What the frames want of the program; bools and steps that came in, opened.
-/
import Derived.Test.YtdlanenbbmnbhaaLv
import Derived.ProofKit
import Derived.OpenShut
import Derived.SizedLaws
import Derived.ChangeMaps5
import Derived.Deep.Grids
import Derived.Deep.Slices
import Derived.Deep.Strs
namespace Go.Proofs.Ytdlanenbbmnbhaa
open Go.ChangeShapes Go.WideShapes Go.ChangeAt Go.RowKit Go.Deep

theorem Try.own : ownKnob Try.prog.godebug = none := by kernel_rfl
theorem Try.mixed : Try.prog.follows .mixedOrders = true := by kernel_rfl
theorem Try.laidOut : laidOutB Try.prog = true := by kernel_rfl
theorem Try.cells3 : Try.prog.cellsOf 3 = 1 := by kernel_rfl
theorem Try.cells4 : Try.prog.cellsOf 4 = 1 := by kernel_rfl
theorem Try.cells34 : Try.prog.cellsOf 34 = 3 := by kernel_rfl

theorem add_at (G o j : Nat) : (⟨G, o, none⟩ : Addr).add j = ⟨G, o + j, none⟩ := by unfold Addr.add; split <;> simp_all
theorem cells_q3 {w : World} {base : Nat} {a : Addr} {cs : List Value} (h : w.cells? base a 3 = some cs) : ∃ v0 v1 v2, cs = [v0, v1, v2] ∧ w.cell? a = some v0 ∧ w.cell? (a.add 1) = some v1 ∧ w.cell? (a.add 2) = some v2 := by
  obtain ⟨hb, hl, hc⟩ := World.cells?_some h
  match cs, hl with
  | [v0, v1, v2], _ =>
    have h0 := hc 0 (by simp)
    have h1 := hc 1 (by simp)
    have h2 := hc 2 (by simp)
    exact ⟨v0, v1, v2, rfl, by simpa [Addr.add] using h0, by simpa using h1, by simpa using h2⟩

theorem open_boolsB {H : Type} {enc : TypeId × Value → H} {W : World} {base : Nat} {held : Bool} {fuel : Nat} {a : Option Addr} {n c : Nat} {x : DataW H × List MemPlace}
    (hf : DataW.trod enc Try.prog W base (fun _ => true) held fuel 22 [.slice a n c] = some x) :
    ∃ l : List Bool, n = l.length ∧ SlB W a l ∧ l.length ≤ maxLen := by
  rcases Deep.open_bools Try.underlying22 Try.underlying4 Try.cells4 hf with ⟨hcs, _⟩ | ⟨y, ln, cp, B, hcs, _, hl, hm, hx, hcell⟩
  · simp at hcs
    obtain ⟨rfl, rfl, rfl⟩ := hcs
    exact ⟨[], rfl, ⟨fun j hj => by simp at hj⟩, by simp⟩
  · simp at hcs
    obtain ⟨rfl, rfl, rfl⟩ := hcs
    refine ⟨(List.range n).map B, by simp, ⟨fun j hj => ?_⟩, by simp; omega⟩
    have hj' : j < n := by simpa using hj
    have h := hcell j (by omega)
    obtain ⟨ab, ao, asp⟩ := y
    obtain rfl : asp = none := by
      have h9 := World.cell?_spot (hcell 0 (by omega))
      simpa [Addr.add] using h9
    rw [add_at] at h
    exact ⟨ab, ao, rfl, by simpa using h⟩

/-- A step: its kind, its page, its instance. -/
abbrev OpG := Int × Int × Int
structure SlO (W : World) (a : Option Addr) (l : List OpG) : Prop where
  at_ : ∀ j (hj : j < l.length), ∃ b o, a = some ⟨b, o, none⟩ ∧ W.cell? ⟨b, o + j * 3, none⟩ = some (.int .i64 l[j].1) ∧ W.cell? ⟨b, o + j * 3 + 1, none⟩ = some (.int .i64 l[j].2.1) ∧ W.cell? ⟨b, o + j * 3 + 2, none⟩ = some (.int .i64 l[j].2.2)
  wf : ∀ e, e ∈ l → (Lit.int .i64 e.1).wf = true ∧ (Lit.int .i64 e.2.1).wf = true ∧ (Lit.int .i64 e.2.2).wf = true
theorem SlO.below {w w' : World} {a : Option Addr} {l : List OpG} (h : SlO w a l) (hb : Below w.heap.size w w') : SlO w' a l :=
  ⟨fun j hj => by
    obtain ⟨b, o, e, h0, h1, h2⟩ := h.at_ j hj
    have hl := cell_lt h0
    exact ⟨b, o, e, by rw [hb.cell (by exact hl)]; exact h0, by rw [hb.cell (by exact hl)]; exact h1, by rw [hb.cell (by exact hl)]; exact h2⟩, h.wf⟩
set_option maxRecDepth 20000 in
theorem open_ops {H : Type} {enc : TypeId × Value → H} {W : World} {base : Nat} {spare : Nat → Bool} {held : Bool} {fuel : Nat} {v : Value} {x : DataW H × List MemPlace}
    (hf : DataW.trod enc Try.prog W base spare held fuel 23 [v] = some x) : ∃ a c, ∃ l : List OpG, v = .slice a l.length c ∧ SlO W a l ∧ l.length ≤ maxLen := by
  rcases open_slice Try.underlying23 hf with ⟨hcs, _⟩ | ⟨ad, n, cap, m, nf, D, Pl, hcs, _, hl, hm, hmm, _, hx⟩
  · simp at hcs
    subst hcs
    exact ⟨none, 0, [], rfl, ⟨fun j hj => by simp at hj, by simp⟩, by simp⟩
  · simp at hcs
    subst hcs
    have hlm : n ≤ m := by rw [hmm]; split <;> omega
    have hsp : 0 < n → ad.spot = none := by
      intro h0
      obtain ⟨cs', hc, _⟩ := hx 0 (by omega)
      rw [Try.cells34] at hc
      obtain ⟨v0, v1, v2, rfl, e0, _⟩ := cells_q3 hc
      have := World.cell?_spot e0
      simpa [Addr.add] using this
    have each : ∀ i, i < n → ∃ q : OpG, ad.spot = none ∧ (W.cell? ⟨ad.block, ad.off + i * 3, none⟩ = some (.int .i64 q.1) ∧ W.cell? ⟨ad.block, ad.off + i * 3 + 1, none⟩ = some (.int .i64 q.2.1) ∧ W.cell? ⟨ad.block, ad.off + i * 3 + 2, none⟩ = some (.int .i64 q.2.2)) ∧ (Lit.int .i64 q.1).wf = true ∧ (Lit.int .i64 q.2.1).wf = true ∧ (Lit.int .i64 q.2.2).wf = true := by
      intro i hi
      obtain ⟨cs', hc, ht⟩ := hx i (by omega)
      rw [Try.cells34] at hc
      obtain ⟨v0, v1, v2, rfl, e0, e1, e2⟩ := cells_q3 hc
      obtain ⟨y0, y1, y2, nn, _, _, t0, t1, t2⟩ := Go.Deep.trod_struct3 Try.underlying34 ht
      obtain ⟨n0, q0, _, u0⟩ := DataW.trod_int Try.underlying3 t0
      obtain ⟨n1, q1, _, u1⟩ := DataW.trod_int Try.underlying3 t1
      simp [Try.cells3] at q0 q1 t2
      subst q0 q1
      obtain ⟨n2, q2, _, u2⟩ := DataW.trod_int Try.underlying3 t2
      simp at q2
      subst q2
      obtain ⟨ab, ao, asp⟩ := ad
      obtain rfl : asp = none := hsp (by omega)
      rw [add_at] at e0 e1 e2
      rw [add_at] at e1 e2
      exact ⟨(n0, n1, n2), rfl, ⟨e0, e1, e2⟩, u0, u1, u2⟩
    obtain ⟨q, hq⟩ := choose_lt each
    have hln : ((List.range n).map fun i => q i).length = n := by simp
    refine ⟨some ad, cap, (List.range n).map fun i => q i, by rw [hln], ⟨fun j hj => ?_, fun t ht => ?_⟩, by omega⟩
    · rw [hln] at hj
      obtain ⟨h0, h1, _⟩ := hq j hj
      obtain ⟨ab, ao, asp⟩ := ad
      obtain rfl : asp = none := h0
      exact ⟨ab, ao, rfl, by simpa using h1.1, by simpa using h1.2.1, by simpa using h1.2.2⟩
    · simp at ht
      obtain ⟨i, hi, rfl⟩ := ht
      exact (hq i hi).2.2

end Go.Proofs.Ytdlanenbbmnbhaa
