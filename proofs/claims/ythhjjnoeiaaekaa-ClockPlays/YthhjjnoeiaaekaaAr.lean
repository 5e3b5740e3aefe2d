/-
  Steps and rings that came in, opened.
-/
import Derived.Test.YthhjjnoeiaaekaaFj
import Derived.ProofKit
import Derived.OpenShut
import Derived.ShutString
import Derived.SizedLaws
import Derived.ChangeMaps5
import Derived.Deep.Grids
import Derived.Deep.Slices
import Derived.Deep.Strs
import Derived.Lib.SmallJoins
namespace Go.Proofs.Ythhjjnoeiaaekaa
open Go.ChangeShapes Go.WideShapes Go.ChangeAt Go.RowKit Go.Deep

theorem Try.own : ownKnob Try.prog.godebug = none := by kernel_rfl
theorem Try.laidOut : laidOutB Try.prog = true := by kernel_rfl
theorem Try.cells3 : Try.prog.cellsOf 3 = 1 := by kernel_rfl
theorem Try.cells4 : Try.prog.cellsOf 4 = 1 := by kernel_rfl
theorem Try.cells22 : Try.prog.cellsOf 22 = 1 := by kernel_rfl
theorem Try.cells24 : Try.prog.cellsOf 24 = 2 := by kernel_rfl
theorem Try.cells31 : Try.prog.cellsOf 31 = 3 := by kernel_rfl
theorem Try.cells34 : Try.prog.cellsOf 34 = 3 := by kernel_rfl

theorem cells_q3 {w : World} {base : Nat} {a : Addr} {cs : List Value} (h : w.cells? base a 3 = some cs) : ∃ v0 v1 v2, cs = [v0, v1, v2] ∧ w.cell? a = some v0 ∧ w.cell? (a.add 1) = some v1 ∧ w.cell? (a.add 2) = some v2 := by
  obtain ⟨hb, hl, hc⟩ := World.cells?_some h
  match cs, hl with
  | [v0, v1, v2], _ =>
    have h0 := hc 0 (by simp)
    have h1 := hc 1 (by simp)
    have h2 := hc 2 (by simp)
    exact ⟨v0, v1, v2, rfl, by simpa [Addr.add] using h0, by simpa using h1, by simpa using h2⟩

/-- A step: its kind, its page, its number. -/
structure OpL where
  kind : Int
  page : Int
  n : Int
instance : Inhabited OpL := ⟨⟨0, 0, 0⟩⟩
def OpL.cells (o : OpL) : Array Value := #[.int .i64 o.kind, .int .i64 o.page, .int .i64 o.n]
def OpL.Wf (o : OpL) : Prop := (Lit.int .i64 o.n).wf = true
structure SlO (W : World) (a : Option Addr) (l : List OpL) : Prop where
  at_ : ∀ j (hj : j < l.length), ∃ b o, a = some ⟨b, o, none⟩ ∧ W.cell? ⟨b, o + j * 3, none⟩ = some (.int .i64 l[j].kind) ∧ W.cell? ⟨b, o + j * 3 + 1, none⟩ = some (.int .i64 l[j].page) ∧ W.cell? ⟨b, o + j * 3 + 2, none⟩ = some (.int .i64 l[j].n)
  wf : ∀ e, e ∈ l → e.Wf

theorem open_opL {H : Type} {enc : TypeId × Value → H} {W : World} {base : Nat} {spare : Nat → Bool} {held : Bool} {fuel : Nat} {v0 v1 v2 : Value} {x : DataW H × List MemPlace}
    (hf : DataW.trod enc Try.prog W base spare held fuel 34 [v0, v1, v2] = some x) : ∃ o : OpL, v0 = .int .i64 o.kind ∧ v1 = .int .i64 o.page ∧ v2 = .int .i64 o.n ∧ o.Wf := by
  obtain ⟨y0, y1, y2, nn, _, _, t0, t1, t2⟩ := Go.Deep.trod_struct3 Try.underlying34 hf
  obtain ⟨n0, q0, _, _⟩ := DataW.trod_int Try.underlying3 t0
  obtain ⟨n1, q1, _, _⟩ := DataW.trod_int Try.underlying3 t1
  obtain ⟨n2, q2, _, u2⟩ := DataW.trod_int Try.underlying3 t2
  simp [Try.cells3] at q0 q1 q2
  subst q0 q1 q2
  exact ⟨⟨n0, n1, n2⟩, rfl, rfl, rfl, u2⟩
theorem open_op {H : Type} {enc : TypeId × Value → H} {W : World} {base : Nat} {spare : Nat → Bool} {held : Bool} {fuel : Nat} {cs : Array Value} {x : DataW H × List MemPlace} (hsz : cs.size = 3)
    (hf : DataW.trod enc Try.prog W base spare held fuel 34 cs.toList = some x) : ∃ o : OpL, cs = o.cells ∧ o.Wf := by
  obtain ⟨l⟩ := cs
  simp at hsz
  match l, hsz with
  | [v0, v1, v2], _ =>
    obtain ⟨o, rfl, rfl, rfl, hw⟩ := open_opL hf
    exact ⟨o, rfl, hw⟩
theorem open_frL {H : Type} {enc : TypeId × Value → H} {W : World} {base : Nat} {spare : Nat → Bool} {held : Bool} {fuel : Nat} {v0 v1 v2 : Value} {x : DataW H × List MemPlace}
    (hf : DataW.trod enc Try.prog W base spare held fuel 31 [v0, v1, v2] = some x) : ∃ o : Fr, v0 = .int .i64 o.page ∧ v1 = .bool o.used ∧ v2 = .int .i64 o.pins := by
  obtain ⟨y0, y1, y2, nn, _, _, t0, t1, t2⟩ := Go.Deep.trod_struct3 Try.underlying31 hf
  obtain ⟨n0, q0, _, _⟩ := DataW.trod_int Try.underlying3 t0
  obtain ⟨n1, q1, _⟩ := DataW.trod_bool Try.underlying4 t1
  obtain ⟨n2, q2, _, _⟩ := DataW.trod_int Try.underlying3 t2
  simp [Try.cells3, Try.cells4] at q0 q1 q2
  subst q0 q1 q2
  exact ⟨⟨n0, n1, n2⟩, rfl, rfl, rfl⟩

set_option maxRecDepth 20000 in
theorem open_ops {H : Type} {enc : TypeId × Value → H} {W : World} {base : Nat} {spare : Nat → Bool} {held : Bool} {fuel : Nat} {v : Value} {x : DataW H × List MemPlace}
    (hf : DataW.trod enc Try.prog W base spare held fuel 40 [v] = some x) : ∃ a c, ∃ l : List OpL, v = .slice a l.length c ∧ SlO W a l ∧ l.length ≤ maxLen := by
  rcases open_slice Try.underlying40 hf with ⟨hcs, _⟩ | ⟨ad, n, cap, m, nf, D, Pl, hcs, _, hl, hm, hmm, _, hx⟩
  · simp at hcs
    subst hcs
    exact ⟨none, 0, [], rfl, ⟨fun j hj => by simp at hj, by simp⟩, by simp⟩
  · simp at hcs
    subst hcs
    have hlm : n ≤ m := by rw [hmm]; split <;> omega
    have hsp : 0 < n → ad.spot = none := by
      intro h0
      obtain ⟨cs', hc, _⟩ := hx 0 (by omega)
      rw [Try.cells34] at hc
      obtain ⟨v0, v1, v2, rfl, e0, _⟩ := cells_q3 hc
      have := World.cell?_spot e0
      simpa [Addr.add] using this
    have each : ∀ i, i < n → ∃ q : OpL, ad.spot = none ∧ (W.cell? ⟨ad.block, ad.off + i * 3, none⟩ = some (.int .i64 q.kind) ∧ W.cell? ⟨ad.block, ad.off + i * 3 + 1, none⟩ = some (.int .i64 q.page) ∧ W.cell? ⟨ad.block, ad.off + i * 3 + 2, none⟩ = some (.int .i64 q.n)) ∧ q.Wf := by
      intro i hi
      obtain ⟨cs', hc, ht⟩ := hx i (by omega)
      rw [Try.cells34] at hc
      obtain ⟨v0, v1, v2, rfl, e0, e1, e2⟩ := cells_q3 hc
      obtain ⟨o, rfl, rfl, rfl, hw⟩ := open_opL ht
      obtain ⟨ab, ao, asp⟩ := ad
      obtain rfl : asp = none := hsp (by omega)
      rw [add_at] at e0 e1 e2
      rw [add_at] at e1 e2
      exact ⟨o, rfl, ⟨e0, e1, e2⟩, hw⟩
    obtain ⟨q, hq⟩ := choose_lt each
    have hln : ((List.range n).map fun i => q i).length = n := by simp
    refine ⟨some ad, cap, (List.range n).map fun i => q i, by rw [hln], ⟨fun j hj => ?_, fun t ht => ?_⟩, by omega⟩
    · rw [hln] at hj
      obtain ⟨h0, h1, _⟩ := hq j hj
      obtain ⟨ab, ao, asp⟩ := ad
      obtain rfl : asp = none := h0
      exact ⟨ab, ao, rfl, by simpa using h1.1, by simpa using h1.2.1, by simpa using h1.2.2⟩
    · simp at ht
      obtain ⟨i, hi, rfl⟩ := ht
      exact (hq i hi).2.2
set_option maxRecDepth 20000 in
theorem open_frs {H : Type} {enc : TypeId × Value → H} {W : World} {base : Nat} {spare : Nat → Bool} {held : Bool} {fuel : Nat} {v : Value} {x : DataW H × List MemPlace}
    (hf : DataW.trod enc Try.prog W base spare held fuel 22 [v] = some x) : ∃ a c, ∃ l : List Fr, v = .slice a l.length c ∧ SlF W a l ∧ l.length ≤ maxLen := by
  rcases open_slice Try.underlying22 hf with ⟨hcs, _⟩ | ⟨ad, n, cap, m, nf, D, Pl, hcs, _, hl, hm, hmm, _, hx⟩
  · simp at hcs
    subst hcs
    exact ⟨none, 0, [], rfl, SlF.nil W, by simp⟩
  · simp at hcs
    subst hcs
    have hlm : n ≤ m := by rw [hmm]; split <;> omega
    have hsp : 0 < n → ad.spot = none := by
      intro h0
      obtain ⟨cs', hc, _⟩ := hx 0 (by omega)
      rw [Try.cells31] at hc
      obtain ⟨v0, v1, v2, rfl, e0, _⟩ := cells_q3 hc
      have := World.cell?_spot e0
      simpa [Addr.add] using this
    have each : ∀ i, i < n → ∃ q : Fr, ad.spot = none ∧ (W.cell? ⟨ad.block, ad.off + i * 3, none⟩ = some (.int .i64 q.page) ∧ W.cell? ⟨ad.block, ad.off + i * 3 + 1, none⟩ = some (.bool q.used) ∧ W.cell? ⟨ad.block, ad.off + i * 3 + 2, none⟩ = some (.int .i64 q.pins)) := by
      intro i hi
      obtain ⟨cs', hc, ht⟩ := hx i (by omega)
      rw [Try.cells31] at hc
      obtain ⟨v0, v1, v2, rfl, e0, e1, e2⟩ := cells_q3 hc
      obtain ⟨o, rfl, rfl, rfl⟩ := open_frL ht
      obtain ⟨ab, ao, asp⟩ := ad
      obtain rfl : asp = none := hsp (by omega)
      rw [add_at] at e0 e1 e2
      rw [add_at] at e1 e2
      exact ⟨o, rfl, ⟨e0, e1, e2⟩⟩
    obtain ⟨q, hq⟩ := choose_lt each
    have hln : ((List.range n).map fun i => q i).length = n := by simp
    refine ⟨some ad, cap, (List.range n).map fun i => q i, by rw [hln], ⟨fun e => by simp at e, fun y hy i t ht => ?_⟩, by omega⟩
    simp only [Option.some.injEq] at hy
    subst hy
    obtain ⟨hi, rfl⟩ := List.getElem?_eq_some_iff.1 ht
    rw [hln] at hi
    obtain ⟨h0, h1, h2, h3⟩ := hq i hi
    simp only [List.getElem_map, List.getElem_range]
    exact ⟨h0, h1, h2, h3⟩
theorem open_ring {H : Type} {enc : TypeId × Value → H} {W : World} {base : Nat} {spare : Nat → Bool} {held : Bool} {fuel : Nat} {cs : Array Value} {x : DataW H × List MemPlace} (hsz : cs.size = 2)
    (hf : DataW.trod enc Try.prog W base spare held fuel 24 cs.toList = some x) : ∃ a c, ∃ r : Rg, cs = rgC a c r ∧ SlF W a r.fr ∧ r.fr.length ≤ maxLen := by
  obtain ⟨l⟩ := cs
  simp at hsz
  match l, hsz with
  | [v0, v1], _ =>
    obtain ⟨z0, z1, mm, _, _, s0, s1⟩ := trod_struct2 Try.underlying24 hf
    obtain ⟨n1, q1, _, _⟩ := DataW.trod_int Try.underlying3 s1
    simp [Try.cells22, Try.cells3] at q1 s0
    subst q1
    obtain ⟨a, c, l, rfl, h1, h2⟩ := open_frs s0
    exact ⟨a, c, ⟨l, n1⟩, rfl, h1, h2⟩
theorem SlO.below {w w' : World} {a : Option Addr} {l : List OpL} (h : SlO w a l) (hb : Below w.heap.size w w') : SlO w' a l := by
  refine ⟨fun j hj => ?_, h.wf⟩
  obtain ⟨b, o, e, c0, c1, c2⟩ := h.at_ j hj
  have hl : b < w.heap.size := World.block_lt_of_cell? _ _ c0
  exact ⟨b, o, e, (hb.cell (p := ⟨b, _, none⟩) hl).trans c0, (hb.cell (p := ⟨b, _, none⟩) hl).trans c1, (hb.cell (p := ⟨b, _, none⟩) hl).trans c2⟩
end Go.Proofs.Ythhjjnoeiaaekaa
