/-
  Steps that came in, opened.
-/
import Derived.Test.YtclppfljengnbaaGreatLv
import Derived.ProofKit
import Derived.OpenShut
import Derived.ShutString
import Derived.SizedLaws
import Derived.ChangeMaps5
import Derived.Deep.Grids
import Derived.Deep.Slices
import Derived.Deep.Strs
import Derived.Lib.SmallJoins
namespace Go.Proofs.YtclppfljengnbaaGreat
open Go.ChangeShapes Go.WideShapes Go.ChangeAt Go.RowKit Go.Deep

theorem Tryz.own : ownKnob Tryz.prog.godebug = none := by kernel_rfl
theorem Tryz.laidOut : laidOutB Tryz.prog = true := by kernel_rfl
theorem Tryz.cells3 : Tryz.prog.cellsOf 3 = 1 := by kernel_rfl
theorem Tryz.cells9 : Tryz.prog.cellsOf 9 = 1 := by kernel_rfl
theorem Tryz.cells29 : Tryz.prog.cellsOf 29 = 1 := by kernel_rfl
theorem Tryz.cells31 : Tryz.prog.cellsOf 31 = 2 := by kernel_rfl
theorem Tryz.cells33 : Tryz.prog.cellsOf 33 = 4 := by kernel_rfl

theorem add_at (G o j : Nat) : (⟨G, o, none⟩ : Addr).add j = ⟨G, o + j, none⟩ := by unfold Addr.add; split <;> simp_all
theorem cells_q4 {w : World} {base : Nat} {a : Addr} {cs : List Value} (h : w.cells? base a 4 = some cs) : ∃ v0 v1 v2 v3, cs = [v0, v1, v2, v3] ∧ w.cell? a = some v0 ∧ w.cell? (a.add 1) = some v1 ∧ w.cell? (a.add 2) = some v2 ∧ w.cell? (a.add 3) = some v3 := by
  obtain ⟨hb, hl, hc⟩ := World.cells?_some h
  match cs, hl with
  | [v0, v1, v2, v3], _ =>
    have h0 := hc 0 (by simp)
    have h1 := hc 1 (by simp)
    have h2 := hc 2 (by simp)
    have h3 := hc 3 (by simp)
    exact ⟨v0, v1, v2, v3, rfl, by simpa [Addr.add] using h0, by simpa using h1, by simpa using h2, by simpa using h3⟩

/-- A step: its kind, its transaction, its name, its mode. -/
structure OpL where
  kind : Int
  txn : Int
  name : Name
  mode : Int
instance : Inhabited OpL := ⟨⟨0, 0, [], 0⟩⟩
def OpL.cells (o : OpL) : Array Value := #[.int .i64 o.kind, .int .i64 o.txn, nmV o.name, .int .i64 o.mode]
structure OpL.Wf (o : OpL) : Prop where
  txn : (Lit.int .i64 o.txn).wf = true
  name : o.name.length ≤ maxLen
structure SlO (W : World) (a : Option Addr) (l : List OpL) : Prop where
  at_ : ∀ j (hj : j < l.length), ∃ b o, a = some ⟨b, o, none⟩ ∧ W.cell? ⟨b, o + j * 4, none⟩ = some (.int .i64 l[j].kind) ∧ W.cell? ⟨b, o + j * 4 + 1, none⟩ = some (.int .i64 l[j].txn) ∧ W.cell? ⟨b, o + j * 4 + 2, none⟩ = some (nmV l[j].name) ∧ W.cell? ⟨b, o + j * 4 + 3, none⟩ = some (.int .i64 l[j].mode)
  wf : ∀ e, e ∈ l → e.Wf

theorem nm_of (s : ByteArray) : nmV s.data.toList = .string s := by
  cases s
  simp [nmV]
theorem open_opL {H : Type} {enc : TypeId × Value → H} {W : World} {base : Nat} {spare : Nat → Bool} {held : Bool} {fuel : Nat} {v0 v1 v2 v3 : Value} {x : DataW H × List MemPlace}
    (hf : DataW.trod enc Tryz.prog W base spare held fuel 33 [v0, v1, v2, v3] = some x) : ∃ o : OpL, v0 = .int .i64 o.kind ∧ v1 = .int .i64 o.txn ∧ v2 = nmV o.name ∧ v3 = .int .i64 o.mode ∧ o.Wf := by
  obtain ⟨y0, y1, y2, nn, _, _, t0, t1, t2⟩ := Go.Deep.trod_struct3 Tryz.underlying33 hf
  obtain ⟨n0, q0, _, _⟩ := DataW.trod_int Tryz.underlying3 t0
  obtain ⟨n1, q1, _, u1⟩ := DataW.trod_int Tryz.underlying3 t1
  simp [Tryz.cells3, Tryz.cells31] at q0 q1 t2
  subst q0 q1
  obtain ⟨z0, z1, mm, _, _, s0, s1⟩ := trod_struct2 Tryz.underlying31 t2
  obtain ⟨S, q2, _, w2⟩ := DataW.trod_string Tryz.underlying9 s0
  obtain ⟨n3, q3, _, _⟩ := DataW.trod_int Tryz.underlying29 s1
  simp [Tryz.cells9, Tryz.cells29] at q2 q3
  subst q2 q3
  exact ⟨⟨n0, n1, S.data.toList, n3⟩, rfl, rfl, (nm_of S).symm, rfl, u1, by show S.data.toList.length ≤ _; rw [Array.length_toList]; exact w2⟩
theorem open_op {H : Type} {enc : TypeId × Value → H} {W : World} {base : Nat} {spare : Nat → Bool} {held : Bool} {fuel : Nat} {cs : Array Value} {x : DataW H × List MemPlace} (hsz : cs.size = 4)
    (hf : DataW.trod enc Tryz.prog W base spare held fuel 33 cs.toList = some x) : ∃ o : OpL, cs = o.cells ∧ o.Wf := by
  obtain ⟨l⟩ := cs
  simp at hsz
  match l, hsz with
  | [v0, v1, v2, v3], _ =>
    obtain ⟨o, rfl, rfl, rfl, rfl, hw⟩ := open_opL hf
    exact ⟨o, rfl, hw⟩

set_option maxRecDepth 20000 in
theorem open_ops {H : Type} {enc : TypeId × Value → H} {W : World} {base : Nat} {spare : Nat → Bool} {held : Bool} {fuel : Nat} {v : Value} {x : DataW H × List MemPlace}
    (hf : DataW.trod enc Tryz.prog W base spare held fuel 22 [v] = some x) : ∃ a c, ∃ l : List OpL, v = .slice a l.length c ∧ SlO W a l ∧ l.length ≤ maxLen := by
  rcases open_slice Tryz.underlying22 hf with ⟨hcs, _⟩ | ⟨ad, n, cap, m, nf, D, Pl, hcs, _, hl, hm, hmm, _, hx⟩
  · simp at hcs
    subst hcs
    exact ⟨none, 0, [], rfl, ⟨fun j hj => by simp at hj, by simp⟩, by simp⟩
  · simp at hcs
    subst hcs
    have hlm : n ≤ m := by rw [hmm]; split <;> omega
    have hsp : 0 < n → ad.spot = none := by
      intro h0
      obtain ⟨cs', hc, _⟩ := hx 0 (by omega)
      rw [Tryz.cells33] at hc
      obtain ⟨v0, v1, v2, v3, rfl, e0, _⟩ := cells_q4 hc
      have := World.cell?_spot e0
      simpa [Addr.add] using this
    have each : ∀ i, i < n → ∃ q : OpL, ad.spot = none ∧ (W.cell? ⟨ad.block, ad.off + i * 4, none⟩ = some (.int .i64 q.kind) ∧ W.cell? ⟨ad.block, ad.off + i * 4 + 1, none⟩ = some (.int .i64 q.txn) ∧ W.cell? ⟨ad.block, ad.off + i * 4 + 2, none⟩ = some (nmV q.name) ∧ W.cell? ⟨ad.block, ad.off + i * 4 + 3, none⟩ = some (.int .i64 q.mode)) ∧ q.Wf := by
      intro i hi
      obtain ⟨cs', hc, ht⟩ := hx i (by omega)
      rw [Tryz.cells33] at hc
      obtain ⟨v0, v1, v2, v3, rfl, e0, e1, e2, e3⟩ := cells_q4 hc
      obtain ⟨o, rfl, rfl, rfl, rfl, hw⟩ := open_opL ht
      obtain ⟨ab, ao, asp⟩ := ad
      obtain rfl : asp = none := hsp (by omega)
      rw [add_at] at e0 e1 e2 e3
      rw [add_at] at e1 e2 e3
      exact ⟨o, rfl, ⟨e0, e1, e2, e3⟩, hw⟩
    obtain ⟨q, hq⟩ := choose_lt each
    have hln : ((List.range n).map fun i => q i).length = n := by simp
    refine ⟨some ad, cap, (List.range n).map fun i => q i, by rw [hln], ⟨fun j hj => ?_, fun t ht => ?_⟩, by omega⟩
    · rw [hln] at hj
      obtain ⟨h0, h1, _⟩ := hq j hj
      obtain ⟨ab, ao, asp⟩ := ad
      obtain rfl : asp = none := h0
      exact ⟨ab, ao, rfl, by simpa using h1.1, by simpa using h1.2.1, by simpa using h1.2.2.1, by simpa using h1.2.2.2⟩
    · simp at ht
      obtain ⟨i, hi, rfl⟩ := ht
      exact (hq i hi).2.2
theorem SlO.below {w w' : World} {B : Nat} {a : Option Addr} {l : List OpL} (h : SlO w a l) (hb : Below B w w') (hB : B = w.heap.size) : SlO w' a l := by
  subst hB
  refine ⟨fun j hj => ?_, h.wf⟩
  obtain ⟨b, o, e, c0, c1, c2, c3⟩ := h.at_ j hj
  have hl : b < w.heap.size := by
    refine Classical.byContradiction fun hc => ?_
    simp [World.cell?, Array.getElem?_eq_none (Nat.le_of_not_lt hc)] at c0
  exact ⟨b, o, e, (hb.cell (p := ⟨b, _, none⟩) hl).trans c0, (hb.cell (p := ⟨b, _, none⟩) hl).trans c1, (hb.cell (p := ⟨b, _, none⟩) hl).trans c2, (hb.cell (p := ⟨b, _, none⟩) hl).trans c3⟩

end Go.Proofs.YtclppfljengnbaaGreat
