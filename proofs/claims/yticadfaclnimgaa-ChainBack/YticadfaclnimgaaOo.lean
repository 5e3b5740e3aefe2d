/-
  Steps that came in, opened.
-/
import Derived.Test.YticadfaclnimgaaAg
import Derived.Test.YticadfaclnimgaaLd
namespace Go.Proofs.Yticadfaclnimgaa
open Go.ChangeShapes Go.WideShapes Go.ChangeAt Go.RowKit Go.Deep

theorem Try.cells36 : Try.prog.cellsOf 36 = 15 := by kernel_rfl
def OpL.zero : OpL := ⟨0, 0, 0, Rc.zero, none, 0, none, 0⟩
/-- A step that lies somewhere. -/
abbrev At15 (W : World) (b k : Nat) (o : OpL) : Prop :=
W.cell? ⟨b, k, none⟩ = some (.int .i64 o.kind) ∧ W.cell? ⟨b, k + 1, none⟩ = some (.int .i64 o.txn) ∧ W.cell? ⟨b, k + 2, none⟩ = some (.int .i64 o.n) ∧ W.cell? ⟨b, k + 3, none⟩ = some (.int .i64 o.r.kind) ∧ W.cell? ⟨b, k + 4, none⟩ = some (.int .u64 (o.r.lsn : Int)) ∧ W.cell? ⟨b, k + 5, none⟩ = some (.int .i64 o.r.txn) ∧ W.cell? ⟨b, k + 6, none⟩ = some (.int .u64 (o.r.prev : Int)) ∧ W.cell? ⟨b, k + 7, none⟩ = some (.int .u64 (o.r.undo : Int)) ∧ W.cell? ⟨b, k + 8, none⟩ = some (.int .i64 o.r.page) ∧ W.cell? ⟨b, k + 9, none⟩ = some (.int .i64 o.r.ak) ∧ W.cell? ⟨b, k + 10, none⟩ = some (.string (txt o.r.key)) ∧ W.cell? ⟨b, k + 11, none⟩ = some (.string (txt o.r.old)) ∧ W.cell? ⟨b, k + 12, none⟩ = some (.string (txt o.r.new)) ∧ W.cell? ⟨b, k + 13, none⟩ = some (.slice o.ta o.r.txns.length o.tc) ∧ W.cell? ⟨b, k + 14, none⟩ = some (.slice o.da o.r.dirty.length o.dc)
/-- What is known of a step. -/
structure OpI (W : World) (o : OpL) : Prop where
  ri : RI W o.r o.ta o.da
  wt : Wt o.txn
  wr : Wt o.r.txn
theorem OpI.below {w w' : World} {o : OpL} (h : OpI w o) (hb : Below w.heap.size w w') : OpI w' o := ⟨h.ri.below hb, h.wt, h.wr⟩
/-- A slice of steps. -/
structure SlO (W : World) (a : Option Addr) (l : List OpL) : Prop where
  nonil : a = none → l = []
  at' : ∀ x, a = some x → ∀ (i : Nat) (o : OpL), l[i]? = some o → x.spot = none ∧ At15 W x.block (x.off + i * 15) o ∧ OpI W o
theorem SlO.below {w w' : World} {a : Option Addr} {l : List OpL} (h : SlO w a l) (hb : Below w.heap.size w w') : SlO w' a l := by
  refine ⟨h.nonil, fun x hx i o ho => ?_⟩
  obtain ⟨h1, h2, h3⟩ := h.at' x hx i o ho
  have hlt : x.block < w.heap.size := by
    have := h2.1
    simp only [World.cell?] at this
    cases e : w.heap[x.block]? with
    | none => rw [e] at this; simp at this
    | some ob => exact (Array.getElem?_eq_some_iff.1 e).1
  have hc : ∀ k, w'.cell? ⟨x.block, k, none⟩ = w.cell? ⟨x.block, k, none⟩ := fun k => hb.cell (p := ⟨x.block, k, none⟩) hlt
  refine ⟨h1, ?_, h3.below hb⟩
  simp only [At15, hc]
  exact h2

theorem add_plain (b k j : Nat) : (⟨b, k, none⟩ : Addr).add j = ⟨b, k + j, none⟩ := by unfold Addr.add; split <;> simp_all

set_option maxRecDepth 20000 in
theorem open_opL {H : Type} {enc : TypeId × Value → H} {W : World} {base : Nat} {spare : Nat → Bool} {held : Bool} {fuel : Nat} {l : List Value} {x : DataW H × List MemPlace} (hsz : l.length = 15)
    (hf : DataW.trod enc Try.prog W base spare held fuel 36 l = some x) : ∃ o, l = (opC o).toList ∧ OpI W o := by
  obtain ⟨xs, n, _, hxe, _, hxl, hx⟩ := DataW.trod_struct Try.underlying36 hf
  match l, hsz with
  | [v0, v1, v2, v3, v4, v5, v6, v7, v8, v9, v10, v11, v12, v13, v14], _ =>
    have hxs : xs.length = 4 := hxl
    have get : ∀ i, i < 4 → ∃ y, xs[i]? = some y := fun i hi => ⟨xs[i]'(by omega), List.getElem?_eq_getElem (by omega)⟩
    obtain ⟨y0, g0⟩ := get 0 (by omega)
    obtain ⟨y1, g1⟩ := get 1 (by omega)
    obtain ⟨y2, g2⟩ := get 2 (by omega)
    obtain ⟨y3, g3⟩ := get 3 (by omega)
    have t0 := (hx 0 _ rfl).trans g0
    have t1 := (hx 1 _ rfl).trans g1
    have t2 := (hx 2 _ rfl).trans g2
    have t3 := (hx 3 _ rfl).trans g3
    obtain ⟨n0, q0, _, _⟩ := DataW.trod_int Try.underlying3 t0
    obtain ⟨n1, q1, _, u1⟩ := DataW.trod_int Try.underlying3 t1
    obtain ⟨n2, q2, _, _⟩ := DataW.trod_int Try.underlying3 t2
    simp [Try.cells3] at q0 q1 q2
    simp [Try.cells34] at t3
    subst q0 q1 q2
    obtain ⟨r, ta, tc, da, dc, hcs, hri, hwt⟩ := open_rec (cs := #[v3, v4, v5, v6, v7, v8, v9, v10, v11, v12, v13, v14]) rfl t3
    refine ⟨⟨n0, n1, n2, r, ta, tc, da, dc⟩, ?_, hri, u1, hwt⟩
    have h2 := congrArg Array.toList hcs
    show [Value.int .i64 n0, .int .i64 n1, .int .i64 n2, v3, v4, v5, v6, v7, v8, v9, v10, v11, v12, v13, v14] = _
    have h2 : [v3, v4, v5, v6, v7, v8, v9, v10, v11, v12, v13, v14] = [Value.int .i64 r.kind, .int .u64 (r.lsn : Int), .int .i64 r.txn, .int .u64 (r.prev : Int), .int .u64 (r.undo : Int), .int .i64 r.page, .int .i64 r.ak, .string (txt r.key), .string (txt r.old), .string (txt r.new), .slice ta r.txns.length tc, .slice da r.dirty.length dc] := h2
    rw [h2]

theorem at15_of {W : World} {ab ao : Nat} {o : OpL} {cs : List Value} (hq : cs = (opC o).toList) (h : ∀ j, j < 15 → W.cell? ⟨ab, ao + j, none⟩ = cs[j]?) : At15 W ab ao o := by
  subst hq
  exact ⟨h 0 (by omega), h 1 (by omega), h 2 (by omega), h 3 (by omega), h 4 (by omega), h 5 (by omega), h 6 (by omega), h 7 (by omega), h 8 (by omega), h 9 (by omega), h 10 (by omega), h 11 (by omega), h 12 (by omega), h 13 (by omega), h 14 (by omega)⟩

set_option maxRecDepth 20000 in
theorem open_ops {H : Type} {enc : TypeId × Value → H} {W : World} {base : Nat} {spare : Nat → Bool} {held : Bool} {fuel : Nat} {v : Value} {x : DataW H × List MemPlace}
    (hf : DataW.trod enc Try.prog W base spare held fuel 22 [v] = some x) : ∃ a c, ∃ l : List OpL, v = .slice a l.length c ∧ SlO W a l ∧ l.length ≤ maxLen := by
  rcases open_slice Try.underlying22 hf with ⟨hcs, _⟩ | ⟨ad, n, cap, m, nf, D, Ps, hcs, _, hl, hm, hmm, hxe, hx⟩
  · simp at hcs
    subst hcs
    exact ⟨none, 0, [], rfl, ⟨fun _ => rfl, fun y hy => by simp at hy⟩, by simp⟩
  · simp at hcs
    subst hcs
    have hlm : n ≤ m := by rw [hmm]; split <;> omega
    have hspot : 0 < n → ad.spot = none := by
      intro h0
      obtain ⟨cs', hc, _⟩ := hx 0 (by omega)
      rw [Try.cells36] at hc
      obtain ⟨_, hlc, hcc⟩ := World.cells?_some hc
      have h1 := hcc 0 (by omega)
      rw [List.getElem?_eq_getElem (by omega)] at h1
      have := World.cell?_spot h1
      simpa [Addr.add] using this
    have each : ∀ i, i < n → ∃ q : OpL, ad.spot = none ∧ At15 W ad.block (ad.off + i * 15) q ∧ OpI W q := by
      intro i hi
      obtain ⟨cs', hc, ht⟩ := hx i (by omega)
      rw [Try.cells36] at hc
      obtain ⟨_, hlc, hcc⟩ := World.cells?_some hc
      obtain ⟨o, hq, h1⟩ := open_opL hlc ht
      have hsp : ad.spot = none := hspot (by omega)
      refine ⟨o, hsp, at15_of hq (fun j hj => ?_), h1⟩
      obtain ⟨ab, ao, asp⟩ := ad
      simp only at hsp
      subst hsp
      have := hcc j hj
      rw [add_plain, add_plain] at this
      exact this
    haveI : Inhabited OpL := ⟨OpL.zero⟩
    obtain ⟨q, hq⟩ := choose_lt each
    have hln : ((List.range n).map fun i => q i).length = n := by simp
    refine ⟨some ad, cap, (List.range n).map fun i => q i, by rw [hln], ⟨fun h => by simp at h, fun y hy i t ht => ?_⟩, by rw [hln]; omega⟩
    simp at hy
    subst hy
    have hi : i < n := by have := (List.getElem?_eq_some_iff.1 ht).1; omega
    simp [hi] at ht
    subst ht
    exact hq i hi
end Go.Proofs.Yticadfaclnimgaa
