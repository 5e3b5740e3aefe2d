/-
  Steps that came in, opened: one, some, and those of StableWhole.
-/
import Derived.Test.YtbigclhfgcaccaaAg
namespace Go.Proofs.Ytbigclhfgcaccaa
open Go.ChangeShapes Go.WideShapes Go.ChangeAt Go.RowKit Go.Deep

theorem Try.cells55 : Try.prog.cellsOf 55 = 8 := by kernel_rfl
theorem Try.cells47 : Try.prog.cellsOf 47 = 1 := by kernel_rfl

theorem i64_of {n : Int} (w : (Lit.int .i64 n).wf = true) : I64 n := by
  simp [Lit.wf, IntKind.min, IntKind.max, IntKind.signed, IntKind.bits] at w
  omega
theorem u8_of {n : Int} (w : (Lit.int .u8 n).wf = true) : n = (((UInt8.ofNat n.toNat).toNat : Nat) : Int) := by
  simp [Lit.wf, IntKind.min, IntKind.max, IntKind.signed, IntKind.bits] at w
  simp
  omega

set_option maxRecDepth 20000 in
theorem open_opL {H : Type} {enc : TypeId × Value → H} {W : World} {base : Nat} {spare : Nat → Bool} {held : Bool} {fuel : Nat} {l : List Value} {x : DataW H × List MemPlace} (hsz : l.length = 5)
    (hf : DataW.trod enc Try.prog W base spare held fuel 49 l = some x) : ∃ o : Op, l = (opV o).toList ∧ GoodO o := by
  obtain ⟨xs, n, _, _, _, hxl, hx⟩ := DataW.trod_struct Try.underlying49 hf
  match l, hsz with
  | [v0, v1, v2, v3, v4], _ =>
    have hxs : xs.length = 5 := hxl
    have get : ∀ i, i < 5 → ∃ y, xs[i]? = some y := fun i hi => ⟨xs[i]'(by omega), List.getElem?_eq_getElem (by omega)⟩
    obtain ⟨y0, g0⟩ := get 0 (by omega)
    obtain ⟨y1, g1⟩ := get 1 (by omega)
    obtain ⟨y2, g2⟩ := get 2 (by omega)
    obtain ⟨y3, g3⟩ := get 3 (by omega)
    obtain ⟨y4, g4⟩ := get 4 (by omega)
    obtain ⟨n0, q0, _, u0⟩ := DataW.trod_int Try.underlying3 ((hx 0 _ rfl).trans g0)
    obtain ⟨n1, q1, _, u1⟩ := DataW.trod_int Try.underlying3 ((hx 1 _ rfl).trans g1)
    obtain ⟨n2, q2, _, u2⟩ := DataW.trod_int Try.underlying3 ((hx 2 _ rfl).trans g2)
    obtain ⟨n3, q3, _, u3⟩ := DataW.trod_int Try.underlying3 ((hx 3 _ rfl).trans g3)
    obtain ⟨n4, q4, _, u4⟩ := DataW.trod_int Try.underlying5 ((hx 4 _ rfl).trans g4)
    simp [Try.cells3, Try.cells5] at q0 q1 q2 q3 q4
    subst q0 q1 q2 q3 q4
    refine ⟨⟨n0, n1, n2, n3, UInt8.ofNat n4.toNat⟩, ?_, i64_of u0, i64_of u1, i64_of u2, i64_of u3⟩
    show _ = [Value.int .i64 n0, .int .i64 n1, .int .i64 n2, .int .i64 n3, .int .u8 (((UInt8.ofNat n4.toNat).toNat : Nat) : Int)]
    rw [← u8_of u4]

theorem open_op {H : Type} {enc : TypeId × Value → H} {W : World} {base : Nat} {spare : Nat → Bool} {held : Bool} {fuel : Nat} {cs : Array Value} {x : DataW H × List MemPlace} (hsz : cs.size = 5)
    (hf : DataW.trod enc Try.prog W base spare held fuel 49 cs.toList = some x) : ∃ o : Op, cs = opV o ∧ GoodO o := by
  obtain ⟨o, h, h2⟩ := open_opL (by simpa using hsz) hf
  exact ⟨o, Array.toList_inj.1 h, h2⟩

theorem cells_q5 {w : World} {base : Nat} {a : Addr} {cs : List Value} (h : w.cells? base a 5 = some cs) : ∃ v0 v1 v2 v3 v4, cs = [v0, v1, v2, v3, v4] ∧ w.cell? a = some v0 ∧ w.cell? (a.add 1) = some v1 ∧ w.cell? (a.add 2) = some v2 ∧ w.cell? (a.add 3) = some v3 ∧ w.cell? (a.add 4) = some v4 := by
  obtain ⟨hb, hl, hc⟩ := World.cells?_some h
  match cs, hl with
  | [v0, v1, v2, v3, v4], _ =>
    have h0 := hc 0 (by simp)
    have h1 := hc 1 (by simp)
    have h2 := hc 2 (by simp)
    have h3 := hc 3 (by simp)
    have h4 := hc 4 (by simp)
    exact ⟨v0, v1, v2, v3, v4, rfl, by simpa [Addr.add] using h0, by simpa using h1, by simpa using h2, by simpa using h3, by simpa using h4⟩

set_option maxRecDepth 20000 in
theorem open_ops {H : Type} {enc : TypeId × Value → H} {W : World} {base : Nat} {spare : Nat → Bool} {held : Bool} {fuel : Nat} {v : Value} {x : DataW H × List MemPlace}
    (hf : DataW.trod enc Try.prog W base spare held fuel 47 [v] = some x) : ∃ a c, ∃ l : List Op, v = .slice a l.length c ∧ SlO W a l ∧ l.length ≤ maxLen := by
  rcases open_slice Try.underlying47 hf with ⟨hcs, _⟩ | ⟨ad, n, cap, m, nf, D, Pl, hcs, _, hl, hm, hmm, _, hx⟩
  · simp at hcs
    subst hcs
    exact ⟨none, 0, [], rfl, ⟨fun _ => rfl, fun y hy => by simp at hy, by simp⟩, by simp⟩
  · simp at hcs
    subst hcs
    have hlm : n ≤ m := by rw [hmm]; split <;> omega
    have hsp : 0 < n → ad.spot = none := by
      intro h0
      obtain ⟨cs', hc, _⟩ := hx 0 (by omega)
      rw [Try.cells49] at hc
      obtain ⟨v0, v1, v2, v3, v4, rfl, e0, _⟩ := cells_q5 hc
      have := World.cell?_spot e0
      simpa [Addr.add] using this
    have each : ∀ i, i < n → ∃ q : Op, ad.spot = none ∧ OpAt W ad.block (ad.off + i * 5) q ∧ GoodO q := by
      intro i hi
      obtain ⟨cs', hc, ht⟩ := hx i (by omega)
      rw [Try.cells49] at hc
      obtain ⟨v0, v1, v2, v3, v4, rfl, e0, e1, e2, e3, e4⟩ := cells_q5 hc
      obtain ⟨o, ho, hg⟩ := open_opL rfl ht
      simp at ho
      obtain ⟨rfl, rfl, rfl, rfl, rfl⟩ := ho
      obtain ⟨ab, ao, asp⟩ := ad
      obtain rfl : asp = none := hsp (by omega)
      rw [add_at] at e0 e1 e2 e3 e4
      rw [add_at] at e1 e2 e3 e4
      exact ⟨o, rfl, ⟨e0, e1, e2, e3, e4⟩, hg⟩
    obtain ⟨q, hq⟩ := choose_lt each
    have hln : ((List.range n).map fun i => q i).length = n := by simp
    refine ⟨some ad, cap, (List.range n).map fun i => q i, by rw [hln], ⟨fun h => by simp at h, fun y hy i t ht => ?_, fun t ht => ?_⟩, by omega⟩
    · simp at hy
      subst hy
      have hi : i < n := by have := (List.getElem?_eq_some_iff.1 ht).1; omega
      simp [hi] at ht
      subst ht
      obtain ⟨h0, h1, _⟩ := hq i hi
      exact ⟨h0, h1⟩
    · simp at ht
      obtain ⟨i, hi, rfl⟩ := ht
      exact (hq i hi).2.2

set_option maxRecDepth 20000 in
theorem open_torn {H : Type} {enc : TypeId × Value → H} {W : World} {base : Nat} {spare : Nat → Bool} {held : Bool} {fuel : Nat} {cs : Array Value} {x : DataW H × List MemPlace} (hsz : cs.size = 8)
    (hf : DataW.trod enc Try.prog W base spare held fuel 55 cs.toList = some x) : ∃ (size : Int) (a : Option Addr) (c : Nat) (l : List Op) (o : Op) (k : Int), cs = #[.int .i64 size, .slice a l.length c, .int .i64 o.kind, .int .i64 o.hand, .int .i64 o.place, .int .i64 o.n, .int .u8 (o.fill.toNat : Int), .int .i64 k] ∧ SlO W a l ∧ GoodO o ∧ I64 k := by
  obtain ⟨l⟩ := cs
  simp at hsz
  match l, hsz with
  | [v0, v1, v2, v3, v4, v5, v6, v7], _ =>
    obtain ⟨y0, y1, y2, y3, nn, _, _, t0, t1, t2, t3⟩ := Go.Joins.trod_struct4 Try.underlying55 hf
    obtain ⟨n0, q0, _, _⟩ := DataW.trod_int Try.underlying3 t0
    obtain ⟨n3, q3, _, u3⟩ := DataW.trod_int Try.underlying3 t3
    simp [Try.cells3, Try.cells47, Try.cells49] at q0 q3 t1 t2
    subst q0 q3
    obtain ⟨a, c, l, rfl, hs, _⟩ := open_ops t1
    obtain ⟨o, ho, hg⟩ := open_opL rfl t2
    simp at ho
    obtain ⟨rfl, rfl, rfl, rfl, rfl⟩ := ho
    exact ⟨n0, a, c, l, o, n3, rfl, hs, hg, i64_of u3⟩

end Go.Proofs.Ytbigclhfgcaccaa
