/-
  A record that came in, opened.
-/
import Derived.Test.YticadfaclnimgaaNb
import Derived.ProofKit
import Derived.OpenShut
import Derived.ShutString
import Derived.SizedLaws
import Derived.Deep.Strs
namespace Go.Proofs.Yticadfaclnimgaa
open Go.ChangeShapes Go.WideShapes Go.ChangeAt Go.RowKit Go.Deep

theorem Try.own : ownKnob Try.prog.godebug = none := by kernel_rfl
theorem Try.laidOut : laidOutB Try.prog = true := by kernel_rfl
theorem Try.cells3 : Try.prog.cellsOf 3 = 1 := by kernel_rfl
theorem Try.cells9 : Try.prog.cellsOf 9 = 1 := by kernel_rfl
theorem Try.cells25 : Try.prog.cellsOf 25 = 1 := by kernel_rfl
theorem Try.cells27 : Try.prog.cellsOf 27 = 1 := by kernel_rfl
theorem Try.cells28 : Try.prog.cellsOf 28 = 1 := by kernel_rfl
theorem Try.cells30 : Try.prog.cellsOf 30 = 4 := by kernel_rfl
theorem Try.cells31 : Try.prog.cellsOf 31 = 1 := by kernel_rfl
theorem Try.cells32 : Try.prog.cellsOf 32 = 1 := by kernel_rfl
theorem Try.cells34 : Try.prog.cellsOf 34 = 12 := by kernel_rfl
theorem Try.cells41 : Try.prog.cellsOf 41 = 1 := by kernel_rfl
theorem Try.cells43 : Try.prog.cellsOf 43 = 3 := by kernel_rfl
theorem Try.cells95 : Try.prog.cellsOf 95 = 2 := by kernel_rfl
theorem Try.cells5 : Try.prog.cellsOf 5 = 1 := by kernel_rfl
theorem Try.bytes5 : Try.prog.bytesOf 5 = 1 := by kernel_rfl

theorem cells_q3 {w : World} {base : Nat} {a : Addr} {cs : List Value} (h : w.cells? base a 3 = some cs) : ∃ v0 v1 v2, cs = [v0, v1, v2] ∧ w.cell? a = some v0 ∧ w.cell? (a.add 1) = some v1 ∧ w.cell? (a.add 2) = some v2 := by
  obtain ⟨hb, hl, hc⟩ := World.cells?_some h
  match cs, hl with
  | [v0, v1, v2], _ =>
    have h0 := hc 0 (by simp)
    have h1 := hc 1 (by simp)
    have h2 := hc 2 (by simp)
    exact ⟨v0, v1, v2, rfl, by simpa [Addr.add] using h0, by simpa using h1, by simpa using h2⟩
theorem cells_q2 {w : World} {base : Nat} {a : Addr} {cs : List Value} (h : w.cells? base a 2 = some cs) : ∃ v0 v1, cs = [v0, v1] ∧ w.cell? a = some v0 ∧ w.cell? (a.add 1) = some v1 := by
  obtain ⟨hb, hl, hc⟩ := World.cells?_some h
  match cs, hl with
  | [v0, v1], _ =>
    have h0 := hc 0 (by simp)
    have h1 := hc 1 (by simp)
    exact ⟨v0, v1, rfl, by simpa [Addr.add] using h0, by simpa using h1⟩

theorem u64_nat {n : Int} (w : (Lit.int .u64 n).wf = true) : n = ((n.toNat : Nat) : Int) := by
  simp [Lit.wf, IntKind.min, IntKind.max, IntKind.signed, IntKind.bits] at w
  omega

set_option maxRecDepth 20000 in
theorem open_txns {H : Type} {enc : TypeId × Value → H} {W : World} {base : Nat} {spare : Nat → Bool} {held : Bool} {fuel : Nat} {v : Value} {x : DataW H × List MemPlace}
    (hf : DataW.trod enc Try.prog W base spare held fuel 31 [v] = some x) : ∃ a c, ∃ l : List Tx, v = .slice a l.length c ∧ SlT W a l ∧ l.length ≤ maxLen := by
  rcases open_slice Try.underlying31 hf with ⟨hcs, _⟩ | ⟨ad, n, cap, m, nf, D, Pl, hcs, _, hl, hm, hmm, _, hx⟩
  · simp at hcs
    subst hcs
    exact ⟨none, 0, [], rfl, ⟨fun _ => rfl, fun y hy => by simp at hy⟩, by simp⟩
  · simp at hcs
    subst hcs
    have hlm : n ≤ m := by rw [hmm]; split <;> omega
    have hsp : 0 < n → ad.spot = none := by
      intro h0
      obtain ⟨cs', hc, _⟩ := hx 0 (by omega)
      rw [Try.cells43] at hc
      obtain ⟨v0, v1, v2, rfl, e0, _, _⟩ := cells_q3 hc
      have := World.cell?_spot e0
      simpa [Addr.add] using this
    have each : ∀ i, i < n → ∃ q : Int × Int × Nat, ad.spot = none ∧ W.cell? ⟨ad.block, ad.off + i * 3, none⟩ = some (.int .i64 q.1) ∧ W.cell? ⟨ad.block, ad.off + i * 3 + 1, none⟩ = some (.int .i64 q.2.1) ∧ W.cell? ⟨ad.block, ad.off + i * 3 + 2, none⟩ = some (.int .u64 (q.2.2 : Nat)) := by
      intro i hi
      obtain ⟨cs', hc, ht⟩ := hx i (by omega)
      rw [Try.cells43] at hc
      obtain ⟨v0, v1, v2, rfl, e0, e1, e2⟩ := cells_q3 hc
      obtain ⟨y0, y1, y2, nn, _, _, t0, t1, t2⟩ := trod_struct3 Try.underlying43 ht
      obtain ⟨n0, q0, _, _⟩ := DataW.trod_int Try.underlying3 t0
      obtain ⟨n1, q1, _, _⟩ := DataW.trod_int Try.underlying41 t1
      obtain ⟨n2, q2, _, w2⟩ := DataW.trod_int Try.underlying27 t2
      simp [Try.cells3, Try.cells41, Try.cells27] at q0 q1 q2
      subst q0 q1 q2
      obtain ⟨ab, ao, asp⟩ := ad
      obtain rfl : asp = none := hsp (by omega)
      have eb : ∀ q j, (⟨ab, q, none⟩ : Addr).add j = ⟨ab, q + j, none⟩ := fun q j => by unfold Addr.add; split <;> simp_all
      rw [eb] at e0 e1 e2
      rw [eb] at e1 e2
      refine ⟨(n0, n1, n2.toNat), rfl, e0, e1, ?_⟩
      show _ = some (Value.int .u64 ((n2.toNat : Nat) : Int))
      rw [← u64_nat w2]
      exact e2
    obtain ⟨q, hq⟩ := choose_lt each
    have hln : ((List.range n).map fun i => (⟨(q i).1, (q i).2.1, (q i).2.2⟩ : Tx)).length = n := by simp
    refine ⟨some ad, cap, (List.range n).map fun i => (⟨(q i).1, (q i).2.1, (q i).2.2⟩ : Tx), by rw [hln], ⟨fun h => by simp at h, fun y hy i t ht => ?_⟩, by omega⟩
    simp at hy
    subst hy
    have hi : i < n := by have := (List.getElem?_eq_some_iff.1 ht).1; omega
    simp [hi] at ht
    subst ht
    exact hq i hi

set_option maxRecDepth 20000 in
theorem open_dirty {H : Type} {enc : TypeId × Value → H} {W : World} {base : Nat} {spare : Nat → Bool} {held : Bool} {fuel : Nat} {v : Value} {x : DataW H × List MemPlace}
    (hf : DataW.trod enc Try.prog W base spare held fuel 32 [v] = some x) : ∃ a c, ∃ l : List Di, v = .slice a l.length c ∧ SlD W a l ∧ l.length ≤ maxLen := by
  rcases open_slice Try.underlying32 hf with ⟨hcs, _⟩ | ⟨ad, n, cap, m, nf, D, Pl, hcs, _, hl, hm, hmm, _, hx⟩
  · simp at hcs
    subst hcs
    exact ⟨none, 0, [], rfl, ⟨fun _ => rfl, fun y hy => by simp at hy⟩, by simp⟩
  · simp at hcs
    subst hcs
    have hlm : n ≤ m := by rw [hmm]; split <;> omega
    have hsp : 0 < n → ad.spot = none := by
      intro h0
      obtain ⟨cs', hc, _⟩ := hx 0 (by omega)
      rw [Try.cells95] at hc
      obtain ⟨v0, v1, rfl, e0, _⟩ := cells_q2 hc
      have := World.cell?_spot e0
      simpa [Addr.add] using this
    have each : ∀ i, i < n → ∃ q : Int × Nat, ad.spot = none ∧ W.cell? ⟨ad.block, ad.off + i * 2, none⟩ = some (.int .i64 q.1) ∧ W.cell? ⟨ad.block, ad.off + i * 2 + 1, none⟩ = some (.int .u64 (q.2 : Nat)) := by
      intro i hi
      obtain ⟨cs', hc, ht⟩ := hx i (by omega)
      rw [Try.cells95] at hc
      obtain ⟨v0, v1, rfl, e0, e1⟩ := cells_q2 hc
      obtain ⟨y0, y1, nn, _, _, t0, t1⟩ := trod_struct2 Try.underlying95 ht
      obtain ⟨n0, q0, _, _⟩ := DataW.trod_int Try.underlying3 t0
      obtain ⟨n2, q2, _, w2⟩ := DataW.trod_int Try.underlying27 t1
      simp [Try.cells3, Try.cells27] at q0 q2
      subst q0 q2
      obtain ⟨ab, ao, asp⟩ := ad
      obtain rfl : asp = none := hsp (by omega)
      have eb : ∀ q j, (⟨ab, q, none⟩ : Addr).add j = ⟨ab, q + j, none⟩ := fun q j => by unfold Addr.add; split <;> simp_all
      rw [eb] at e0 e1
      rw [eb] at e1
      refine ⟨(n0, n2.toNat), rfl, e0, ?_⟩
      show _ = some (Value.int .u64 ((n2.toNat : Nat) : Int))
      rw [← u64_nat w2]
      exact e1
    obtain ⟨q, hq⟩ := choose_lt each
    have hln : ((List.range n).map fun i => (⟨(q i).1, (q i).2⟩ : Di)).length = n := by simp
    refine ⟨some ad, cap, (List.range n).map fun i => (⟨(q i).1, (q i).2⟩ : Di), by rw [hln], ⟨fun h => by simp at h, fun y hy i t ht => ?_⟩, by omega⟩
    simp at hy
    subst hy
    have hi : i < n := by have := (List.getElem?_eq_some_iff.1 ht).1; omega
    simp [hi] at ht
    subst ht
    exact hq i hi

theorem txt_of (s : ByteArray) : txt s.data.toList = s := by
  cases s
  simp [txt]

set_option maxRecDepth 20000 in
theorem open_rec {H : Type} {enc : TypeId × Value → H} {W : World} {base : Nat} {spare : Nat → Bool} {held : Bool} {fuel : Nat} {cs : Array Value} {x : DataW H × List MemPlace} (hsz : cs.size = 12)
    (hf : DataW.trod enc Try.prog W base spare held fuel 34 cs.toList = some x) : ∃ r ta tc da dc, cs = recC r ta tc da dc ∧ RI W r ta da ∧ Wt r.txn := by
  obtain ⟨xs, n, _, _, _, hxl, hx⟩ := DataW.trod_struct Try.underlying34 hf
  obtain ⟨l⟩ := cs
  simp at hsz
  match l, hsz with
  | [v0, v1, v2, v3, v4, v5, v6, v7, v8, v9, v10, v11], _ =>
    have hxs : xs.length = 9 := hxl
    have get : ∀ i, i < 9 → ∃ y, xs[i]? = some y := fun i hi => ⟨xs[i]'(by omega), List.getElem?_eq_getElem (by omega)⟩
    obtain ⟨y0, g0⟩ := get 0 (by omega)
    obtain ⟨y1, g1⟩ := get 1 (by omega)
    obtain ⟨y2, g2⟩ := get 2 (by omega)
    obtain ⟨y3, g3⟩ := get 3 (by omega)
    obtain ⟨y4, g4⟩ := get 4 (by omega)
    obtain ⟨y5, g5⟩ := get 5 (by omega)
    obtain ⟨y6, g6⟩ := get 6 (by omega)
    obtain ⟨y7, g7⟩ := get 7 (by omega)
    obtain ⟨y8, g8⟩ := get 8 (by omega)
    have t0 := (hx 0 _ rfl).trans g0
    have t1 := (hx 1 _ rfl).trans g1
    have t2 := (hx 2 _ rfl).trans g2
    have t3 := (hx 3 _ rfl).trans g3
    have t4 := (hx 4 _ rfl).trans g4
    have t5 := (hx 5 _ rfl).trans g5
    have t6 := (hx 6 _ rfl).trans g6
    have t7 := (hx 7 _ rfl).trans g7
    have t8 := (hx 8 _ rfl).trans g8
    obtain ⟨n0, q0, _, _⟩ := DataW.trod_int Try.underlying25 t0
    obtain ⟨n1, q1, _, u1⟩ := DataW.trod_int Try.underlying27 t1
    obtain ⟨n2, q2, _, u2⟩ := DataW.trod_int Try.underlying3 t2
    obtain ⟨n3, q3, _, u3⟩ := DataW.trod_int Try.underlying27 t3
    obtain ⟨n4, q4, _, u4⟩ := DataW.trod_int Try.underlying27 t4
    obtain ⟨n5, q5, _, _⟩ := DataW.trod_int Try.underlying3 t5
    simp [Try.cells25, Try.cells27, Try.cells3] at q0 q1 q2 q3 q4 q5
    simp [Try.cells30, Try.cells31, Try.cells32] at t6 t7 t8
    subst q0 q1 q2 q3 q4 q5
    obtain ⟨zs, m, _, _, _, hzl, hz⟩ := DataW.trod_struct Try.underlying30 t6
    have hzs : zs.length = 4 := hzl
    have getz : ∀ i, i < 4 → ∃ y, zs[i]? = some y := fun i hi => ⟨zs[i]'(by omega), List.getElem?_eq_getElem (by omega)⟩
    obtain ⟨z0, k0⟩ := getz 0 (by omega)
    obtain ⟨z1, k1⟩ := getz 1 (by omega)
    obtain ⟨z2, k2⟩ := getz 2 (by omega)
    obtain ⟨z3, k3⟩ := getz 3 (by omega)
    obtain ⟨m0, p0, _, _⟩ := DataW.trod_int Try.underlying28 ((hz 0 _ rfl).trans k0)
    obtain ⟨s1, p1, _, _⟩ := DataW.trod_string Try.underlying9 ((hz 1 _ rfl).trans k1)
    obtain ⟨s2, p2, _, _⟩ := DataW.trod_string Try.underlying9 ((hz 2 _ rfl).trans k2)
    obtain ⟨s3, p3, _, _⟩ := DataW.trod_string Try.underlying9 ((hz 3 _ rfl).trans k3)
    simp [Try.cells28, Try.cells9] at p0 p1 p2 p3
    subst p0 p1 p2 p3
    obtain ⟨ta, tc, lt, rfl, hT, hTl⟩ := open_txns t7
    obtain ⟨da, dc, ld, rfl, hD, hDl⟩ := open_dirty t8
    refine ⟨⟨n0, n1.toNat, n2, n3.toNat, n4.toNat, n5, m0, s1.data.toList, s2.data.toList, s3.data.toList, lt, ld⟩, ta, tc, da, dc, ?_, ⟨hT, hD, hTl, hDl⟩, u2⟩
    show _ = #[Value.int .i64 n0, .int .u64 ((n1.toNat : Nat) : Int), .int .i64 n2, .int .u64 ((n3.toNat : Nat) : Int), .int .u64 ((n4.toNat : Nat) : Int), .int .i64 n5, .int .i64 m0, .string (txt s1.data.toList), .string (txt s2.data.toList), .string (txt s3.data.toList), .slice ta lt.length tc, .slice da ld.length dc]
    rw [← u64_nat u1, ← u64_nat u3, ← u64_nat u4, txt_of, txt_of, txt_of]

end Go.Proofs.Yticadfaclnimgaa
