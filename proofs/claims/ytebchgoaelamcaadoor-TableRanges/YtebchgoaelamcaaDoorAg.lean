/-
  Changes and pairs that came in, opened.
-/
import Derived.Test.YtebchgoaelamcaaDoorX8
import Derived.ProofKit
import Derived.OpenShut
import Derived.ShutString
import Derived.SizedLaws
import Derived.Deep.Strs
import Derived.Lib.SmallJoins
namespace Go.Proofs.YtebchgoaelamcaaDoor
open Go.ChangeShapes Go.WideShapes Go.ChangeAt Go.RowKit Go.Deep

theorem Tryd.own : ownKnob Tryd.prog.godebug = none := by kernel_rfl
theorem Tryd.laidOut : laidOutB Tryd.prog = true := by kernel_rfl
theorem Tryd.cells44 : Tryd.prog.cellsOf 44 = 1 := by kernel_rfl
theorem Tryd.cells36 : Tryd.prog.cellsOf 36 = 1 := by kernel_rfl
theorem Tryd.cells3 : Tryd.prog.cellsOf 3 = 1 := by kernel_rfl
theorem Tryd.cells9 : Tryd.prog.cellsOf 9 = 1 := by kernel_rfl
theorem Tryd.cells35 : Tryd.prog.cellsOf 35 = 1 := by kernel_rfl
theorem Tryd.cells46 : Tryd.prog.cellsOf 46 = 4 := by kernel_rfl
theorem Tryd.cells74 : Tryd.prog.cellsOf 74 = 2 := by kernel_rfl
theorem Tryd.cells5 : Tryd.prog.cellsOf 5 = 1 := by kernel_rfl
theorem Tryd.bytes5 : Tryd.prog.bytesOf 5 = 1 := by kernel_rfl

theorem cells_q4 {w : World} {base : Nat} {a : Addr} {cs : List Value} (h : w.cells? base a 4 = some cs) : ∃ v0 v1 v2 v3, cs = [v0, v1, v2, v3] ∧ w.cell? a = some v0 ∧ w.cell? (a.add 1) = some v1 ∧ w.cell? (a.add 2) = some v2 ∧ w.cell? (a.add 3) = some v3 := by
  obtain ⟨hb, hl, hc⟩ := World.cells?_some h
  match cs, hl with
  | [v0, v1, v2, v3], _ =>
    have h0 := hc 0 (by simp)
    have h1 := hc 1 (by simp)
    have h2 := hc 2 (by simp)
    have h3 := hc 3 (by simp)
    exact ⟨v0, v1, v2, v3, rfl, by simpa [Addr.add] using h0, by simpa using h1, by simpa using h2, by simpa using h3⟩

theorem u64_nat {n : Int} (w : (Lit.int .u64 n).wf = true) : n = ((n.toNat : Nat) : Int) ∧ n.toNat < 18446744073709551616 := by
  simp [Lit.wf, IntKind.min, IntKind.max, IntKind.signed, IntKind.bits] at w
  omega


theorem txt_of (s : ByteArray) : txt s.data.toList = s := by
  cases s
  simp [txt]
theorem len_of (s : ByteArray) : s.data.toList.length = s.size := Array.length_toList

theorem cells_q2 {w : World} {base : Nat} {a : Addr} {cs : List Value} (h : w.cells? base a 2 = some cs) : ∃ v0 v1, cs = [v0, v1] ∧ w.cell? a = some v0 ∧ w.cell? (a.add 1) = some v1 := by
  obtain ⟨hb, hl, hc⟩ := World.cells?_some h
  match cs, hl with
  | [v0, v1], _ =>
    have h0 := hc 0 (by simp)
    have h1 := hc 1 (by simp)
    exact ⟨v0, v1, rfl, by simpa [Addr.add] using h0, by simpa using h1⟩

theorem cells_q3 {w : World} {base : Nat} {a : Addr} {cs : List Value} (h : w.cells? base a 3 = some cs) : ∃ v0 v1 v2, cs = [v0, v1, v2] ∧ w.cell? a = some v0 ∧ w.cell? (a.add 1) = some v1 ∧ w.cell? (a.add 2) = some v2 := by
  obtain ⟨hb, hl, hc⟩ := World.cells?_some h
  match cs, hl with
  | [v0, v1, v2], _ =>
    have h0 := hc 0 (by simp)
    have h1 := hc 1 (by simp)
    have h2 := hc 2 (by simp)
    exact ⟨v0, v1, v2, rfl, by simpa [Addr.add] using h0, by simpa using h1, by simpa using h2⟩
theorem Tryd.cells23 : Tryd.prog.cellsOf 23 = 3 := by kernel_rfl

/-- A step of a table. -/
structure As where
  kind : Int
  key : List UInt8
  val : List UInt8
abbrev askC (a : As) : Array Value := #[.int .i64 a.kind, .string (txt a.key), .string (txt a.val)]
theorem open_ask {H : Type} {enc : TypeId × Value → H} {W : World} {base : Nat} {spare : Nat → Bool} {held : Bool} {fuel : Nat} {cs : Array Value} {x : DataW H × List MemPlace} (hsz : cs.size = 3)
    (hf : DataW.trod enc Tryd.prog W base spare held fuel 23 cs.toList = some x) : ∃ a : As, cs = askC a ∧ a.key.length ≤ maxLen ∧ a.val.length ≤ maxLen := by
  obtain ⟨l⟩ := cs
  simp at hsz
  match l, hsz with
  | [v0, v1, v2], _ =>
    obtain ⟨y0, y1, y2, nn, _, _, t0, t1, t2⟩ := trod_struct3 Tryd.underlying23 hf
    obtain ⟨n0, q0, _, _⟩ := DataW.trod_int Tryd.underlying3 t0
    obtain ⟨s1, q1, _, w1⟩ := DataW.trod_string Tryd.underlying9 t1
    obtain ⟨s2, q2, _, w2⟩ := DataW.trod_string Tryd.underlying9 t2
    simp [Tryd.cells3, Tryd.cells9] at q0 q1 q2
    subst q0 q1 q2
    exact ⟨⟨n0, s1.data.toList, s2.data.toList⟩, by simp only [askC]; rw [txt_of, txt_of], by show s1.data.toList.length ≤ _; rw [len_of]; exact w1, by show s2.data.toList.length ≤ _; rw [len_of]; exact w2⟩

set_option maxRecDepth 20000 in
theorem open_pairs {H : Type} {enc : TypeId × Value → H} {W : World} {base : Nat} {spare : Nat → Bool} {held : Bool} {fuel : Nat} {v : Value} {x : DataW H × List MemPlace}
    (hf : DataW.trod enc Tryd.prog W base spare held fuel 33 [v] = some x) : ∃ a c, ∃ l : List Pr, v = .slice a l.length c ∧ SlP W a l ∧ l.length ≤ maxLen := by
  rcases open_slice Tryd.underlying33 hf with ⟨hcs, _⟩ | ⟨ad, n, cap, m, nf, D, Pl, hcs, _, hl, hm, hmm, _, hx⟩
  · simp at hcs
    subst hcs
    exact ⟨none, 0, [], rfl, ⟨fun _ => rfl, fun y hy => by simp at hy, by simp⟩, by simp⟩
  · simp at hcs
    subst hcs
    have hlm : n ≤ m := by rw [hmm]; split <;> omega
    have hsp : 0 < n → ad.spot = none := by
      intro h0
      obtain ⟨cs', hc, _⟩ := hx 0 (by omega)
      rw [Tryd.cells74] at hc
      obtain ⟨v0, v1, rfl, e0, _⟩ := cells_q2 hc
      have := World.cell?_spot e0
      simpa [Addr.add] using this
    have each : ∀ i, i < n → ∃ q : Pr, ad.spot = none ∧ W.cell? ⟨ad.block, ad.off + i * 2, none⟩ = some (.string (txt q.key)) ∧ W.cell? ⟨ad.block, ad.off + i * 2 + 1, none⟩ = some (.string (txt q.val)) ∧ q.key.length ≤ maxLen ∧ q.val.length ≤ maxLen := by
      intro i hi
      obtain ⟨cs', hc, ht⟩ := hx i (by omega)
      rw [Tryd.cells74] at hc
      obtain ⟨v0, v1, rfl, e0, e1⟩ := cells_q2 hc
      obtain ⟨y0, y1, nn, _, _, t0, t1⟩ := trod_struct2 Tryd.underlying74 ht
      obtain ⟨s1, q1, _, w1⟩ := DataW.trod_string Tryd.underlying9 t0
      obtain ⟨s2, q2, _, w2⟩ := DataW.trod_string Tryd.underlying9 t1
      simp [Tryd.cells9] at q1 q2
      subst q1 q2
      obtain ⟨ab, ao, asp⟩ := ad
      obtain rfl : asp = none := hsp (by omega)
      have eb : ∀ q j, (⟨ab, q, none⟩ : Addr).add j = ⟨ab, q + j, none⟩ := fun q j => by unfold Addr.add; split <;> simp_all
      rw [eb] at e0 e1
      rw [eb] at e1
      refine ⟨⟨s1.data.toList, s2.data.toList⟩, rfl, ?_, ?_, ?_, ?_⟩
      · show _ = some (Value.string (txt s1.data.toList))
        rw [txt_of]; exact e0
      · show _ = some (Value.string (txt s2.data.toList))
        rw [txt_of]; exact e1
      · show s1.data.toList.length ≤ _
        rw [len_of]; exact w1
      · show s2.data.toList.length ≤ _
        rw [len_of]; exact w2
    obtain ⟨q, hq⟩ := choose_lt each
    have hln : ((List.range n).map fun i => q i).length = n := by simp
    refine ⟨some ad, cap, (List.range n).map fun i => q i, by rw [hln], ⟨fun h => by simp at h, fun y hy i t ht => ?_, fun t ht => ?_⟩, by omega⟩
    · simp at hy
      subst hy
      have hi : i < n := by have := (List.getElem?_eq_some_iff.1 ht).1; omega
      simp [hi] at ht
      subst ht
      obtain ⟨h0, h1, h2, _⟩ := hq i hi
      exact ⟨h0, h1, h2⟩
    · simp at ht
      obtain ⟨i, hi, rfl⟩ := ht
      obtain ⟨_, _, _, h5, h6⟩ := hq i hi
      exact ⟨h5, h6⟩

end Go.Proofs.YtebchgoaelamcaaDoor
