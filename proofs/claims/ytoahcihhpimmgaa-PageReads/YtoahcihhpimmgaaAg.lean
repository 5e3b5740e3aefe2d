/-
  Steps and pairs that came in, opened.
-/
import Derived.Test.YtoahcihhpimmgaaMd
import Derived.ProofKit
import Derived.OpenShut
import Derived.ShutString
import Derived.SizedLaws
import Derived.Deep.Strs
import Derived.Lib.SmallJoins
namespace Go.Proofs.Ytoahcihhpimmgaa
open Go.ChangeShapes Go.WideShapes Go.ChangeAt Go.RowKit Go.Deep

theorem Try.own : ownKnob Try.prog.godebug = none := by kernel_rfl
theorem Try.laidOut : laidOutB Try.prog = true := by kernel_rfl
theorem Try.cells3 : Try.prog.cellsOf 3 = 1 := by kernel_rfl
theorem Try.cells9 : Try.prog.cellsOf 9 = 1 := by kernel_rfl
theorem Try.cells29 : Try.prog.cellsOf 29 = 1 := by kernel_rfl
theorem Try.cells37 : Try.prog.cellsOf 37 = 4 := by kernel_rfl
theorem Try.cells59 : Try.prog.cellsOf 59 = 2 := by kernel_rfl
theorem Try.cells5 : Try.prog.cellsOf 5 = 1 := by kernel_rfl
theorem Try.bytes5 : Try.prog.bytesOf 5 = 1 := by kernel_rfl

theorem cells_q4 {w : World} {base : Nat} {a : Addr} {cs : List Value} (h : w.cells? base a 4 = some cs) : ∃ v0 v1 v2 v3, cs = [v0, v1, v2, v3] ∧ w.cell? a = some v0 ∧ w.cell? (a.add 1) = some v1 ∧ w.cell? (a.add 2) = some v2 ∧ w.cell? (a.add 3) = some v3 := by
  obtain ⟨hb, hl, hc⟩ := World.cells?_some h
  match cs, hl with
  | [v0, v1, v2, v3], _ =>
    have h0 := hc 0 (by simp)
    have h1 := hc 1 (by simp)
    have h2 := hc 2 (by simp)
    have h3 := hc 3 (by simp)
    exact ⟨v0, v1, v2, v3, rfl, by simpa [Addr.add] using h0, by simpa using h1, by simpa using h2, by simpa using h3⟩

theorem u64_nat {n : Int} (w : (Lit.int .u64 n).wf = true) : n = ((n.toNat : Nat) : Int) ∧ n.toNat < 18446744073709551616 := by
  simp [Lit.wf, IntKind.min, IntKind.max, IntKind.signed, IntKind.bits] at w
  omega

instance : Inhabited Ov := ⟨⟨0, [], [], 0⟩⟩

theorem txt_of (s : ByteArray) : txt s.data.toList = s := by
  cases s
  simp [txt]
theorem len_of (s : ByteArray) : s.data.toList.length = s.size := Array.length_toList

set_option maxRecDepth 20000 in
theorem open_ops {H : Type} {enc : TypeId × Value → H} {W : World} {base : Nat} {spare : Nat → Bool} {held : Bool} {fuel : Nat} {v : Value} {x : DataW H × List MemPlace}
    (hf : DataW.trod enc Try.prog W base spare held fuel 34 [v] = some x) : ∃ a c, ∃ l : List Ov, v = .slice a l.length c ∧ SlO W a l ∧ l.length ≤ maxLen := by
  rcases open_slice Try.underlying34 hf with ⟨hcs, _⟩ | ⟨ad, n, cap, m, nf, D, Pl, hcs, _, hl, hm, hmm, _, hx⟩
  · simp at hcs
    subst hcs
    exact ⟨none, 0, [], rfl, ⟨fun _ => rfl, fun y hy => by simp at hy, by simp⟩, by simp⟩
  · simp at hcs
    subst hcs
    have hlm : n ≤ m := by rw [hmm]; split <;> omega
    have hsp : 0 < n → ad.spot = none := by
      intro h0
      obtain ⟨cs', hc, _⟩ := hx 0 (by omega)
      rw [Try.cells37] at hc
      obtain ⟨v0, v1, v2, v3, rfl, e0, _⟩ := cells_q4 hc
      have := World.cell?_spot e0
      simpa [Addr.add] using this
    have each : ∀ i, i < n → ∃ q : Ov, ad.spot = none ∧ W.cell? ⟨ad.block, ad.off + i * 4, none⟩ = some (.int .i64 q.kind) ∧ W.cell? ⟨ad.block, ad.off + i * 4 + 1, none⟩ = some (.string (txt q.key)) ∧ W.cell? ⟨ad.block, ad.off + i * 4 + 2, none⟩ = some (.string (txt q.val)) ∧ W.cell? ⟨ad.block, ad.off + i * 4 + 3, none⟩ = some (.int .u64 (q.tm : Int)) ∧ q.key.length ≤ maxLen ∧ q.val.length ≤ maxLen ∧ q.tm < 18446744073709551616 := by
      intro i hi
      obtain ⟨cs', hc, ht⟩ := hx i (by omega)
      rw [Try.cells37] at hc
      obtain ⟨v0, v1, v2, v3, rfl, e0, e1, e2, e3⟩ := cells_q4 hc
      obtain ⟨y0, y1, y2, y3, nn, _, _, t0, t1, t2, t3⟩ := Go.Joins.trod_struct4 Try.underlying37 ht
      obtain ⟨n0, q0, _, _⟩ := DataW.trod_int Try.underlying3 t0
      obtain ⟨s1, q1, _, w1⟩ := DataW.trod_string Try.underlying9 t1
      obtain ⟨s2, q2, _, w2⟩ := DataW.trod_string Try.underlying9 t2
      obtain ⟨n3, q3, _, w3⟩ := DataW.trod_int Try.underlying29 t3
      simp [Try.cells3, Try.cells9, Try.cells29] at q0 q1 q2 q3
      subst q0 q1 q2 q3
      obtain ⟨ab, ao, asp⟩ := ad
      obtain rfl : asp = none := hsp (by omega)
      have eb : ∀ q j, (⟨ab, q, none⟩ : Addr).add j = ⟨ab, q + j, none⟩ := fun q j => by unfold Addr.add; split <;> simp_all
      rw [eb] at e0 e1 e2 e3
      rw [eb] at e1 e2 e3
      refine ⟨⟨n0, s1.data.toList, s2.data.toList, n3.toNat⟩, rfl, e0, ?_, ?_, ?_, ?_, ?_, ?_⟩
      · show _ = some (Value.string (txt s1.data.toList))
        rw [txt_of]; exact e1
      · show _ = some (Value.string (txt s2.data.toList))
        rw [txt_of]; exact e2
      · show _ = some (Value.int .u64 ((n3.toNat : Nat) : Int))
        rw [← (u64_nat w3).1]
        exact e3
      · show s1.data.toList.length ≤ _
        rw [len_of]; exact w1
      · show s2.data.toList.length ≤ _
        rw [len_of]; exact w2
      · exact (u64_nat w3).2
    obtain ⟨q, hq⟩ := choose_lt each
    have hln : ((List.range n).map fun i => q i).length = n := by simp
    refine ⟨some ad, cap, (List.range n).map fun i => q i, by rw [hln], ⟨fun h => by simp at h, fun y hy i t ht => ?_, fun t ht => ?_⟩, by omega⟩
    · simp at hy
      subst hy
      have hi : i < n := by have := (List.getElem?_eq_some_iff.1 ht).1; omega
      simp [hi] at ht
      subst ht
      obtain ⟨h0, h1, h2, h3, h4, _⟩ := hq i hi
      exact ⟨h0, h1, h2, h3, h4⟩
    · simp at ht
      obtain ⟨i, hi, rfl⟩ := ht
      obtain ⟨_, _, _, _, _, h5, h6, h7⟩ := hq i hi
      exact ⟨h5, h6, h7⟩

set_option maxRecDepth 20000 in
theorem open_pair {H : Type} {enc : TypeId × Value → H} {W : World} {base : Nat} {spare : Nat → Bool} {held : Bool} {fuel : Nat} {cs : Array Value} {x : DataW H × List MemPlace} (hsz : cs.size = 2)
    (hf : DataW.trod enc Try.prog W base spare held fuel 59 cs.toList = some x) : ∃ k v : List UInt8, cs = #[.string (txt k), .string (txt v)] ∧ k.length ≤ maxLen ∧ v.length ≤ maxLen := by
  obtain ⟨l⟩ := cs
  simp at hsz
  match l, hsz with
  | [v0, v1], _ =>
    obtain ⟨y0, y1, nn, _, _, t0, t1⟩ := trod_struct2 Try.underlying59 hf
    obtain ⟨s1, q1, _, w1⟩ := DataW.trod_string Try.underlying9 t0
    obtain ⟨s2, q2, _, w2⟩ := DataW.trod_string Try.underlying9 t1
    simp [Try.cells9] at q1 q2
    subst q1 q2
    exact ⟨s1.data.toList, s2.data.toList, by rw [txt_of, txt_of], by rw [len_of]; exact w1, by rw [len_of]; exact w2⟩

end Go.Proofs.Ytoahcihhpimmgaa
