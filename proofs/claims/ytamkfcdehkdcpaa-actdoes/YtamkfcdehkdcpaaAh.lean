/-
  Records, and three numbers, that came in, opened.
-/
import Derived.Test.YtamkfcdehkdcpaaAg
import Derived.Test.YtamkfcdehkdcpaaBk
import Derived.Laws.IdiomArrays
namespace Go.Proofs.Ytamkfcdehkdcpaa
open Go.ChangeShapes Go.WideShapes Go.ChangeAt Go.RowKit Go.Deep

theorem Try.cells50 : Try.prog.cellsOf 50 = 1 := by kernel_rfl
theorem Try.cells51 : Try.prog.cellsOf 51 = 1 := by kernel_rfl
theorem Try.cells52 : Try.prog.cellsOf 52 = 1 := by kernel_rfl
theorem Try.cells54 : Try.prog.cellsOf 54 = 12 := by kernel_rfl
theorem Try.cells61 : Try.prog.cellsOf 61 = 3 := by kernel_rfl

theorem okWide_arr {P : Program} {w : World} {r : Reach} {base : Nat} {t : TypeId} {v : Value} {n : Nat} {e : TypeId} (ht : P.underlying t = some (.array n e)) (h : Value.okWide P w r base t v) : ∃ cs, v = .agg cs ∧ cs.size = P.cellsOf t := by
  simp only [Value.okWide, ht] at h
  obtain ⟨cs, h1, h2, _⟩ := h
  exact ⟨cs, h1, h2⟩

set_option maxRecDepth 20000 in
theorem open_arr3 {H : Type} {enc : TypeId × Value → H} {W : World} {base : Nat} {spare : Nat → Bool} {held : Bool} {fuel : Nat} {cs : Array Value} {x : DataW H × List MemPlace} (hsz : cs.size = 3)
    (hf : DataW.trod enc Try.prog W base spare held fuel 61 cs.toList = some x) : ∃ a b c : Nat, cs = #[.int .u64 (a : Int), .int .u64 (b : Int), .int .u64 (c : Int)] := by
  obtain ⟨l⟩ := cs
  simp at hsz
  match l, hsz with
  | [v0, v1, v2], _ =>
    obtain ⟨xs, m, _, _, _, hl, hel⟩ := DataW.trod_array Try.underlying61 hf
    have h0 := hel 0 (by omega)
    have h1 := hel 1 (by omega)
    have h2 := hel 2 (by omega)
    rw [List.getElem?_eq_getElem (by omega)] at h0 h1 h2
    obtain ⟨n0, q0, _, u0⟩ := DataW.trod_int Try.underlying25 h0
    obtain ⟨n1, q1, _, u1⟩ := DataW.trod_int Try.underlying25 h1
    obtain ⟨n2, q2, _, u2⟩ := DataW.trod_int Try.underlying25 h2
    simp [Try.cells25] at q0 q1 q2
    subst q0 q1 q2
    exact ⟨n0.toNat, n1.toNat, n2.toNat, by rw [← (u64_nat u0).1, ← (u64_nat u1).1, ← (u64_nat u2).1]⟩

theorem open_sl {H : Type} {enc : TypeId × Value → H} {W : World} {base : Nat} {spare : Nat → Bool} {held : Bool} {fuel : Nat} {t e : TypeId} {v : Value} {x : DataW H × List MemPlace} (ht : Try.prog.underlying t = some (.slice e))
    (hf : DataW.trod enc Try.prog W base spare held fuel t [v] = some x) : ∃ a n c, v = .slice a n c := by
  rcases open_slice ht hf with ⟨hcs, _⟩ | ⟨ad, n, cap, m, nf, D, Pl, hcs, _⟩
  · simp at hcs
    subst hcs
    exact ⟨_, _, _, rfl⟩
  · simp at hcs
    subst hcs
    exact ⟨_, _, _, rfl⟩

set_option maxRecDepth 20000 in
set_option maxHeartbeats 400000 in
theorem open_recL {H : Type} {enc : TypeId × Value → H} {W : World} {base : Nat} {spare : Nat → Bool} {held : Bool} {fuel : Nat} {l : List Value} {x : DataW H × List MemPlace} (hsz : l.length = 12)
    (hf : DataW.trod enc Try.prog W base spare held fuel 54 l = some x) : ∃ r : Rc, l = (recC r).toList ∧ r.lsn < 18446744073709551616 ∧ r.act.key.length ≤ maxLen ∧ r.act.old.length ≤ maxLen ∧ r.act.new.length ≤ maxLen := by
  obtain ⟨xs, n, _, _, _, hxl, hx⟩ := DataW.trod_struct Try.underlying54 hf
  match l, hsz with
  | [v0, v1, v2, v3, v4, v5, v6, v7, v8, v9, v10, v11], _ =>
    have hxs : xs.length = 9 := hxl
    have get : ∀ i, i < 9 → ∃ y, xs[i]? = some y := fun i hi => ⟨xs[i]'(by omega), List.getElem?_eq_getElem (by omega)⟩
    obtain ⟨y0, g0⟩ := get 0 (by omega)
    obtain ⟨y1, g1⟩ := get 1 (by omega)
    obtain ⟨y2, g2⟩ := get 2 (by omega)
    obtain ⟨y3, g3⟩ := get 3 (by omega)
    obtain ⟨y4, g4⟩ := get 4 (by omega)
    obtain ⟨y5, g5⟩ := get 5 (by omega)
    obtain ⟨y6, g6⟩ := get 6 (by omega)
    obtain ⟨y7, g7⟩ := get 7 (by omega)
    obtain ⟨y8, g8⟩ := get 8 (by omega)
    have t0 := (hx 0 _ rfl).trans g0
    have t1 := (hx 1 _ rfl).trans g1
    have t2 := (hx 2 _ rfl).trans g2
    have t3 := (hx 3 _ rfl).trans g3
    have t4 := (hx 4 _ rfl).trans g4
    have t5 := (hx 5 _ rfl).trans g5
    have t6 := (hx 6 _ rfl).trans g6
    have t7 := (hx 7 _ rfl).trans g7
    have t8 := (hx 8 _ rfl).trans g8
    obtain ⟨n0, q0, _, _⟩ := DataW.trod_int Try.underlying50 t0
    obtain ⟨n1, q1, _, u1⟩ := DataW.trod_int Try.underlying26 t1
    obtain ⟨n2, q2, _, _⟩ := DataW.trod_int Try.underlying3 t2
    obtain ⟨n3, q3, _, u3⟩ := DataW.trod_int Try.underlying26 t3
    obtain ⟨n4, q4, _, u4⟩ := DataW.trod_int Try.underlying26 t4
    obtain ⟨n5, q5, _, _⟩ := DataW.trod_int Try.underlying3 t5
    simp [Try.cells50, Try.cells26, Try.cells3] at q0 q1 q2 q3 q4 q5
    simp [Try.cells35, Try.cells51, Try.cells52] at t6 t7 t8
    subst q0 q1 q2 q3 q4 q5
    obtain ⟨zs, m, _, _, _, hzl, hz⟩ := DataW.trod_struct Try.underlying35 t6
    have hzs : zs.length = 4 := hzl
    have getz : ∀ i, i < 4 → ∃ y, zs[i]? = some y := fun i hi => ⟨zs[i]'(by omega), List.getElem?_eq_getElem (by omega)⟩
    obtain ⟨z0, k0⟩ := getz 0 (by omega)
    obtain ⟨z1, k1⟩ := getz 1 (by omega)
    obtain ⟨z2, k2⟩ := getz 2 (by omega)
    obtain ⟨z3, k3⟩ := getz 3 (by omega)
    obtain ⟨m0, p0, _, _⟩ := DataW.trod_int Try.underlying33 ((hz 0 _ rfl).trans k0)
    obtain ⟨s1, p1, _, w1⟩ := DataW.trod_string Try.underlying9 ((hz 1 _ rfl).trans k1)
    obtain ⟨s2, p2, _, w2⟩ := DataW.trod_string Try.underlying9 ((hz 2 _ rfl).trans k2)
    obtain ⟨s3, p3, _, w3⟩ := DataW.trod_string Try.underlying9 ((hz 3 _ rfl).trans k3)
    simp [Try.cells33, Try.cells9] at p0 p1 p2 p3
    subst p0 p1 p2 p3
    obtain ⟨ta, tn, tc, rfl⟩ := open_sl Try.underlying51 t7
    obtain ⟨da, dn, dc, rfl⟩ := open_sl Try.underlying52 t8
    refine ⟨⟨n0, n1.toNat, n2, n3.toNat, n4.toNat, n5, ⟨m0, s1.data.toList, s2.data.toList, s3.data.toList⟩, ta, tn, tc, da, dn, dc⟩, ?_, (u64_nat u1).2, by show s1.data.toList.length ≤ _; rw [len_of]; exact w1, by show s2.data.toList.length ≤ _; rw [len_of]; exact w2, by show s3.data.toList.length ≤ _; rw [len_of]; exact w3⟩
    show _ = [Value.int .i64 n0, .int .u64 ((n1.toNat : Nat) : Int), .int .i64 n2, .int .u64 ((n3.toNat : Nat) : Int), .int .u64 ((n4.toNat : Nat) : Int), .int .i64 n5, .int .i64 m0, .string (txt s1.data.toList), .string (txt s2.data.toList), .string (txt s3.data.toList), .slice ta tn tc, .slice da dn dc]
    rw [txt_of, txt_of, txt_of, ← (u64_nat u1).1, ← (u64_nat u3).1, ← (u64_nat u4).1]

theorem open_rec {H : Type} {enc : TypeId × Value → H} {W : World} {base : Nat} {spare : Nat → Bool} {held : Bool} {fuel : Nat} {cs : Array Value} {x : DataW H × List MemPlace} (hsz : cs.size = 12)
    (hf : DataW.trod enc Try.prog W base spare held fuel 54 cs.toList = some x) : ∃ r : Rc, cs = recC r := by
  obtain ⟨r, h, _⟩ := open_recL (by simpa using hsz) hf
  exact ⟨r, Array.toList_inj.1 h⟩

end Go.Proofs.Ytamkfcdehkdcpaa
