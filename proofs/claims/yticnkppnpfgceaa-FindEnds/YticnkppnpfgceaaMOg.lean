/-
  Records, logs of them, and several logs, that came in, opened.
-/
import Derived.ProofKit
import Derived.OpenShut
import Derived.SizedLaws
import Derived.ChangeMaps5
import Derived.Deep.Grids
import Derived.Test.YticnkppnpfgceaaMSb
import Derived.Test.YticnkppnpfgceaaMTa
import Derived.ShutString
import Derived.Deep.Strs
namespace Go.Proofs.Yticnkppnpfgceaa.Mg
open Go.ChangeShapes Go.WideShapes Go.ChangeAt Go.RowKit Go.Deep

theorem Try.own : ownKnob Try.prog.godebug = none := by kernel_rfl
theorem Try.laidOut : laidOutB Try.prog = true := by kernel_rfl
theorem Try.cells3 : Try.prog.cellsOf 3 = 1 := by kernel_rfl
theorem Try.cells4 : Try.prog.cellsOf 4 = 1 := by kernel_rfl
theorem Try.cells9 : Try.prog.cellsOf 9 = 1 := by kernel_rfl
theorem Try.cells45 : Try.prog.cellsOf 45 = 1 := by kernel_rfl
theorem Try.cells30 : Try.prog.cellsOf 30 = 1 := by kernel_rfl
theorem Try.cells46 : Try.prog.cellsOf 46 = 1 := by kernel_rfl
theorem Try.cells48 : Try.prog.cellsOf 48 = 4 := by kernel_rfl
theorem Try.cells26 : Try.prog.cellsOf 26 = 1 := by kernel_rfl
theorem Try.cells28 : Try.prog.cellsOf 28 = 1 := by kernel_rfl
theorem Try.cells50 : Try.prog.cellsOf 50 = 12 := by kernel_rfl
theorem Try.cells55 : Try.prog.cellsOf 55 = 1 := by kernel_rfl
theorem Try.cells57 : Try.prog.cellsOf 57 = 3 := by kernel_rfl
theorem Try.cells60 : Try.prog.cellsOf 60 = 2 := by kernel_rfl
theorem Try.cells22 : Try.prog.cellsOf 22 = 1 := by kernel_rfl
theorem Try.bytes65 : Try.prog.bytesOf 57 = 24 := by kernel_rfl
theorem Try.bytes67 : Try.prog.bytesOf 60 = 16 := by kernel_rfl
theorem Try.bytes46 : Try.prog.bytesOf 50 = 152 := by kernel_rfl
theorem Try.bytes26 : Try.prog.bytesOf 22 = 24 := by kernel_rfl

/-- What came in lies within reach. -/
def Wt {H : Type} (d : DataW H) (t : TypeId) : Prop := ∀ n, n ∈ d.weights Try.prog t → n ≤ reachBytes

theorem wt_len {H : Type} {t e : TypeId} {n : Nat} {D : Nat → DataW H} {sp : List (DataW H)} {pl : List MemPlace} (h : Wt ((DataW.slice ((List.range n).map D) sp, pl) : DataW H × List MemPlace).1 t) (hu : Try.prog.underlying t = some (.slice e)) : n * Try.prog.bytesOf e ≤ 140737488355328 := by
  have := h ((((List.range n).map D).length + sp.length) * Try.prog.bytesOf e) (by simp [DataW.weights, hu])
  have hr := reachBytes_lt
  simp only [List.length_map, List.length_range, Nat.add_mul] at this
  omega
theorem mem_all {H : Type} {P : Program} {e : TypeId} {d : DataW H} : ∀ {l : List (DataW H)}, d ∈ l → ∀ n, n ∈ d.weights P e → n ∈ DataW.weightsAll P e l
  | x :: r, hd, n, hn => by
    simp only [DataW.weightsAll, List.mem_append]
    rcases List.mem_cons.1 hd with rfl | hd
    · exact .inl hn
    · exact .inr (mem_all hd n hn)
theorem wt_at {H : Type} {t e : TypeId} {n : Nat} {D : Nat → DataW H} {sp : List (DataW H)} {pl : List MemPlace} (h : Wt ((DataW.slice ((List.range n).map D) sp, pl) : DataW H × List MemPlace).1 t) (hu : Try.prog.underlying t = some (.slice e)) {i : Nat} (hi : i < n) : Wt (D i) e := fun k hk => by
  refine h k ?_
  simp only [DataW.weights, hu, List.mem_cons, List.mem_append]
  exact .inr (.inl (mem_all (List.mem_map.2 ⟨i, List.mem_range.2 hi, rfl⟩) k hk))
theorem wt_field {H : Type} {t : TypeId} {fs : Array Field} {parts : List (DataW H)} {pl : List MemPlace} (h : Wt ((DataW.agg parts, pl) : DataW H × List MemPlace).1 t) (hu : Try.prog.underlying t = some (.struct fs)) {i : Nat} {f : Field} {d : DataW H} (hf : fs[i]? = some f) (hd : parts[i]? = some d) : Wt d f.type := fun k hk => by
  refine h k ?_
  simp only [DataW.weights, hu]
  exact DataW.weights_mem_each (j := i) (t := f.type) (by simp [hf]) hd k hk

theorem cells_q3 {w : World} {base : Nat} {a : Addr} {cs : List Value} (h : w.cells? base a 3 = some cs) : ∃ v0 v1 v2, cs = [v0, v1, v2] ∧ w.cell? a = some v0 ∧ w.cell? (a.add 1) = some v1 ∧ w.cell? (a.add 2) = some v2 := by
  obtain ⟨hb, hl, hc⟩ := World.cells?_some h
  match cs, hl with
  | [v0, v1, v2], _ =>
    have h0 := hc 0 (by simp)
    have h1 := hc 1 (by simp)
    have h2 := hc 2 (by simp)
    exact ⟨v0, v1, v2, rfl, by simpa [Addr.add] using h0, by simpa using h1, by simpa using h2⟩
theorem cells_q2 {w : World} {base : Nat} {a : Addr} {cs : List Value} (h : w.cells? base a 2 = some cs) : ∃ v0 v1, cs = [v0, v1] ∧ w.cell? a = some v0 ∧ w.cell? (a.add 1) = some v1 := by
  obtain ⟨hb, hl, hc⟩ := World.cells?_some h
  match cs, hl with
  | [v0, v1], _ =>
    have h0 := hc 0 (by simp)
    have h1 := hc 1 (by simp)
    exact ⟨v0, v1, rfl, by simpa [Addr.add] using h0, by simpa using h1⟩

theorem u64_nat {n : Int} (w : (Lit.int .u64 n).wf = true) : n = ((n.toNat : Nat) : Int) := by
  simp [Lit.wf, IntKind.min, IntKind.max, IntKind.signed, IntKind.bits] at w
  omega

set_option maxRecDepth 20000 in
theorem open_txns {H : Type} {enc : TypeId × Value → H} {W : World} {base : Nat} {spare : Nat → Bool} {held : Bool} {fuel : Nat} {v : Value} {x : DataW H × List MemPlace}
    (hf : DataW.trod enc Try.prog W base spare held fuel 26 [v] = some x) (hw : Wt x.1 26) : ∃ a c, ∃ l : List Tx, v = .slice a l.length c ∧ SlT W a l ∧ l.length ≤ 140737488355328 ∧ (a = none → c = 0) := by
  rcases open_slice Try.underlying26 hf with ⟨hcs, _⟩ | ⟨ad, n, cap, m, nf, D, Pl, hcs, _, hl, hm, hmm, hxe, hx⟩
  · simp at hcs
    subst hcs
    exact ⟨none, 0, [], rfl, ⟨fun _ => rfl, fun y hy => by simp at hy⟩, by simp, fun _ => rfl⟩
  · simp at hcs
    subst hcs
    have hlm : n ≤ m := by rw [hmm]; split <;> omega
    have hsp : 0 < n → ad.spot = none := by
      intro h0
      obtain ⟨cs', hc, _⟩ := hx 0 (by omega)
      rw [Try.cells57] at hc
      obtain ⟨v0, v1, v2, rfl, e0, _, _⟩ := cells_q3 hc
      have := World.cell?_spot e0
      simpa [Addr.add] using this
    have each : ∀ i, i < n → ∃ q : Int × Int × Nat, ad.spot = none ∧ W.cell? ⟨ad.block, ad.off + i * 3, none⟩ = some (.int .i64 q.1) ∧ W.cell? ⟨ad.block, ad.off + i * 3 + 1, none⟩ = some (.int .i64 q.2.1) ∧ W.cell? ⟨ad.block, ad.off + i * 3 + 2, none⟩ = some (.int .u64 (q.2.2 : Nat)) := by
      intro i hi
      obtain ⟨cs', hc, ht⟩ := hx i (by omega)
      rw [Try.cells57] at hc
      obtain ⟨v0, v1, v2, rfl, e0, e1, e2⟩ := cells_q3 hc
      obtain ⟨y0, y1, y2, nn, _, _, t0, t1, t2⟩ := trod_struct3 Try.underlying57 ht
      obtain ⟨n0, q0, _, _⟩ := DataW.trod_int Try.underlying3 t0
      obtain ⟨n1, q1, _, _⟩ := DataW.trod_int Try.underlying55 t1
      obtain ⟨n2, q2, _, w2⟩ := DataW.trod_int Try.underlying30 t2
      simp [Try.cells3, Try.cells55, Try.cells30] at q0 q1 q2
      subst q0 q1 q2
      obtain ⟨ab, ao, asp⟩ := ad
      obtain rfl : asp = none := hsp (by omega)
      have eb : ∀ q j, (⟨ab, q, none⟩ : Addr).add j = ⟨ab, q + j, none⟩ := fun q j => by unfold Addr.add; split <;> simp_all
      rw [eb] at e0 e1 e2
      rw [eb] at e1 e2
      refine ⟨(n0, n1, n2.toNat), rfl, e0, e1, ?_⟩
      show _ = some (Value.int .u64 ((n2.toNat : Nat) : Int))
      rw [← u64_nat w2]
      exact e2
    obtain ⟨q, hq⟩ := choose_lt each
    have hln : ((List.range n).map fun i => (⟨(q i).1, (q i).2.1, (q i).2.2⟩ : Tx)).length = n := by simp
    refine ⟨some ad, cap, (List.range n).map fun i => (⟨(q i).1, (q i).2.1, (q i).2.2⟩ : Tx), by rw [hln], ⟨fun h => by simp at h, fun y hy i t ht => ?_⟩, by rw [hln]; have := wt_len (by rw [hxe] at hw; exact hw) Try.underlying26; rw [Try.bytes65] at this; omega, fun h => by simp at h⟩
    simp at hy
    subst hy
    have hi : i < n := by have := (List.getElem?_eq_some_iff.1 ht).1; omega
    simp [hi] at ht
    subst ht
    exact hq i hi

set_option maxRecDepth 20000 in
theorem open_dirty {H : Type} {enc : TypeId × Value → H} {W : World} {base : Nat} {spare : Nat → Bool} {held : Bool} {fuel : Nat} {v : Value} {x : DataW H × List MemPlace}
    (hf : DataW.trod enc Try.prog W base spare held fuel 28 [v] = some x) (hw : Wt x.1 28) : ∃ a c, ∃ l : List Di, v = .slice a l.length c ∧ SlD W a l ∧ l.length ≤ 140737488355328 ∧ (a = none → c = 0) := by
  rcases open_slice Try.underlying28 hf with ⟨hcs, _⟩ | ⟨ad, n, cap, m, nf, D, Pl, hcs, _, hl, hm, hmm, hxe, hx⟩
  · simp at hcs
    subst hcs
    exact ⟨none, 0, [], rfl, ⟨fun _ => rfl, fun y hy => by simp at hy⟩, by simp, fun _ => rfl⟩
  · simp at hcs
    subst hcs
    have hlm : n ≤ m := by rw [hmm]; split <;> omega
    have hsp : 0 < n → ad.spot = none := by
      intro h0
      obtain ⟨cs', hc, _⟩ := hx 0 (by omega)
      rw [Try.cells60] at hc
      obtain ⟨v0, v1, rfl, e0, _⟩ := cells_q2 hc
      have := World.cell?_spot e0
      simpa [Addr.add] using this
    have each : ∀ i, i < n → ∃ q : Int × Nat, ad.spot = none ∧ W.cell? ⟨ad.block, ad.off + i * 2, none⟩ = some (.int .i64 q.1) ∧ W.cell? ⟨ad.block, ad.off + i * 2 + 1, none⟩ = some (.int .u64 (q.2 : Nat)) := by
      intro i hi
      obtain ⟨cs', hc, ht⟩ := hx i (by omega)
      rw [Try.cells60] at hc
      obtain ⟨v0, v1, rfl, e0, e1⟩ := cells_q2 hc
      obtain ⟨y0, y1, nn, _, _, t0, t1⟩ := trod_struct2 Try.underlying60 ht
      obtain ⟨n0, q0, _, _⟩ := DataW.trod_int Try.underlying3 t0
      obtain ⟨n2, q2, _, w2⟩ := DataW.trod_int Try.underlying30 t1
      simp [Try.cells3, Try.cells30] at q0 q2
      subst q0 q2
      obtain ⟨ab, ao, asp⟩ := ad
      obtain rfl : asp = none := hsp (by omega)
      have eb : ∀ q j, (⟨ab, q, none⟩ : Addr).add j = ⟨ab, q + j, none⟩ := fun q j => by unfold Addr.add; split <;> simp_all
      rw [eb] at e0 e1
      rw [eb] at e1
      refine ⟨(n0, n2.toNat), rfl, e0, ?_⟩
      show _ = some (Value.int .u64 ((n2.toNat : Nat) : Int))
      rw [← u64_nat w2]
      exact e1
    obtain ⟨q, hq⟩ := choose_lt each
    have hln : ((List.range n).map fun i => (⟨(q i).1, (q i).2⟩ : Di)).length = n := by simp
    refine ⟨some ad, cap, (List.range n).map fun i => (⟨(q i).1, (q i).2⟩ : Di), by rw [hln], ⟨fun h => by simp at h, fun y hy i t ht => ?_⟩, by rw [hln]; have := wt_len (by rw [hxe] at hw; exact hw) Try.underlying28; rw [Try.bytes67] at this; omega, fun h => by simp at h⟩
    simp at hy
    subst hy
    have hi : i < n := by have := (List.getElem?_eq_some_iff.1 ht).1; omega
    simp [hi] at ht
    subst ht
    exact hq i hi

theorem txt_of (s : ByteArray) : txt s.data.toList = s := by
  cases s
  simp [txt]

set_option maxRecDepth 20000 in
theorem open_recL {H : Type} {enc : TypeId × Value → H} {W : World} {base : Nat} {spare : Nat → Bool} {held : Bool} {fuel : Nat} {l : List Value} {x : DataW H × List MemPlace} (hsz : l.length = 12)
    (hf : DataW.trod enc Try.prog W base spare held fuel 50 l = some x) (hw : Wt x.1 50) : ∃ r p, l = recL r p ∧ RI W r p ∧ Wd r := by
  obtain ⟨xs, n, _, hxe, _, hxl, hx⟩ := DataW.trod_struct Try.underlying50 hf
  match l, hsz with
  | [v0, v1, v2, v3, v4, v5, v6, v7, v8, v9, v10, v11], _ =>
    have hxs : xs.length = 9 := hxl
    have get : ∀ i, i < 9 → ∃ y, xs[i]? = some y := fun i hi => ⟨xs[i]'(by omega), List.getElem?_eq_getElem (by omega)⟩
    obtain ⟨y0, g0⟩ := get 0 (by omega)
    obtain ⟨y1, g1⟩ := get 1 (by omega)
    obtain ⟨y2, g2⟩ := get 2 (by omega)
    obtain ⟨y3, g3⟩ := get 3 (by omega)
    obtain ⟨y4, g4⟩ := get 4 (by omega)
    obtain ⟨y5, g5⟩ := get 5 (by omega)
    obtain ⟨y6, g6⟩ := get 6 (by omega)
    obtain ⟨y7, g7⟩ := get 7 (by omega)
    obtain ⟨y8, g8⟩ := get 8 (by omega)
    have t0 := (hx 0 _ rfl).trans g0
    have t1 := (hx 1 _ rfl).trans g1
    have t2 := (hx 2 _ rfl).trans g2
    have t3 := (hx 3 _ rfl).trans g3
    have t4 := (hx 4 _ rfl).trans g4
    have t5 := (hx 5 _ rfl).trans g5
    have t6 := (hx 6 _ rfl).trans g6
    have t7 := (hx 7 _ rfl).trans g7
    have t8 := (hx 8 _ rfl).trans g8
    obtain ⟨n0, q0, _, _⟩ := DataW.trod_int Try.underlying45 t0
    obtain ⟨n1, q1, _, u1⟩ := DataW.trod_int Try.underlying30 t1
    obtain ⟨n2, q2, _, _⟩ := DataW.trod_int Try.underlying3 t2
    obtain ⟨n3, q3, _, u3⟩ := DataW.trod_int Try.underlying30 t3
    obtain ⟨n4, q4, _, u4⟩ := DataW.trod_int Try.underlying30 t4
    obtain ⟨n5, q5, _, _⟩ := DataW.trod_int Try.underlying3 t5
    simp [Try.cells45, Try.cells30, Try.cells3] at q0 q1 q2 q3 q4 q5
    simp [Try.cells48, Try.cells26, Try.cells28] at t6 t7 t8
    subst q0 q1 q2 q3 q4 q5
    obtain ⟨zs, m, _, _, _, hzl, hz⟩ := DataW.trod_struct Try.underlying48 t6
    have hzs : zs.length = 4 := hzl
    have getz : ∀ i, i < 4 → ∃ y, zs[i]? = some y := fun i hi => ⟨zs[i]'(by omega), List.getElem?_eq_getElem (by omega)⟩
    obtain ⟨z0, k0⟩ := getz 0 (by omega)
    obtain ⟨z1, k1⟩ := getz 1 (by omega)
    obtain ⟨z2, k2⟩ := getz 2 (by omega)
    obtain ⟨z3, k3⟩ := getz 3 (by omega)
    obtain ⟨m0, p0, _, _⟩ := DataW.trod_int Try.underlying46 ((hz 0 _ rfl).trans k0)
    obtain ⟨s1, p1, _, _⟩ := DataW.trod_string Try.underlying9 ((hz 1 _ rfl).trans k1)
    obtain ⟨s2, p2, _, _⟩ := DataW.trod_string Try.underlying9 ((hz 2 _ rfl).trans k2)
    obtain ⟨s3, p3, _, _⟩ := DataW.trod_string Try.underlying9 ((hz 3 _ rfl).trans k3)
    simp [Try.cells46, Try.cells9] at p0 p1 p2 p3
    subst p0 p1 p2 p3
    obtain ⟨ta, tc, lt, rfl, hT, hTl, hTc⟩ := open_txns t7 (wt_field (by rw [hxe] at hw; exact hw) Try.underlying50 (i := 7) rfl (by simp [g7]))
    obtain ⟨da, dc, ld, rfl, hD, hDl, hDc⟩ := open_dirty t8 (wt_field (by rw [hxe] at hw; exact hw) Try.underlying50 (i := 8) rfl (by simp [g8]))
    refine ⟨⟨n0, n1.toNat, n2, n3.toNat, n4.toNat, n5, m0, s1.data.toList, s2.data.toList, s3.data.toList, lt, ld⟩, ⟨ta, tc, da, dc⟩, ?_, ⟨hT, hD, hTc, hDc⟩, hTl, hDl⟩
    show _ = [Value.int .i64 n0, .int .u64 ((n1.toNat : Nat) : Int), .int .i64 n2, .int .u64 ((n3.toNat : Nat) : Int), .int .u64 ((n4.toNat : Nat) : Int), .int .i64 n5, .int .i64 m0, .string (txt s1.data.toList), .string (txt s2.data.toList), .string (txt s3.data.toList), .slice ta lt.length tc, .slice da ld.length dc]
    rw [← u64_nat u1, ← u64_nat u3, ← u64_nat u4, txt_of, txt_of, txt_of]

theorem at12_of {W : World} {ab ao : Nat} {r : Rc} {p : Pl} {cs : List Value} (hq : cs = recL r p) (h : ∀ j, j < 12 → W.cell? ⟨ab, ao + j, none⟩ = cs[j]?) : At12 W ab ao r p := by
  subst hq
  exact ⟨h 0 (by omega), h 1 (by omega), h 2 (by omega), h 3 (by omega), h 4 (by omega), h 5 (by omega), h 6 (by omega), h 7 (by omega), h 8 (by omega), h 9 (by omega), h 10 (by omega), h 11 (by omega)⟩

set_option maxRecDepth 20000 in
theorem open_recs {H : Type} {enc : TypeId × Value → H} {W : World} {base : Nat} {spare : Nat → Bool} {held : Bool} {fuel : Nat} {v : Value} {x : DataW H × List MemPlace}
    (hf : DataW.trod enc Try.prog W base spare held fuel 22 [v] = some x) (hw : Wt x.1 22) : ∃ a c, ∃ l : List Rc, v = .slice a l.length c ∧ SlR W a l ∧ l.length ≤ 140737488355328 ∧ (a = none → c = 0) ∧ l.length ≤ c ∧ ∀ r, r ∈ l → Wd r := by
  rcases open_slice Try.underlying22 hf with ⟨hcs, _⟩ | ⟨ad, n, cap, m, nf, D, Ps, hcs, _, hl, hm, hmm, hxe, hx⟩
  · simp at hcs
    subst hcs
    exact ⟨none, 0, [], rfl, ⟨fun _ => rfl, fun y hy => by simp at hy⟩, by simp, fun _ => rfl, by simp, by simp⟩
  · simp at hcs
    subst hcs
    rw [hxe] at hw
    have hlm : n ≤ m := by rw [hmm]; split <;> omega
    have hspot : 0 < n → ad.spot = none := by
      intro h0
      obtain ⟨cs', hc, _⟩ := hx 0 (by omega)
      rw [Try.cells50] at hc
      obtain ⟨_, hlc, hcc⟩ := World.cells?_some hc
      have h1 := hcc 0 (by omega)
      rw [List.getElem?_eq_getElem (by omega)] at h1
      have := World.cell?_spot h1
      simpa [Addr.add] using this
    have each : ∀ i, i < n → ∃ q : Rc × Pl, ad.spot = none ∧ At12 W ad.block (ad.off + i * 12) q.1 q.2 ∧ RI W q.1 q.2 ∧ Wd q.1 := by
      intro i hi
      obtain ⟨cs', hc, ht⟩ := hx i (by omega)
      rw [Try.cells50] at hc
      obtain ⟨_, hlc, hcc⟩ := World.cells?_some hc
      obtain ⟨r, p, hq, h1, h2⟩ := open_recL hlc ht (wt_at hw Try.underlying22 hi)
      have hsp : ad.spot = none := hspot (by omega)
      refine ⟨(r, p), hsp, at12_of hq (fun j hj => ?_), h1, h2⟩
      obtain ⟨ab, ao, asp⟩ := ad
      simp only at hsp
      subst hsp
      have := hcc j hj
      rw [add_plain, add_plain] at this
      exact this
    haveI : Inhabited (Rc × Pl) := ⟨(⟨0, 0, 0, 0, 0, 0, 0, [], [], [], [], []⟩, ⟨none, 0, none, 0⟩)⟩
    obtain ⟨q, hq⟩ := choose_lt each
    have hln : ((List.range n).map fun i => (q i).1).length = n := by simp
    refine ⟨some ad, cap, (List.range n).map fun i => (q i).1, by rw [hln], ⟨fun h => by simp at h, fun y hy i t ht => ?_⟩, by rw [hln]; have := wt_len hw Try.underlying22; rw [Try.bytes46] at this; omega, fun h => by simp at h, by rw [hln]; exact hl, fun r hr => ?_⟩
    · simp at hy
      subst hy
      have hi : i < n := by have := (List.getElem?_eq_some_iff.1 ht).1; omega
      simp [hi] at ht
      subst ht
      exact ⟨(hq i hi).1, _, (hq i hi).2.1, (hq i hi).2.2.1⟩
    · simp at hr
      obtain ⟨i, hi, rfl⟩ := hr
      exact (hq i hi).2.2.2

end Go.Proofs.Yticnkppnpfgceaa.Mg
