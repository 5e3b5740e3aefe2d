/-
  Steps and their messages that came in, opened.
-/
import Derived.Test.YtfdpmffoajjchaaAr
import Derived.Test.YtfdpmffoajjchaaMg
import Derived.ShutString
import Derived.Deep.Strs
namespace Go.Proofs.Ytfdpmffoajjchaa
open Go.ChangeShapes Go.WideShapes Go.ChangeAt Go.RowKit Go.Deep

theorem Try.cells3 : Try.prog.cellsOf 3 = 1 := by kernel_rfl
theorem Try.cells4 : Try.prog.cellsOf 4 = 1 := by kernel_rfl
theorem Try.cells9 : Try.prog.cellsOf 9 = 1 := by kernel_rfl
theorem Try.cells27 : Try.prog.cellsOf 27 = 1 := by kernel_rfl
theorem Try.cells28 : Try.prog.cellsOf 28 = 1 := by kernel_rfl
theorem Try.cells29 : Try.prog.cellsOf 29 = 1 := by kernel_rfl
theorem Try.cells31 : Try.prog.cellsOf 31 = 9 := by kernel_rfl
theorem Try.cells50 : Try.prog.cellsOf 50 = 13 := by kernel_rfl
theorem Try.cells69 : Try.prog.cellsOf 69 = 1 := by kernel_rfl
theorem Try.cells71 : Try.prog.cellsOf 71 = 2 := by kernel_rfl
theorem Try.bytes3 : Try.prog.bytesOf 3 = 8 := by kernel_rfl
theorem Try.bytes71 : Try.prog.bytesOf 71 = 24 := by kernel_rfl
theorem Try.bytes50 : Try.prog.bytesOf 50 = 144 := by kernel_rfl

/-- What came in lies within reach. -/
def Wt {H : Type} (d : DataW H) (t : TypeId) : Prop := ∀ n, n ∈ d.weights Try.prog t → n ≤ reachBytes

theorem wt_len {H : Type} {t e : TypeId} {n : Nat} {D : Nat → DataW H} {sp : List (DataW H)} {pl : List MemPlace} (h : Wt ((DataW.slice ((List.range n).map D) sp, pl) : DataW H × List MemPlace).1 t) (hu : Try.prog.underlying t = some (.slice e)) : n * Try.prog.bytesOf e ≤ 140737488355328 := by
  have := h ((((List.range n).map D).length + sp.length) * Try.prog.bytesOf e) (by simp [DataW.weights, hu])
  have hr := reachBytes_lt
  simp only [List.length_map, List.length_range, Nat.add_mul] at this
  omega
theorem mem_all {H : Type} {P : Program} {e : TypeId} {d : DataW H} : ∀ {l : List (DataW H)}, d ∈ l → ∀ n, n ∈ d.weights P e → n ∈ DataW.weightsAll P e l
  | x :: r, hd, n, hn => by
    simp only [DataW.weightsAll, List.mem_append]
    rcases List.mem_cons.1 hd with rfl | hd
    · exact .inl hn
    · exact .inr (mem_all hd n hn)
theorem wt_at {H : Type} {t e : TypeId} {n : Nat} {D : Nat → DataW H} {sp : List (DataW H)} {pl : List MemPlace} (h : Wt ((DataW.slice ((List.range n).map D) sp, pl) : DataW H × List MemPlace).1 t) (hu : Try.prog.underlying t = some (.slice e)) {i : Nat} (hi : i < n) : Wt (D i) e := fun k hk => by
  refine h k ?_
  simp only [DataW.weights, hu, List.mem_cons, List.mem_append]
  exact .inr (.inl (mem_all (List.mem_map.2 ⟨i, List.mem_range.2 hi, rfl⟩) k hk))
theorem wt_field {H : Type} {t : TypeId} {fs : Array Field} {parts : List (DataW H)} {pl : List MemPlace} (h : Wt ((DataW.agg parts, pl) : DataW H × List MemPlace).1 t) (hu : Try.prog.underlying t = some (.struct fs)) {i : Nat} {f : Field} {d : DataW H} (hf : fs[i]? = some f) (hd : parts[i]? = some d) : Wt d f.type := fun k hk => by
  refine h k ?_
  simp only [DataW.weights, hu]
  exact DataW.weights_mem_each (j := i) (t := f.type) (by simp [hf]) hd k hk

theorem cells_q2 {w : World} {base : Nat} {a : Addr} {cs : List Value} (h : w.cells? base a 2 = some cs) : ∃ v0 v1, cs = [v0, v1] ∧ w.cell? a = some v0 ∧ w.cell? (a.add 1) = some v1 := by
  obtain ⟨hb, hl, hc⟩ := World.cells?_some h
  match cs, hl with
  | [v0, v1], _ =>
    have h0 := hc 0 (by simp)
    have h1 := hc 1 (by simp)
    exact ⟨v0, v1, rfl, by simpa [Addr.add] using h0, by simpa using h1⟩

theorem u64_nat {n : Int} (w : (Lit.int .u64 n).wf = true) : n = ((n.toNat : Nat) : Int) := by
  simp [Lit.wf, IntKind.min, IntKind.max, IntKind.signed, IntKind.bits] at w
  omega

theorem txt_of (s : ByteArray) : txt s.data.toList = s := by
  cases s
  simp [txt]


theorem rd_flat {W : World} {α : Type} (f : α → List Value) (n : Nat) (hn : 0 < n) (hf : ∀ a, (f a).length = n) (l : List α) (ad : Addr)
    (h : ∀ i t, l[i]? = some t → ad.spot = none ∧ ∀ k u, (f t)[k]? = some u → W.cell? ⟨ad.block, ad.off + i * n + k, none⟩ = some u) : Rd W (some ad) (l.flatMap f) := by
  refine ⟨fun e => by simp at e, fun x hx j u hj => ?_⟩
  simp at hx
  subst hx
  have hm : j % n < n := Nat.mod_lt _ hn
  have e : j = j / n * n + j % n := by rw [Nat.mul_comm]; exact (Nat.div_add_mod j n).symm
  rw [e, flat_get f n hf l _ _ hm] at hj
  cases hl : l[j / n]? with
  | none => simp [hl] at hj
  | some t =>
    simp only [hl, Option.bind_some] at hj
    obtain ⟨h0, h1⟩ := h _ t hl
    refine ⟨h0, ?_⟩
    have := h1 _ u hj
    rw [Nat.add_assoc, ← e] at this
    exact this

set_option maxRecDepth 20000 in
theorem open_wants {H : Type} {enc : TypeId × Value → H} {W : World} {base : Nat} {spare : Nat → Bool} {held : Bool} {fuel : Nat} {v : Value} {x : DataW H × List MemPlace}
    (hf : DataW.trod enc Try.prog W base spare held fuel 28 [v] = some x) (hw : Wt x.1 28) : ∃ a c, ∃ l : List (List UInt8 × Int), v = .slice a l.length c ∧ Rd W a (wsC l) ∧ l.length ≤ 140737488355328 ∧ (a = none → l.length = 0 ∧ c = 0) := by
  rcases open_slice Try.underlying28 hf with ⟨hcs, _⟩ | ⟨ad, n, cap, m, nf, D, Pl, hcs, _, hl, hm, hmm, hxe, hx⟩
  · simp at hcs
    subst hcs
    exact ⟨none, 0, [], rfl, Rd.nil _ _, by simp, fun _ => ⟨rfl, rfl⟩⟩
  · simp at hcs
    subst hcs
    have hlm : n ≤ m := by rw [hmm]; split <;> omega
    have hsp : 0 < n → ad.spot = none := by
      intro h0
      obtain ⟨cs', hc, _⟩ := hx 0 (by omega)
      rw [Try.cells71] at hc
      obtain ⟨v0, v1, rfl, e0, _⟩ := cells_q2 hc
      have := World.cell?_spot e0
      simpa [Addr.add] using this
    have each : ∀ i, i < n → ∃ q : List UInt8 × Int, ad.spot = none ∧ W.cell? ⟨ad.block, ad.off + i * 2, none⟩ = some (.string (txt q.1)) ∧ W.cell? ⟨ad.block, ad.off + i * 2 + 1, none⟩ = some (.int .i64 q.2) := by
      intro i hi
      obtain ⟨cs', hc, ht⟩ := hx i (by omega)
      rw [Try.cells71] at hc
      obtain ⟨v0, v1, rfl, e0, e1⟩ := cells_q2 hc
      obtain ⟨y0, y1, nn, _, _, t0, t1⟩ := trod_struct2 Try.underlying71 ht
      obtain ⟨n0, q0, _, _⟩ := DataW.trod_string Try.underlying9 t0
      obtain ⟨n2, q2, _, _⟩ := DataW.trod_int Try.underlying69 t1
      simp [Try.cells9, Try.cells69] at q0 q2
      subst q0 q2
      obtain ⟨ab, ao, asp⟩ := ad
      obtain rfl : asp = none := hsp (by omega)
      rw [add_plain] at e0 e1
      rw [add_plain] at e1
      refine ⟨(n0.data.toList, n2), rfl, ?_, e1⟩
      rw [txt_of]
      exact e0
    obtain ⟨q, hq⟩ := choose_lt each
    have hln : ((List.range n).map q).length = n := by simp
    refine ⟨some ad, cap, (List.range n).map q, by rw [hln], rd_flat waC 2 (by omega) (fun _ => rfl) _ ad (fun i t ht => ?_), by rw [hln]; have := wt_len (by rw [hxe] at hw; exact hw) Try.underlying28; rw [Try.bytes71] at this; omega, fun h => by simp at h⟩
    have hi : i < n := by have := (List.getElem?_eq_some_iff.1 ht).1; omega
    simp [hi] at ht
    subst ht
    obtain ⟨g0, g1, g2⟩ := hq i hi
    refine ⟨g0, fun k u hk => ?_⟩
    rcases k with _ | _ | k
    · simp [waC] at hk; subst hk; exact g1
    · simp [waC] at hk; subst hk; exact g2
    · simp [waC] at hk

set_option maxRecDepth 20000 in
theorem open_ints {H : Type} {enc : TypeId × Value → H} {W : World} {base : Nat} {spare : Nat → Bool} {held : Bool} {fuel : Nat} {v : Value} {x : DataW H × List MemPlace}
    (hf : DataW.trod enc Try.prog W base spare held fuel 29 [v] = some x) (hw : Wt x.1 29) : ∃ a c, ∃ l : List Int, v = .slice a l.length c ∧ Rd W a (psC l) ∧ l.length ≤ 140737488355328 ∧ (a = none → l.length = 0 ∧ c = 0) := by
  rcases open_slice Try.underlying29 hf with ⟨hcs, _⟩ | ⟨ad, n, cap, m, nf, D, Pl, hcs, _, hl, hm, hmm, hxe, hx⟩
  · simp at hcs
    subst hcs
    exact ⟨none, 0, [], rfl, Rd.nil _ _, by simp, fun _ => ⟨rfl, rfl⟩⟩
  · simp at hcs
    subst hcs
    have hlm : n ≤ m := by rw [hmm]; split <;> omega
    have hspi : 0 < n → ad.spot = none := by
      intro hn
      obtain ⟨cs', hc, _⟩ := hx 0 (by omega)
      rw [Try.cells3] at hc
      obtain ⟨_, hlc, hcc⟩ := World.cells?_some hc
      have h1 := hcc 0 (by omega)
      rw [List.getElem?_eq_getElem (by omega)] at h1
      have := World.cell?_spot h1
      simpa [Addr.add] using this
    have each : ∀ i, i < n → ∃ q : Int, ad.spot = none ∧ W.cell? ⟨ad.block, ad.off + i, none⟩ = some (.int .i64 q) := by
      intro i hi
      obtain ⟨cs', hc, ht⟩ := hx i (by omega)
      rw [Try.cells3] at hc
      obtain ⟨_, hlc, hcc⟩ := World.cells?_some hc
      obtain ⟨n0, q0, _, _⟩ := DataW.trod_int Try.underlying3 ht
      subst q0
      have h0 := hcc 0 (by omega)
      simp at h0
      obtain ⟨ab, ao, asp⟩ := ad
      obtain rfl : asp = none := hspi (by omega)
      rw [add_plain] at h0
      refine ⟨n0, rfl, ?_⟩
      simpa [Addr.add] using h0
    obtain ⟨q, hq⟩ := choose_lt each
    have hln : ((List.range n).map q).length = n := by simp
    refine ⟨some ad, cap, (List.range n).map q, by rw [hln], ⟨fun h => by simp at h, fun y hy i u hu => ?_⟩, by rw [hln]; have := wt_len (by rw [hxe] at hw; exact hw) Try.underlying29; rw [Try.bytes3] at this; omega, fun h => by simp at h⟩
    simp at hy
    subst hy
    have hi : i < n := by have := (List.getElem?_eq_some_iff.1 hu).1; simp [psC] at this; omega
    simp [psC, hi] at hu
    subst hu
    exact hq i hi

structure Op1 where
  kind : Int
  frm : Int
  tow : Int
  n : Int
  m : Ms

def opL (x : Op1) (p : Pl) : List Value := [.int .i64 x.kind, .int .i64 x.frm, .int .i64 x.tow, .int .i64 x.n] ++ (msC x.m p).toList

/-- The thirteen cells of a step. -/
def At13 (w : World) (b o : Nat) (x : Op1) (p : Pl) : Prop := ∀ j u, (opL x p)[j]? = some u → w.cell? ⟨b, o + j, none⟩ = some u

/-- A slice of steps. -/
structure SlO (w : World) (a : Option Addr) (l : List Op1) : Prop where
  nonil : a = none → l = []
  place : ∀ x, a = some x → ∀ i r, l[i]? = some r → x.spot = none ∧ ∃ p, At13 w x.block (x.off + i * 13) r p ∧ MI w r.m p
theorem SlO.get {w : World} {a : Option Addr} {l : List Op1} (h : SlO w a l) (i : Nat) (hi : i < l.length) : ∃ b o p, a = some ⟨b, o, none⟩ ∧ b < w.heap.size ∧ At13 w b (o + i * 13) l[i] p ∧ MI w l[i].m p := by
  cases a with
  | none => have := h.nonil rfl; subst this; simp at hi
  | some x =>
    obtain ⟨b, o, sp⟩ := x
    obtain ⟨h0, p, h1, h2⟩ := h.place _ rfl i _ (List.getElem?_eq_getElem hi)
    simp only at h0
    subst h0
    exact ⟨b, o, p, rfl, World.block_lt_of_cell? _ _ (h1 0 _ rfl), h1, h2⟩
theorem SlO.below {w w' : World} {a : Option Addr} {l : List Op1} (h : SlO w a l) (hb : Below w.heap.size w w') : SlO w' a l :=
  ⟨h.nonil, fun x hx i r hr => by
    obtain ⟨h0, p, h1, h2⟩ := h.place x hx i r hr
    refine ⟨h0, p, fun j u hj => ?_, h2.below hb⟩
    have hc := h1 j u hj
    have hlt := World.block_lt_of_cell? _ _ hc
    rw [hb.cell (by exact hlt)]
    exact hc⟩

set_option maxRecDepth 20000 in
theorem open_msg {H : Type} {enc : TypeId × Value → H} {W : World} {base : Nat} {spare : Nat → Bool} {held : Bool} {fuel : Nat} {l : List Value} {x : DataW H × List MemPlace} (hsz : l.length = 9)
    (hf : DataW.trod enc Try.prog W base spare held fuel 31 l = some x) (hw : Wt x.1 31) : ∃ m p, l = (msC m p).toList ∧ MI W m p ∧ m.wants.length ≤ 140737488355328 ∧ m.pages.length ≤ 140737488355328 := by
  obtain ⟨xs, n, _, hxe, _, hxl, hx⟩ := DataW.trod_struct Try.underlying31 hf
  match l, hsz with
  | [v0, v1, v2, v3, v4, v5, v6, v7, v8], _ =>
    have hxs : xs.length = 9 := hxl
    have get : ∀ i, i < 9 → ∃ y, xs[i]? = some y := fun i hi => ⟨xs[i]'(by omega), List.getElem?_eq_getElem (by omega)⟩
    obtain ⟨y0, g0⟩ := get 0 (by omega)
    obtain ⟨y1, g1⟩ := get 1 (by omega)
    obtain ⟨y2, g2⟩ := get 2 (by omega)
    obtain ⟨y3, g3⟩ := get 3 (by omega)
    obtain ⟨y4, g4⟩ := get 4 (by omega)
    obtain ⟨y5, g5⟩ := get 5 (by omega)
    obtain ⟨y6, g6⟩ := get 6 (by omega)
    obtain ⟨y7, g7⟩ := get 7 (by omega)
    obtain ⟨y8, g8⟩ := get 8 (by omega)
    have t6 := (hx 6 _ rfl).trans g6
    have t7 := (hx 7 _ rfl).trans g7
    obtain ⟨n0, q0, _, _⟩ := DataW.trod_int Try.underlying3 ((hx 0 _ rfl).trans g0)
    obtain ⟨n1, q1, _, _⟩ := DataW.trod_int Try.underlying3 ((hx 1 _ rfl).trans g1)
    obtain ⟨n2, q2, _, _⟩ := DataW.trod_int Try.underlying3 ((hx 2 _ rfl).trans g2)
    obtain ⟨n3, q3, _, _⟩ := DataW.trod_int Try.underlying3 ((hx 3 _ rfl).trans g3)
    obtain ⟨b4, q4, _⟩ := DataW.trod_bool Try.underlying4 ((hx 4 _ rfl).trans g4)
    obtain ⟨n5, q5, _, u5⟩ := DataW.trod_int Try.underlying27 ((hx 5 _ rfl).trans g5)
    obtain ⟨s8, q8, _, _⟩ := DataW.trod_string Try.underlying9 ((hx 8 _ rfl).trans g8)
    simp [Try.cells3, Try.cells4, Try.cells27, Try.cells9] at q0 q1 q2 q3 q4 q5 q8
    simp [Try.cells28, Try.cells29] at t6 t7
    subst q0 q1 q2 q3 q4 q5 q8
    obtain ⟨wa, wc, lw, rfl, hW, hWl, hWc⟩ := open_wants t6 (wt_field (by rw [hxe] at hw; exact hw) Try.underlying31 (i := 6) rfl (by simp [g6]))
    obtain ⟨pa, pc, lp, rfl, hP, hPl, hPc⟩ := open_ints t7 (wt_field (by rw [hxe] at hw; exact hw) Try.underlying31 (i := 7) rfl (by simp [g7]))
    refine ⟨⟨n0, n1, n2, n3, b4, n5.toNat, lw, lp, s8.data.toList⟩, ⟨wa, wc, pa, pc⟩, ?_, ⟨hW, hP, hWc, hPc⟩, hWl, hPl⟩
    show _ = [Value.int .i64 n0, .int .i64 n1, .int .i64 n2, .int .i64 n3, .bool b4, .int .u64 ((n5.toNat : Nat) : Int), .slice wa lw.length wc, .slice pa lp.length pc, .string (txt s8.data.toList)]
    rw [← u64_nat u5, txt_of]

set_option maxRecDepth 20000 in
theorem open_op {H : Type} {enc : TypeId × Value → H} {W : World} {base : Nat} {spare : Nat → Bool} {held : Bool} {fuel : Nat} {l : List Value} {x : DataW H × List MemPlace} (hsz : l.length = 13)
    (hf : DataW.trod enc Try.prog W base spare held fuel 50 l = some x) (hw : Wt x.1 50) : ∃ r p, l = opL r p ∧ MI W r.m p ∧ r.m.wants.length ≤ 140737488355328 ∧ r.m.pages.length ≤ 140737488355328 := by
  obtain ⟨xs, n, _, hxe, _, hxl, hx⟩ := DataW.trod_struct Try.underlying50 hf
  match l, hsz with
  | [v0, v1, v2, v3, v4, v5, v6, v7, v8, v9, v10, v11, v12], _ =>
    have hxs : xs.length = 5 := hxl
    have get : ∀ i, i < 5 → ∃ y, xs[i]? = some y := fun i hi => ⟨xs[i]'(by omega), List.getElem?_eq_getElem (by omega)⟩
    obtain ⟨y0, g0⟩ := get 0 (by omega)
    obtain ⟨y1, g1⟩ := get 1 (by omega)
    obtain ⟨y2, g2⟩ := get 2 (by omega)
    obtain ⟨y3, g3⟩ := get 3 (by omega)
    obtain ⟨y4, g4⟩ := get 4 (by omega)
    have t4 := (hx 4 _ rfl).trans g4
    obtain ⟨n0, q0, _, _⟩ := DataW.trod_int Try.underlying3 ((hx 0 _ rfl).trans g0)
    obtain ⟨n1, q1, _, _⟩ := DataW.trod_int Try.underlying3 ((hx 1 _ rfl).trans g1)
    obtain ⟨n2, q2, _, _⟩ := DataW.trod_int Try.underlying3 ((hx 2 _ rfl).trans g2)
    obtain ⟨n3, q3, _, _⟩ := DataW.trod_int Try.underlying3 ((hx 3 _ rfl).trans g3)
    simp [Try.cells3] at q0 q1 q2 q3
    simp [Try.cells31] at t4
    subst q0 q1 q2 q3
    obtain ⟨m, p, hq, hM, h1, h2⟩ := open_msg rfl t4 (wt_field (by rw [hxe] at hw; exact hw) Try.underlying50 (i := 4) rfl (by simp [g4]))
    refine ⟨⟨n0, n1, n2, n3, m⟩, p, ?_, hM, h1, h2⟩
    show [Value.int .i64 n0, .int .i64 n1, .int .i64 n2, .int .i64 n3] ++ [v4, v5, v6, v7, v8, v9, v10, v11, v12] = _
    rw [hq]
    rfl

set_option maxRecDepth 20000 in
theorem open_ops {H : Type} {enc : TypeId × Value → H} {W : World} {base : Nat} {spare : Nat → Bool} {held : Bool} {fuel : Nat} {v : Value} {x : DataW H × List MemPlace}
    (hf : DataW.trod enc Try.prog W base spare held fuel 47 [v] = some x) (hw : Wt x.1 47) : ∃ a c, ∃ l : List Op1, v = .slice a l.length c ∧ SlO W a l ∧ l.length ≤ 140737488355328 ∧ (a = none → c = 0) ∧ l.length ≤ c ∧ ∀ r, r ∈ l → r.m.wants.length ≤ 140737488355328 ∧ r.m.pages.length ≤ 140737488355328 := by
  rcases open_slice Try.underlying47 hf with ⟨hcs, _⟩ | ⟨ad, n, cap, m, nf, D, Ps, hcs, _, hl, hm, hmm, hxe, hx⟩
  · simp at hcs
    subst hcs
    exact ⟨none, 0, [], rfl, ⟨fun _ => rfl, fun y hy => by simp at hy⟩, by simp, fun _ => rfl, by simp, by simp⟩
  · simp at hcs
    subst hcs
    rw [hxe] at hw
    have hlm : n ≤ m := by rw [hmm]; split <;> omega
    have hspot : 0 < n → ad.spot = none := by
      intro h0
      obtain ⟨cs', hc, _⟩ := hx 0 (by omega)
      rw [Try.cells50] at hc
      obtain ⟨_, hlc, hcc⟩ := World.cells?_some hc
      have h1 := hcc 0 (by omega)
      rw [List.getElem?_eq_getElem (by omega)] at h1
      have := World.cell?_spot h1
      simpa [Addr.add] using this
    have each : ∀ i, i < n → ∃ q : Op1 × Pl, ad.spot = none ∧ At13 W ad.block (ad.off + i * 13) q.1 q.2 ∧ MI W q.1.m q.2 ∧ q.1.m.wants.length ≤ 140737488355328 ∧ q.1.m.pages.length ≤ 140737488355328 := by
      intro i hi
      obtain ⟨cs', hc, ht⟩ := hx i (by omega)
      rw [Try.cells50] at hc
      obtain ⟨_, hlc, hcc⟩ := World.cells?_some hc
      obtain ⟨r, p, hq, h1, h2⟩ := open_op hlc ht (wt_at hw Try.underlying47 hi)
      have hsp : ad.spot = none := hspot (by omega)
      refine ⟨(r, p), hsp, fun j u hj => ?_, h1, h2⟩
      have hj13 : j < 13 := by have := (List.getElem?_eq_some_iff.1 hj).1; simpa [opL] using this
      obtain ⟨ab, ao, asp⟩ := ad
      simp only at hsp
      subst hsp
      have := hcc j hj13
      rw [add_plain, add_plain, hq] at this
      rw [this]
      exact hj
    haveI : Inhabited (Op1 × Pl) := ⟨(⟨0, 0, 0, 0, ⟨0, 0, 0, 0, false, 0, [], [], []⟩⟩, ⟨none, 0, none, 0⟩)⟩
    obtain ⟨q, hq⟩ := choose_lt each
    have hln : ((List.range n).map fun i => (q i).1).length = n := by simp
    refine ⟨some ad, cap, (List.range n).map fun i => (q i).1, by rw [hln], ⟨fun h => by simp at h, fun y hy i t ht => ?_⟩, by rw [hln]; have := wt_len hw Try.underlying47; rw [Try.bytes50] at this; omega, fun h => by simp at h, by rw [hln]; exact hl, fun r hr => ?_⟩
    · simp at hy
      subst hy
      have hi : i < n := by have := (List.getElem?_eq_some_iff.1 ht).1; omega
      simp [hi] at ht
      subst ht
      exact ⟨(hq i hi).1, _, (hq i hi).2.1, (hq i hi).2.2.1⟩
    · simp at hr
      obtain ⟨i, hi, rfl⟩ := hr
      exact (hq i hi).2.2.2

end Go.Proofs.Ytfdpmffoajjchaa
