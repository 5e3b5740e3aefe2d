/-
  A pair of a pool over a store and the document's: opened.
-/
import Derived.Test.YtcloinonhpaojaaQo
import Derived.Deep.WholeRow
namespace Go.Proofs.Ytcloinonhpaojaa
open Go.RowKit

theorem wpList_buildW {P : Program} {ops : Array Oper} {rest : List Oper} {op : Oper} {a : Act} {w : World} {Q : Exit → Act → World → Prop} (hgd : op.guard = none) (ty : TypeId) (parts : Array (Nat × Operand)) (ho : op.op = .build ty parts) (vals : List (Nat × Value))
    (hv : (parts.map fun x => (x.1, a.eval x.2)).toList = vals) (C : Array Value) (hb : P.built ty vals = some C)
    (h : wpList P ops Q rest (a.put op.dst (.agg C)) w) : wpList P ops Q (op :: rest) a w :=
  wpList_plain hgd fun _ hK => by
    unfold Oper.wp execOp
    have hr := run_build (P := P) w ty (parts.map fun x => (x.1, a.eval x.2)) C (by rw [hv]; exact hb)
    simp only [ho, hr, Sem.run_bind, Sem.run_pure, Result.andThen_ok]
    exact hK _ _ h

/-- Cells that are laid over others. -/
def lay (cs : Array Value) (off : Nat) (xs : Array Value) : Array Value := xs.zipIdx.foldl (fun cs (c, j) => cs.setIfInBounds (off + j) c) cs
theorem lay_list (off : Nat) : ∀ (l : List Value) (n : Nat) (cs : Array Value), ((l.zipIdx n).foldl (fun cs (x : Value × Nat) => cs.setIfInBounds (off + x.2) x.1) cs).size = cs.size ∧ ∀ k, k < off → ((l.zipIdx n).foldl (fun cs (x : Value × Nat) => cs.setIfInBounds (off + x.2) x.1) cs)[k]? = cs[k]?
  | [], _, _ => by simp
  | x :: l, n, cs => by
    simp only [List.zipIdx_cons, List.foldl_cons]
    obtain ⟨h1, h2⟩ := lay_list off l (n + 1) (cs.setIfInBounds (off + n) x)
    refine ⟨by rw [h1]; simp, fun k hk => ?_⟩
    rw [h2 k hk, Array.getElem?_setIfInBounds, if_neg (by omega)]
theorem lay_eq (cs : Array Value) (off : Nat) (xs : Array Value) : lay cs off xs = (xs.toList.zipIdx 0).foldl (fun cs (x : Value × Nat) => cs.setIfInBounds (off + x.2) x.1) cs := by
  unfold lay
  rw [← Array.foldl_toList, Array.toList_zipIdx]
theorem lay_size (cs : Array Value) (off : Nat) (xs : Array Value) : (lay cs off xs).size = cs.size := by rw [lay_eq]; exact (lay_list off _ _ _).1
theorem lay_low (cs : Array Value) (off : Nat) (xs : Array Value) (k : Nat) (hk : k < off) : (lay cs off xs)[k]? = cs[k]? := by rw [lay_eq]; exact (lay_list off _ _ _).2 k hk
theorem fill_lay {place : Nat → Option (Nat × Nat)} {cs : Array Value} {i : Nat} {v : Value} {rest : List (Nat × Value)} {off size : Nat} (hp : place i = some (off, size)) (hs : v.cells.size = size) (hb : off + size ≤ cs.size) :
    Instr.fill place cs ((i, v) :: rest) = Instr.fill place (lay cs off v.cells) rest := by
  rw [Instr.fill, hp]
  simp only [hs]
  rw [if_neg (by simp; omega)]
  rfl

theorem built48 (parts : List (Nat × Value)) : Try.prog.built 48 parts = Instr.fill (fun i => #[(0, 1), (1, 1), (2, 66), (68, 65)][i]?) Try.zeroCells48 parts := by kernel_rfl
theorem z48_size : Try.zeroCells48.size = 133 := by kernel_rfl
theorem pair_built (p d : Value) (X Y : Array Value) (hp : p.cells = #[p]) (hd : d.cells = #[d]) (hX : X.size = 66) (hY : Y.size = 65) : ∃ C, Try.prog.built 48 [(0, p), (1, d), (2, .agg X), (3, .agg Y)] = some C ∧ C.size = 133 ∧ C[0]? = some p ∧ C[1]? = some d := by
  rw [built48]
  have hz := z48_size
  generalize Try.zeroCells48 = Z at hz
  rw [fill_lay (off := 0) (size := 1) rfl (by rw [hp]; rfl) (by omega), fill_lay (off := 1) (size := 1) rfl (by rw [hd]; rfl) (by rw [lay_size]; omega), fill_lay (off := 2) (size := 66) rfl (by simpa [Value.cells] using hX) (by rw [lay_size, lay_size]; omega), fill_lay (off := 68) (size := 65) rfl (by simpa [Value.cells] using hY) (by rw [lay_size, lay_size, lay_size]; omega)]
  refine ⟨_, rfl, by rw [lay_size, lay_size, lay_size, lay_size]; exact hz, ?_, ?_⟩
  · rw [lay_low _ _ _ _ (by omega), lay_low _ _ _ _ (by omega), lay_low _ _ _ _ (by omega), hp]
    simp [lay, hz]
  · rw [lay_low _ _ _ _ (by omega), lay_low _ _ _ _ (by omega), hd]
    have hs := lay_size Z 0 p.cells
    generalize lay Z 0 p.cells = Z1 at hs
    have : 1 < Z1.size := by omega
    simp [lay, this]

/-- A pair in memory. -/
def PrIn (w : World) (z p d : Nat) : Prop := ∃ C, w.heap[z]? = some (.cells C 48) ∧ C[0]? = some (.pointer (some ⟨p, 0, none⟩)) ∧ C[1]? = some (.pointer (some ⟨d, 0, none⟩))
theorem PrIn.cells {w : World} {z p d : Nat} (h : PrIn w z p d) : w.cell? ⟨z, 0, none⟩ = some (.pointer (some ⟨p, 0, none⟩)) ∧ w.cell? ⟨z, 1, none⟩ = some (.pointer (some ⟨d, 0, none⟩)) ∧ z < w.heap.size := by
  obtain ⟨C, h1, h2, h3⟩ := h
  exact ⟨by simp [World.cell?, h1, h2], by simp [World.cell?, h1, h3], blk_lt h1⟩
theorem PrIn.stp {B : Nat} {w w' : World} {z p d : Nat} (h : PrIn w z p d) (hs : Stp B w w') : PrIn w' z p d := by
  obtain ⟨C, h1, h2, h3⟩ := h
  exact ⟨C, hs.keep _ _ _ h1 (by decide), h2, h3⟩

/-- A new pool. -/
def po0 (m : Nat) (a : Option Addr) (c : Nat) : Po := ⟨⟨List.replicate m ⟨-1, false, 0⟩, 0⟩, a, c, fun _ => none, fun _ => false, fun _ => 0⟩
def pg0 : Nat → Pg := fun _ => ⟨0, 0, .bool true, []⟩
def Opened (w w' : World) (m : Nat) (e : Ending) : Prop := ∃ z p d a c, e = .returned (.tuple #[.pointer (some ⟨z, 0, none⟩), .bool true]) ∧ PrIn w' z p d ∧ Mem w' w.heap.size p d (po0 m a c) dk0 pg0 ∧ Below w.heap.size w w'

theorem info46 : (Try.prog.info? 46).map (·.size) = some 65 := by kernel_rfl
theorem z46_size : Try.zeroCells46.size = 65 := by kernel_rfl
theorem z46_one : Try.zeroCells46.all (·.oneCell') = true := by kernel_rfl

set_option maxRecDepth 20000 in
set_option maxHeartbeats 2000000 in
theorem opened_no (n : Int) (w : World) (hn : ¬ (1 ≤ n ∧ n ≤ 16)) : Calls Try.prog 7 #[.int .i64 n] w fun e w' => e = .returned (.tuple #[.pointer none, .bool true]) ∧ Below w.heap.size w w' := by
  have HN := toHid (newp_no n (.pointer (some ⟨w.heap.size, 0, none⟩)) (w.alloc (.cells dkC 59)) hn)
  have HR := toHid (fun W => ref_no n W hn)
  have HB := toHid ((Below.refl w.heap.size w).alloc (Nat.le_refl _) (.cells dkC 59))
  go_enter Try.func7, Try.ntmps7
  go_wp2_with fail
  refine Calls.mono HN.out ?_
  rintro e w1 ⟨rfl, hb1⟩
  have HB1 := toHid (HB.out.trans (hb1.mono HB.out.size))
  clear HN HB hb1
  go_wp2_with fail
  refine Calls.mono (HR.out _) ?_
  rintro e w2 ⟨X, hX, rfl, hb2⟩
  have HB2 := toHid (HB1.out.trans (hb2.mono HB1.out.size))
  have HX := toHid hX
  clear HR HB1 hb2 hX
  go_wp2_with (refine wpList_storeW rfl 43 _ _ rfl w2.heap.size rfl X rfl Try.zeroCells43 43 (heap_alloc_new _ _) (by rw [HX.out.size]; exact info43) (by rw [HX.out.size, z43.size]) HX.out.one rfl ?_)
  exact bodyPost_ret (v := .tuple #[.pointer none, .bool true]) (by simp [results, Try.results7, go_sem]) rfl ⟨rfl, below_setRow (HB2.out.alloc HB2.out.size _) HB2.out.size⟩

/-- What the loop of opened holds. -/
structure OpL (w wr : World) (m g9 g7 p : Nat) (a : Option Addr) (c : Nat) (X Y : Array Value) : Prop where
  y : Y.size = 65
  b9 : wr.heap[g9]? = some (.cells Y 46)
  b7 : wr.heap[g7]? = some (.cells X 43)
  mem : Mem wr w.heap.size p w.heap.size (po0 m a c) dk0 pg0
  below : Below w.heap.size w wr
  ge : w.heap.size ≤ g9
  rn : ∀ x, a = some x → x.block ≠ g9
theorem OpL.set {w wr : World} {m g9 g7 p : Nat} {a : Option Addr} {c : Nat} {X Y : Array Value} (h : OpL w wr m g9 g7 p a c X Y) (i : Nat) (v : Value) : OpL w (wr.setCell ⟨g9, i, none⟩ v) m g9 g7 p a c X (Y.setIfInBounds i v) := by
  have ho : One g9 wr (wr.setCell ⟨g9, i, none⟩ v) := (One.of (Below.refl _ _)).set i v
  have hne : ∀ (q : Nat) (M : Array Value) (t : TypeId), wr.heap[q]? = some (.cells M t) → t ≠ 46 → q ≠ g9 := fun q M t hq ht e => by
    rw [e, h.b9] at hq
    simp at hq
    exact ht hq.2.symm
  obtain ⟨M, hM, hPM⟩ := h.mem.po.blk
  obtain ⟨D, hD, hDM⟩ := h.mem.dk.blk
  refine ⟨by simpa using h.y, heap_setCell_same _ _ _ _ _ _ h.b9, ?_, ?_, h.below.setCell (by simpa using h.ge) _, h.ge, h.rn⟩
  · rw [heap_setCell_other _ _ _ _ (hne _ _ _ h.b7 (by decide))]; exact h.b7
  · refine ⟨⟨⟨M, by rw [heap_setCell_other _ _ _ _ (hne _ _ _ hM (by decide))]; exact hM, hPM⟩, h.mem.po.may, h.mem.po.np, ?_⟩, h.mem.dk.kept (heap_setCell_other _ _ _ _ (hne _ _ _ hD (by decide))), h.mem.pB, h.mem.dB, fun i _ hx => absurd hx (bare m _ (by omega)), fun i _ _ _ _ hx => absurd hx (bare m _ (by omega)), fun x hx => ⟨(h.mem.rg x hx).1, (h.mem.rg x hx).2.1, fun i _ hx => absurd hx (bare m _ (by omega))⟩⟩
    exact slF_one h.mem.po.ring ho h.rn

theorem op_first {w w2 : World} {m p : Nat} {a : Option Addr} {c : Nat} {X : Array Value} (hm : Mem w2 w.heap.size p w.heap.size (po0 m a c) dk0 pg0) (hb : Below w.heap.size w w2) : ∃ W3 : World, W3.heap[w2.heap.size]? = some (.cells X 43) ∧ Mem W3 w.heap.size p w.heap.size (po0 m a c) dk0 pg0 ∧ Below w.heap.size w W3 ∧ w2.alloc (.cells X 43) = W3 :=
  ⟨_, heap_alloc_new _ _, hm.below ((Below.refl _ _).alloc (Nat.le_refl _) _), hb.alloc hb.size _, rfl⟩
theorem op_second {w W3 : World} {m p g7 : Nat} {a : Option Addr} {c : Nat} {X : Array Value} (hm : Mem W3 w.heap.size p w.heap.size (po0 m a c) dk0 pg0) (hb : Below w.heap.size w W3) (h7 : W3.heap[g7]? = some (.cells X 43)) : ∃ W4 : World, OpL w W4 m W3.heap.size g7 p a c X Try.zeroCells46 ∧ W3.alloc (.cells Try.zeroCells46 46) = W4 := by
  have hb1 : Below W3.heap.size W3 (W3.alloc (.cells Try.zeroCells46 46)) := (Below.refl _ _).alloc (Nat.le_refl _) _
  refine ⟨_, ⟨z46_size, heap_alloc_new _ _, by rw [hb1.block _ (blk_lt h7)]; exact h7, hm.below hb1, hb.alloc hb.size _, hb.size, fun x hx => ?_⟩, rfl⟩
  obtain ⟨y, hy, hlt⟩ := hm.po.at
  simp only [po0] at hy
  rw [hx] at hy
  simp at hy
  subst hy
  omega

set_option maxRecDepth 20000 in
set_option maxHeartbeats 4000000 in
theorem opened_yes (m : Nat) (w : World) (h1 : 1 ≤ m) (h2 : m ≤ 16) : Calls Try.prog 7 #[.int .i64 (m : Int)] w fun e w' => Opened w w' m e := by
  have HN := toHid (newp_yes m w.heap.size (w.alloc (.cells dkC 59)) h1 h2)
  have HR := toHid (fun W => ref_yes m W h1 h2)
  have HD := toHid (dk_new (heap_alloc_new w (.cells dkC 59)))
  have HB := toHid ((Below.refl w.heap.size w).alloc (Nat.le_refl _) (.cells dkC 59))
  go_enter Try.func7, Try.ntmps7
  go_wp2_with fail
  refine Calls.mono HN.out ?_
  rintro e w1 ⟨p, a, c, rfl, hp, hpo, hr, hb⟩
  have hsz : (w.alloc (.cells dkC 59)).heap.size = w.heap.size + 1 := by simp
  rw [hsz] at hp
  have HM1 := toHid (mem_new (B := w.heap.size) (HD.out.below hb) hpo (by omega) (Nat.le_refl _) (fun x hx => ⟨(hr x hx).1, by have := (hr x hx).2; rw [hsz] at this; omega⟩))
  have HB1 := toHid (HB.out.trans (hb.mono HB.out.size))
  clear HN HD HB hpo hr hb hsz
  go_wp2_with fail
  refine Calls.mono (HR.out _) ?_
  rintro e w2 ⟨X, hX, rfl, hb2⟩
  have HM2 := toHid (HM1.out.below hb2)
  have HB2 := toHid (HB1.out.trans (hb2.mono HB1.out.size))
  have HX := toHid hX
  clear HR HB1 hb2 hX HM1
  go_wp2_with (first | (refine wpList_storeW rfl 43 _ _ rfl w2.heap.size rfl X rfl Try.zeroCells43 43 (heap_alloc_new _ _) (by rw [HX.out.size]; exact info43) (by rw [HX.out.size, z43.size]) HX.out.one rfl ?_; rw [World.setRow_alloc_new]; obtain ⟨W3, h7, hm3, hb3, hW3⟩ := op_first (X := X) HM2.out HB2.out; rw [hW3]; have H7 := toHid h7; have HM3 := toHid hm3; have HB3 := toHid hb3; clear hW3 h7 hm3 hb3) | (refine wpList_storeW rfl 46 _ _ rfl W3.heap.size rfl Try.zeroCells46 rfl Try.zeroCells46 46 (heap_alloc_new _ _) (by rw [z46_size]; exact info46) rfl z46_one rfl ?_; rw [World.setRow_alloc_new]; obtain ⟨W4, hL4, hW4⟩ := op_second HM3.out HB3.out H7.out; rw [hW4]; have HL4 := toHid hL4; clear hW4 hL4))
  go_loopw [10] (fun i wr => ∃ k : Nat, k ≤ 16 ∧ i = .int .i64 (k : Int) ∧ ∃ Y, OpL w wr m W3.heap.size w2.heap.size p a c X Y) (fun i _ => 16 - (intOf i).toNat)
  case atStart => exact ⟨0, by decide, rfl, _, HL4.out⟩
  case round =>
    obtain ⟨k, hk, rfl, Y, hL⟩ := hrel
    have HL := toHid hL
    clear HL4 H7 HM3 HB3 HM2 HB2
    by_cases hlt : k < 16
    · have hd : decide ((k : Int) < 16) = true := by simp; omega
      have hk0 : k * 3 < Y.size := by rw [hL.y]; omega
      have c0 : wr.cell? ⟨W3.heap.size, k * 3, none⟩ = some Y[k * 3] := by simp [World.cell?, hL.b9, hk0]
      have f0 : wr.frozen? ⟨W3.heap.size, k * 3, none⟩ = false := by simp [World.frozen?, hL.b9]
      have hl0 := blk_lt hL.b9
      have HS := toHid (hL.set (k * 3) (.int .i64 (k : Int)))
      clear hL
      generalize Y[k * 3] = y at c0
      go_wp2_with fail
      go_roundw
      case rel => exact ⟨k + 1, by omega, by simp, _, HS.out⟩
      case measure => first | omega | (simp only [intOf]; omega)
    · have hd : decide ((k : Int) < 16) = false := by simp; omega
      clear hL
      obtain ⟨C, hC, hCs, hC0, hC1⟩ := pair_built (.pointer (some ⟨p, 0, none⟩)) (.pointer (some ⟨w.heap.size, 0, none⟩)) X Y rfl rfl HX.out.size HL.out.y
      have HC := toHid hC
      clear hC
      go_wp2_with (first | (refine wpList_loadW rfl 43 _ rfl w2.heap.size rfl X 43 HL.out.b7 _ Try.underlying43 rfl (by rw [HX.out.size]; exact info43) ?_) | (refine wpList_loadW rfl 46 _ rfl W3.heap.size rfl Y 46 HL.out.b9 _ Try.underlying46 rfl (by rw [HL.out.y]; exact info46) ?_) | (refine wpList_buildW rfl 48 _ rfl [(0, .pointer (some ⟨p, 0, none⟩)), (1, .pointer (some ⟨w.heap.size, 0, none⟩)), (2, .agg X), (3, .agg Y)] (by simp [Act.eval]; exact ⟨rfl, rfl, rfl, rfl⟩) C HC.out ?_))
      refine bodyPost_ret (v := .tuple #[.pointer (some ⟨wr.heap.size, 0, none⟩), .bool true]) (by simp [results, Try.results7, go_sem]) rfl ?_
      exact ⟨wr.heap.size, p, w.heap.size, a, c, rfl, ⟨C, heap_alloc_new _ _, hC0, hC1⟩, HL.out.mem.below ((Below.refl _ _).alloc (Nat.le_refl _) _), HL.out.below.alloc HL.out.below.size _⟩
end Go.Proofs.Ytcloinonhpaojaa
