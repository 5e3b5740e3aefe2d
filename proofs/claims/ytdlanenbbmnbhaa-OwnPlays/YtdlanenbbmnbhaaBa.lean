/-
  A book in memory: what lies where, and what a change of one page leaves; rows of numbers, rows of orders.
-/
import Derived.Test.YtdlanenbbmnbhaaMa
import Derived.Test.YtdlanenbbmnbhaaRows
import Derived.WalkSpells
import Derived.WalkLawsBesides
import Derived.Below
import Derived.BigQuiet
import Derived.Lib.Walk
import Derived.Lib.Hide
import Derived.Laws.MakeOwn
import Derived.Laws.ResultCell
import Derived.Deep.RegionLawGrows
import Derived.Deep.Upon
namespace Go.Proofs.Ytdlanenbbmnbhaa
open Go.RowKit

theorem toHid {p : Prop} (h : p) : Hid p := h
theorem blk_lt {w : World} {p : Nat} {o : Obj} (h : w.heap[p]? = some o) : p < w.heap.size := (Array.getElem?_eq_some_iff.mp h).1
theorem cell_lt {w : World} {g o : Nat} {v : Value} (h : w.cell? ⟨g, o, none⟩ = some v) : g < w.heap.size := by
  rcases Nat.lt_or_ge g w.heap.size with h1 | h1
  · exact h1
  · simp [World.cell?, Array.getElem?_eq_none h1] at h

/-- Nothing but one block has turned. -/
structure One (p : Nat) (w w' : World) : Prop where
  os : w'.os = w.os
  tape : w'.tape = w.tape
  output : w'.output = w.output
  size : w.heap.size ≤ w'.heap.size
  block : ∀ k, k < w.heap.size → k ≠ p → w'.heap[k]? = w.heap[k]?
theorem One.of {p : Nat} {w w' : World} (h : Below w.heap.size w w') : One p w w' := ⟨h.os, h.tape, h.output, h.size, fun k hk _ => h.block k hk⟩
theorem One.refl (p : Nat) (w : World) : One p w w := One.of (Below.refl _ _)
theorem One.trans {p : Nat} {a b c : World} (h : One p a b) (k : One p b c) : One p a c :=
  ⟨k.os.trans h.os, k.tape.trans h.tape, k.output.trans h.output, Nat.le_trans h.size k.size, fun i hi hn => (k.block i (Nat.lt_of_lt_of_le hi h.size) hn).trans (h.block i hi hn)⟩
theorem One.set {p : Nat} {w w' : World} (h : One p w w') (i : Nat) (u : Value) : One p w (w'.setCell ⟨p, i, none⟩ u) :=
  ⟨h.os, h.tape, h.output, by simpa using h.size, fun k hk hn => by rw [heap_setCell_other _ _ _ _ hn]; exact h.block k hk hn⟩
theorem One.below {p B : Nat} {w w' : World} (h : One p w w') (hp : B ≤ p) (hB : B ≤ w.heap.size) : Below B w w' :=
  ⟨h.os, h.tape, h.output, h.size, fun k hk => h.block k (by omega) (by omega)⟩
theorem One.drew {p : Nat} {w w' : World} (h : One p w w') : One p w w'.drew := ⟨h.os, h.tape, h.output, h.size, h.block⟩
theorem One.cell {p g : Nat} {w w' : World} (h : One p w w') (hg : g < w.heap.size) (hn : g ≠ p) (o : Nat) : w'.cell? ⟨g, o, none⟩ = w.cell? ⟨g, o, none⟩ := by
  simp only [World.cell?, h.block g hg hn]
theorem One.at {p g : Nat} {w w' : World} (h : One p w w') {o : Obj} (hg : w.heap[g]? = some o) (hn : g ≠ p) : w'.heap[g]? = some o := by
  rw [h.block g (blk_lt hg) hn]; exact hg

/-- A row of numbers that can be read. -/
structure SlI (w : World) (a : Option Addr) (l : List Int) : Prop where
  nonil : a = none → l = []
  cells : ∀ x, a = some x → ∀ i t, l[i]? = some t → x.spot = none ∧ w.cell? ⟨x.block, x.off + i, none⟩ = some (.int .i64 t)
  typ : ∀ x, a = some x → l ≠ [] → ∃ M, w.heap[x.block]? = some (.cells M 3)
theorem SlI.drew {w : World} {a : Option Addr} {l : List Int} (h : SlI w a l) : SlI w.drew a l := ⟨h.nonil, h.cells, h.typ⟩
theorem SlI.drewN {w : World} {a : Option Addr} {l : List Int} (h : SlI w a l) (n : Nat) : SlI (w.drewN n) a l := ⟨h.nonil, h.cells, h.typ⟩
theorem SlI.one {w w' : World} {p : Nat} {a : Option Addr} {l : List Int} (h : SlI w a l) (hb : One p w w') (hp : ∀ x, a = some x → x.block ≠ p) : SlI w' a l :=
  ⟨h.nonil, fun x hx i t ht => by
    obtain ⟨h0, h1⟩ := h.cells x hx i t ht
    exact ⟨h0, by rw [hb.cell (cell_lt h1) (hp x hx)]; exact h1⟩, fun x hx hne => by
    obtain ⟨M, hM⟩ := h.typ x hx hne
    exact ⟨M, by rw [hb.block _ (blk_lt hM) (hp x hx)]; exact hM⟩⟩
theorem SlI.below {w w' : World} {a : Option Addr} {l : List Int} (h : SlI w a l) (hb : Below w.heap.size w w') : SlI w' a l :=
  ⟨h.nonil, fun x hx i t ht => by
    obtain ⟨h0, h1⟩ := h.cells x hx i t ht
    exact ⟨h0, by rw [hb.cell (by exact cell_lt h1)]; exact h1⟩, fun x hx hne => by
    obtain ⟨M, hM⟩ := h.typ x hx hne
    exact ⟨M, by rw [hb.block _ (blk_lt hM)]; exact hM⟩⟩
theorem SlI.nil (w : World) (a : Option Addr) : SlI w a [] := ⟨fun _ => rfl, fun _ _ i t ht => by simp at ht, fun _ _ h => absurd rfl h⟩
theorem SlI.at {w : World} {a : Option Addr} {l : List Int} (h : SlI w a l) (i : Nat) (hi : i < l.length) : ∃ b o, a = some ⟨b, o, none⟩ ∧ b < w.heap.size ∧ w.cell? ⟨b, o + i, none⟩ = some (.int .i64 l[i]) := by
  cases a with
  | none => have := h.nonil rfl; subst this; simp at hi
  | some x =>
    obtain ⟨b, o, sp⟩ := x
    obtain ⟨h0, h1⟩ := h.cells _ rfl i _ (List.getElem?_eq_getElem hi)
    simp only at h0 h1
    subst h0
    exact ⟨b, o, rfl, cell_lt h1, h1⟩
def inV (x : Int) : Value := .int .i64 x
def inVs (l : List Int) : List Value := l.map inV
theorem SlI.own {w : World} {B n c : Nat} {a : Option Addr} {l : List Int} (h : w.ownsRow B 3 1 (.slice a n c) n (inVs l)) (hn : n = l.length) : SlI w a l := by
  subst hn
  rcases h.2 with ⟨hv, h2⟩ | ⟨g, cap, cur, hv, h2, h3, h4, h5, h6, h7⟩
  · have : l = [] := List.eq_nil_of_length_eq_zero (by simpa using h2)
    subst this
    exact SlI.nil _ _
  · cases hv
    refine ⟨fun e => by simp at e, fun x hx i t ht => ?_, fun x hx _ => ⟨cur, by cases hx; exact h3⟩⟩
    obtain rfl : _ = x := by simpa using hx
    refine ⟨rfl, ?_⟩
    have hil := (List.getElem?_eq_some_iff.1 ht).1
    have : w.cell? ((⟨g, 0, none⟩ : Addr).add i) = some (.int .i64 t) := h.cells (g := g) rfl i (inV t) (by simp [inVs, ht])
    by_cases hz : i = 0
    · subst hz; simpa [Addr.add] using this
    · simpa [Addr.add, hz] using this
theorem SlI.sl {w : World} {l : List Int} {b o : Nat} (h : SlI w (some ⟨b, o, none⟩) l) (k : Nat) : ∀ j u, (inVs (l.drop k))[j]? = some u → w.cell? ((⟨b, o + k, none⟩ : Addr).add j) = some u := by
  intro j u hj
  simp only [inVs, List.getElem?_map, List.getElem?_drop, Option.map_eq_some_iff] at hj
  obtain ⟨t, ht, rfl⟩ := hj
  have := (h.cells _ rfl (k + j) t ht).2
  by_cases hz : j = 0
  · subst hz; simpa [Addr.add, inV] using this
  · simpa [Addr.add, hz, inV, Nat.add_assoc] using this

/-- A row of orders that can be read. -/
def odC (o : Od) : Array Value := #[.int .i64 o.kind, .int .i64 o.page, .int .i64 o.frm, .int .i64 o.to, .bool o.fast]
structure SlD (w : World) (a : Option Addr) (l : List Od) : Prop where
  nonil : a = none → l = []
  cells : ∀ x, a = some x → ∀ i t, l[i]? = some t → x.spot = none ∧ w.cell? ⟨x.block, x.off + i * 5, none⟩ = some (.int .i64 t.kind) ∧ w.cell? ⟨x.block, x.off + i * 5 + 1, none⟩ = some (.int .i64 t.page) ∧ w.cell? ⟨x.block, x.off + i * 5 + 2, none⟩ = some (.int .i64 t.frm) ∧ w.cell? ⟨x.block, x.off + i * 5 + 3, none⟩ = some (.int .i64 t.to) ∧ w.cell? ⟨x.block, x.off + i * 5 + 4, none⟩ = some (.bool t.fast)
theorem SlD.one {w w' : World} {p : Nat} {a : Option Addr} {l : List Od} (h : SlD w a l) (hb : One p w w') (hp : ∀ x, a = some x → x.block ≠ p) : SlD w' a l :=
  ⟨h.nonil, fun x hx i t ht => by
    obtain ⟨h0, h1, h2, h3, h4, h5⟩ := h.cells x hx i t ht
    have hl := cell_lt h1
    exact ⟨h0, by rw [hb.cell hl (hp x hx)]; exact h1, by rw [hb.cell hl (hp x hx)]; exact h2, by rw [hb.cell hl (hp x hx)]; exact h3, by rw [hb.cell hl (hp x hx)]; exact h4, by rw [hb.cell hl (hp x hx)]; exact h5⟩⟩
theorem SlD.below {w w' : World} {a : Option Addr} {l : List Od} (h : SlD w a l) (hb : Below w.heap.size w w') : SlD w' a l :=
  ⟨h.nonil, fun x hx i t ht => by
    obtain ⟨h0, h1, h2, h3, h4, h5⟩ := h.cells x hx i t ht
    have hl := cell_lt h1
    exact ⟨h0, by rw [hb.cell (by exact hl)]; exact h1, by rw [hb.cell (by exact hl)]; exact h2, by rw [hb.cell (by exact hl)]; exact h3, by rw [hb.cell (by exact hl)]; exact h4, by rw [hb.cell (by exact hl)]; exact h5⟩⟩
theorem SlD.nil (w : World) (a : Option Addr) : SlD w a [] := ⟨fun _ => rfl, fun _ _ i t ht => by simp at ht⟩
theorem SlD.at {w : World} {a : Option Addr} {l : List Od} (h : SlD w a l) (i : Nat) (hi : i < l.length) : ∃ b o, a = some ⟨b, o, none⟩ ∧ b < w.heap.size ∧
    w.cell? ⟨b, o + i * 5, none⟩ = some (.int .i64 l[i].kind) ∧ w.cell? ⟨b, o + i * 5 + 1, none⟩ = some (.int .i64 l[i].page) ∧ w.cell? ⟨b, o + i * 5 + 2, none⟩ = some (.int .i64 l[i].frm) ∧ w.cell? ⟨b, o + i * 5 + 3, none⟩ = some (.int .i64 l[i].to) ∧ w.cell? ⟨b, o + i * 5 + 4, none⟩ = some (.bool l[i].fast) := by
  cases a with
  | none => have := h.nonil rfl; subst this; simp at hi
  | some x =>
    obtain ⟨b, o, sp⟩ := x
    obtain ⟨h0, h1⟩ := h.cells _ rfl i _ (List.getElem?_eq_getElem hi)
    simp only at h0 h1
    subst h0
    exact ⟨b, o, rfl, cell_lt h1.1, h1⟩
def odVs (l : List Od) : List Value := l.flatMap fun o => (odC o).toList
theorem odVs_len (l : List Od) : (odVs l).length = l.length * 5 := by
  induction l with
  | nil => rfl
  | cons a r ih => simp only [odVs, List.flatMap_cons, List.length_append, List.length_cons] at ih ⊢; rw [ih]; simp [odC]; omega
theorem odVs_append (l m : List Od) : odVs (l ++ m) = odVs l ++ odVs m := by simp [odVs]
theorem odVs_at : ∀ (l : List Od) (i : Nat) (t : Od), l[i]? = some t → ∀ k, k < 5 → (odVs l)[i * 5 + k]? = (odC t)[k]?
  | [], i, t, h, k, _ => by simp at h
  | a :: r, 0, t, h, k, hk => by
    simp only [List.getElem?_cons_zero, Option.some.injEq] at h
    subst h
    simp only [odVs, List.flatMap_cons]
    rw [List.getElem?_append_left (by simp [odC]; omega)]
    simp
  | a :: r, i + 1, t, h, k, hk => by
    simp only [List.getElem?_cons_succ] at h
    have ih := odVs_at r i t h k hk
    simp only [odVs, List.flatMap_cons] at ih ⊢
    rw [List.getElem?_append_right (by simp [odC]; omega), ← ih]
    congr 1
    simp [odC]
    omega
theorem add_cell (g o j : Nat) : (⟨g, o, none⟩ : Addr).add j = ⟨g, o + j, none⟩ := by
  by_cases hz : j = 0
  · subst hz; simp [Addr.add]
  · simp [Addr.add, hz]
theorem SlD.own {w : World} {B n c : Nat} {a : Option Addr} {l : List Od} (h : w.ownsRow B 51 5 (.slice a n c) n (odVs l)) (hn : n = l.length) : SlD w a l := by
  subst hn
  rcases h.2 with ⟨hv, h2⟩ | ⟨g, cap, cur, hv, h2, h3, h4, h5, h6, h7⟩
  · have : l = [] := List.eq_nil_of_length_eq_zero (by simpa using h2)
    subst this
    exact SlD.nil _ _
  · cases hv
    refine ⟨fun e => by simp at e, fun x hx i t ht => ?_⟩
    obtain rfl : _ = x := by simpa using hx
    have hc : ∀ k u, k < 5 → (odC t)[k]? = some u → w.cell? ⟨g, 0 + (i * 5 + k), none⟩ = some u := fun k u hk hu => by
      have := h.cells (g := g) rfl (i * 5 + k) u (by rw [odVs_at l i t ht k hk]; exact hu)
      rwa [add_cell] at this
    exact ⟨rfl, hc 0 _ (by omega) rfl, hc 1 _ (by omega) rfl, hc 2 _ (by omega) rfl, hc 3 _ (by omega) rfl, hc 4 _ (by omega) rfl⟩
theorem SlD.news {w : World} {l : List Od} {b o : Nat} (h : SlD w (some ⟨b, o, none⟩) l) : ∀ j u, (odVs l)[j]? = some u → w.cell? ((⟨b, o, none⟩ : Addr).add j) = some u := by
  intro j u hj
  have hj1 := (List.getElem?_eq_some_iff.1 hj).1
  rw [odVs_len] at hj1
  have hi : j / 5 < l.length := by omega
  have hq := odVs_at l (j / 5) l[j / 5] (List.getElem?_eq_getElem hi) (j % 5) (by omega)
  rw [show j / 5 * 5 + j % 5 = j by omega, hj] at hq
  obtain ⟨b', o', e, -, c0, c1, c2, c3, c4⟩ := h.at (j / 5) hi
  cases e
  rw [add_cell]
  have hk : j % 5 < 5 := by omega
  have hjj : o + j = o + j / 5 * 5 + j % 5 := by omega
  rw [hjj, hq]
  generalize j % 5 = k at hk
  match k, hk with
  | 0, _ => exact c0
  | 1, _ => exact c1
  | 2, _ => exact c2
  | 3, _ => exact c3
  | 4, _ => exact c4

/-- A page's cells. -/
def fld (x : Lf) (i : Nat) (a : Option Addr) (c : Nat) : Nat → Value
  | 0 => .int .i64 (i : Int)
  | 1 => .bool x.fast
  | 2 => .int .i64 x.owner
  | 3 => .bool x.lost
  | 4 => .bool x.called
  | _ => .slice a x.ws.length c
def upd {α : Type} (f : Nat → α) (i : Nat) (x : α) : Nat → α := fun j => if j = i then x else f j
theorem upd_self {α : Type} (f : Nat → α) (i : Nat) (x : α) : upd f i x i = x := by simp [upd]
theorem upd_ne {α : Type} (f : Nat → α) {i j : Nat} (x : α) (h : j ≠ i) : upd f i x j = f j := by simp [upd, h]
theorem upd_same {α : Type} (f : Nat → α) (i : Nat) : upd f i (f i) = f := by funext j; unfold upd; split <;> simp_all

structure BkI (w : World) (p q : Nat) (l : List Lf) (A : Nat → Option Addr) (C : Nat → Nat) (c : Nat) : Prop where
  book : w.heap[p]? = some (.cells #[.slice (some ⟨q, 0, none⟩) l.length c] 60)
  blk : ∃ M, w.heap[q]? = some (.cells M 63)
  cells : ∀ i (hi : i < l.length) k, k < 6 → w.cell? ⟨q, i * 6 + k, none⟩ = some (fld l[i] i (A i) (C i) k)
  row : ∀ i (hi : i < l.length), SlI w (A i) l[i].ws
  off : ∀ i, i < l.length → ∀ x, A i = some x → x.block ≠ q
  cap : ∀ i (hi : i < l.length), l[i].ws.length ≤ C i
  most : l.length ≤ 16
/-- A book in block p, its pages in block q. -/
def Bk (w : World) (p q : Nat) (l : List Lf) : Prop := ∃ A C c, BkI w p q l A C c

theorem BkI.one {w w' : World} {p q : Nat} {l : List Lf} {A C c} (h : BkI w p q l A C c) (hb : Below w.heap.size w w') : BkI w' p q l A C c := by
  obtain ⟨M, hM⟩ := h.blk
  exact ⟨by rw [hb.block p (blk_lt h.book)]; exact h.book, ⟨M, by rw [hb.block q (blk_lt hM)]; exact hM⟩, fun i hi k hk => by rw [hb.cell (by exact blk_lt hM)]; exact h.cells i hi k hk, fun i hi => (h.row i hi).below hb, h.off, h.cap, h.most⟩
theorem Bk.below {w w' : World} {p q : Nat} {l : List Lf} (h : Bk w p q l) (hb : Below w.heap.size w w') : Bk w' p q l := by
  obtain ⟨A, C, c, h⟩ := h
  exact ⟨A, C, c, h.one hb⟩
/-- A block that is neither the book's nor a row of numbers turns: the book stays. -/
theorem Bk.other {w w' : World} {p q : Nat} {l : List Lf} (h : Bk w p q l) (g : Nat) (hg : ∀ M, w.heap[g]? ≠ some (.cells M 3)) (hp : g ≠ p) (hq : g ≠ q) (ho : One g w w') : Bk w' p q l := by
  obtain ⟨A, C, c, h⟩ := h
  obtain ⟨M, hM⟩ := h.blk
  refine ⟨A, C, c, by rw [ho.block p (blk_lt h.book) (fun e => hp e.symm)]; exact h.book, ⟨M, by rw [ho.block q (blk_lt hM) (fun e => hq e.symm)]; exact hM⟩, fun i hi k hk => by rw [ho.cell (blk_lt hM) (fun e => hq e.symm)]; exact h.cells i hi k hk, fun i hi => ?_, h.off, h.cap, h.most⟩
  by_cases hw : l[i].ws = []
  · rw [hw]; exact SlI.nil _ _
  · refine (h.row i hi).one ho (fun x hx e => ?_)
    obtain ⟨M2, hM2⟩ := (h.row i hi).typ x hx hw
    rw [e] at hM2
    exact hg M2 hM2
theorem Bk.drew {w : World} {p q : Nat} {l : List Lf} (h : Bk w p q l) : Bk w.drew p q l := h.below (Below.refl _ _).drew
theorem Bk.most {w : World} {p q : Nat} {l : List Lf} (h : Bk w p q l) : l.length ≤ 16 := by obtain ⟨A, C, c, h⟩ := h; exact h.most
theorem Bk.lt {w : World} {p q : Nat} {l : List Lf} (h : Bk w p q l) : p < w.heap.size ∧ q < w.heap.size ∧ p ≠ q := by
  obtain ⟨A, C, c, h⟩ := h
  obtain ⟨M, hM⟩ := h.blk
  refine ⟨blk_lt h.book, blk_lt hM, fun e => ?_⟩
  have h1 := h.book
  rw [e, hM] at h1
  simp at h1
theorem Bk.at {w : World} {p q : Nat} {l : List Lf} (h : Bk w p q l) : ∃ c, w.cell? ⟨p, 0, none⟩ = some (.slice (some ⟨q, 0, none⟩) l.length c) := by
  obtain ⟨A, C, c, h⟩ := h
  exact ⟨c, by simp [World.cell?, h.book]⟩
theorem Bk.page {w : World} {p q : Nat} {l : List Lf} (h : Bk w p q l) (i : Nat) (hi : i < l.length) : ∃ a c, w.cell? ⟨q, i * 6, none⟩ = some (.int .i64 (i : Int)) ∧ w.cell? ⟨q, i * 6 + 1, none⟩ = some (.bool l[i].fast) ∧ w.cell? ⟨q, i * 6 + 2, none⟩ = some (.int .i64 l[i].owner) ∧ w.cell? ⟨q, i * 6 + 3, none⟩ = some (.bool l[i].lost) ∧ w.cell? ⟨q, i * 6 + 4, none⟩ = some (.bool l[i].called) ∧ w.cell? ⟨q, i * 6 + 5, none⟩ = some (.slice a l[i].ws.length c) ∧ SlI w a l[i].ws ∧ (∀ x, a = some x → x.block ≠ q) ∧ l[i].ws.length ≤ c ∧ (∀ j, w.frozen? ⟨q, j, none⟩ = false) := by
  obtain ⟨A, C, c, h⟩ := h
  obtain ⟨M, hM⟩ := h.blk
  exact ⟨A i, C i, h.cells i hi 0 (by omega), h.cells i hi 1 (by omega), h.cells i hi 2 (by omega), h.cells i hi 3 (by omega), h.cells i hi 4 (by omega), h.cells i hi 5 (by omega), h.row i hi, h.off i hi, h.cap i hi, fun j => by simp [World.frozen?, hM]⟩
theorem BkI.set {w : World} {p q : Nat} {l : List Lf} {A C c} (h : BkI w p q l A C c) (i : Nat) (hi : i < l.length) (k : Nat) (hk : k < 6) (x : Lf) (a : Option Addr) (c' : Nat)
    (hx : ∀ j, j < 6 → j ≠ k → fld x i a c' j = fld l[i] i (A i) (C i) j) (hr : SlI w a x.ws) (ho : ∀ y, a = some y → y.block ≠ q) (hc : x.ws.length ≤ c') :
    BkI (w.setCell ⟨q, i * 6 + k, none⟩ (fld x i a c' k)) p q (l.set i x) (upd A i a) (upd C i c') c := by
  obtain ⟨M, hM⟩ := h.blk
  have hpq : p ≠ q := fun e => by
    have h1 := h.book
    rw [e, hM] at h1
    simp at h1
  have hone : One q w (w.setCell ⟨q, i * 6 + k, none⟩ (fld x i a c' k)) := (One.refl q w).set _ _
  refine ⟨?_, ⟨_, heap_setCell_same _ q _ M 63 _ hM⟩, fun j hj m hm => ?_, fun j hj => ?_, fun j hj => ?_, fun j hj => ?_, by simpa using h.most⟩
  · rw [heap_setCell_other _ _ _ _ hpq, h.book]
    simp
  · simp only [List.length_set] at hj
    by_cases e : j = i
    · subst e
      simp only [List.getElem_set_self, upd_self]
      by_cases e2 : m = k
      · subst e2
        exact World.cell?_setCell_same _ _ _ (h.cells j hi m hm)
      · rw [World.cell?_setCell_other (h := by simp; try omega), h.cells j hi m hm, hx m hm e2]
    · rw [List.getElem_set_ne (fun e' => e e'.symm), upd_ne _ _ e, upd_ne _ _ e, World.cell?_setCell_other (h := by simp; try omega)]
      exact h.cells j (by simpa using hj) m hm
  · simp only [List.length_set] at hj
    by_cases e : j = i
    · subst e
      simp only [List.getElem_set_self, upd_self]
      exact hr.one hone ho
    · rw [List.getElem_set_ne (fun e' => e e'.symm), upd_ne _ _ e]
      exact (h.row j (by simpa using hj)).one hone (h.off j (by simpa using hj))
  · simp only [List.length_set] at hj
    by_cases e : j = i
    · subst e
      rw [upd_self]
      exact ho
    · rw [upd_ne _ _ e]
      exact h.off j (by simpa using hj)
  · simp only [List.length_set] at hj
    by_cases e : j = i
    · subst e
      simp only [List.getElem_set_self, upd_self]
      exact hc
    · rw [List.getElem_set_ne (fun e' => e e'.symm), upd_ne _ _ e]
      exact h.cap j (by simpa using hj)
theorem Bk.setOwner {w : World} {p q : Nat} {l : List Lf} (h : Bk w p q l) (i : Nat) (hi : i < l.length) (k : Int) : Bk (w.setCell ⟨q, i * 6 + 2, none⟩ (.int .i64 k)) p q (l.set i ⟨l[i].fast, k, l[i].lost, l[i].called, l[i].ws⟩) := by
  obtain ⟨A, C, c, h⟩ := h
  exact ⟨_, _, _, h.set i hi 2 (by omega) ⟨l[i].fast, k, l[i].lost, l[i].called, l[i].ws⟩ (A i) (C i) (fun j hj hn => by match j, hj with | 0, _ | 1, _ | 3, _ | 4, _ | 5, _ => rfl | 2, _ => exact absurd rfl hn) (h.row i hi) (h.off i hi) (h.cap i hi)⟩
theorem Bk.setLost {w : World} {p q : Nat} {l : List Lf} (h : Bk w p q l) (i : Nat) (hi : i < l.length) (k : Bool) : Bk (w.setCell ⟨q, i * 6 + 3, none⟩ (.bool k)) p q (l.set i ⟨l[i].fast, l[i].owner, k, l[i].called, l[i].ws⟩) := by
  obtain ⟨A, C, c, h⟩ := h
  exact ⟨_, _, _, h.set i hi 3 (by omega) ⟨l[i].fast, l[i].owner, k, l[i].called, l[i].ws⟩ (A i) (C i) (fun j hj hn => by match j, hj with | 0, _ | 1, _ | 2, _ | 4, _ | 5, _ => rfl | 3, _ => exact absurd rfl hn) (h.row i hi) (h.off i hi) (h.cap i hi)⟩
theorem Bk.setCalled {w : World} {p q : Nat} {l : List Lf} (h : Bk w p q l) (i : Nat) (hi : i < l.length) (k : Bool) : Bk (w.setCell ⟨q, i * 6 + 4, none⟩ (.bool k)) p q (l.set i ⟨l[i].fast, l[i].owner, l[i].lost, k, l[i].ws⟩) := by
  obtain ⟨A, C, c, h⟩ := h
  exact ⟨_, _, _, h.set i hi 4 (by omega) ⟨l[i].fast, l[i].owner, l[i].lost, k, l[i].ws⟩ (A i) (C i) (fun j hj hn => by match j, hj with | 0, _ | 1, _ | 2, _ | 3, _ | 5, _ => rfl | 4, _ => exact absurd rfl hn) (h.row i hi) (h.off i hi) (h.cap i hi)⟩
theorem Bk.setWaits {w : World} {p q : Nat} {l : List Lf} (h : Bk w p q l) (i : Nat) (hi : i < l.length) (ws : List Int) (a : Option Addr) (c' : Nat) (hr : SlI w a ws) (ho : ∀ y, a = some y → y.block ≠ q) (hc : ws.length ≤ c') : Bk (w.setCell ⟨q, i * 6 + 5, none⟩ (.slice a ws.length c')) p q (l.set i ⟨l[i].fast, l[i].owner, l[i].lost, l[i].called, ws⟩) := by
  obtain ⟨A, C, c, h⟩ := h
  exact ⟨_, _, _, h.set i hi 5 (by omega) ⟨l[i].fast, l[i].owner, l[i].lost, l[i].called, ws⟩ a c' (fun j hj hn => by match j, hj with | 0, _ | 1, _ | 2, _ | 3, _ | 4, _ => rfl | 5, _ => exact absurd rfl hn) hr ho hc⟩
end Go.Proofs.Ytdlanenbbmnbhaa
