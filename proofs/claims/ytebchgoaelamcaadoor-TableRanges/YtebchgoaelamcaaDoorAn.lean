/-
  Slices of slices of pairs that came in.
-/
import Derived.Test.YtebchgoaelamcaaDoorAg
namespace Go.Proofs.YtebchgoaelamcaaDoor
open Go.ChangeShapes Go.WideShapes Go.ChangeAt Go.RowKit Go.Deep
set_option maxRecDepth 100000

theorem Tryd.cells33 : Tryd.prog.cellsOf 33 = 1 := by kernel_rfl
theorem cells_q1 {w : World} {base : Nat} {a : Addr} {cs : List Value} (h : w.cells? base a 1 = some cs) : ∃ v0, cs = [v0] ∧ w.cell? a = some v0 := by
  obtain ⟨hb, hl, hc⟩ := World.cells?_some h
  match cs, hl with
  | [v0], _ =>
    have h0 := hc 0 (by simp)
    exact ⟨v0, rfl, by simpa [Addr.add] using h0⟩
theorem okWide_str {P : Program} {w : World} {r : Reach} {base : Nat} {t : TypeId} {v : Value} (ht : P.underlying t = some .string) (h : Value.okWide P w r base t v) : ∃ s, v = .string s := by
  have h' : Cell.okWide P w r base t v := by
    simp only [Value.okWide, ht] at h
    exact h
  unfold Cell.okWide at h'
  rw [ht] at h'
  cases v <;> first | exact ⟨_, rfl⟩ | (exfalso; simp [Cell.ok, ht] at h'; done) | (exfalso; simp [Cell.ok, ht] at h')
/-- One slice of pairs: where it lies, its room, its pairs. -/
structure PL where
  a : Option Addr
  c : Nat
  l : List Pr
instance : Inhabited PL := ⟨⟨none, 0, []⟩⟩
structure SlL (w : World) (a : Option Addr) (l : List PL) : Prop where
  nonil : a = none → l = []
  cells : ∀ x, a = some x → ∀ i t, l[i]? = some t → x.spot = none ∧ w.cell? ⟨x.block, x.off + i, none⟩ = some (.slice t.a t.l.length t.c)
  each : ∀ t ∈ l, SlP w t.a t.l ∧ t.l.length ≤ maxLen
theorem SlL.on {w w' : World} {a : Option Addr} {l : List PL} (h : SlL w a l) (hb : Below w.heap.size w w') : SlL w' a l :=
  ⟨h.nonil, fun x hx i t ht => by
    obtain ⟨h0, h1⟩ := h.cells x hx i t ht
    have hlt := World.block_lt_of_cell? _ _ h1
    exact ⟨h0, by rw [hb.cell (by exact hlt)]; exact h1⟩, fun t ht => ⟨(h.each t ht).1.on hb, (h.each t ht).2⟩⟩
theorem SlL.at {w : World} {a : Option Addr} {l : List PL} (h : SlL w a l) (i : Nat) (hi : i < l.length) : ∃ b o, a = some ⟨b, o, none⟩ ∧ b < w.heap.size ∧
    w.cell? ⟨b, o + i, none⟩ = some (.slice l[i].a l[i].l.length l[i].c) := by
  cases a with
  | none => have := h.nonil rfl; subst this; simp at hi
  | some x =>
    obtain ⟨b, o, sp⟩ := x
    obtain ⟨h0, h1⟩ := h.cells _ rfl i _ (List.getElem?_eq_getElem hi)
    simp only at h0 h1
    subst h0
    exact ⟨b, o, rfl, World.block_lt_of_cell? _ _ h1, h1⟩

theorem open_pairss {H : Type} {enc : TypeId × Value → H} {W : World} {base : Nat} {spare : Nat → Bool} {held : Bool} {fuel : Nat} {v : Value} {x : DataW H × List MemPlace}
    (hf : DataW.trod enc Tryd.prog W base spare held fuel 64 [v] = some x) : ∃ a c, ∃ l : List PL, v = .slice a l.length c ∧ SlL W a l ∧ l.length ≤ maxLen := by
  rcases open_slice Tryd.underlying64 hf with ⟨hcs, _⟩ | ⟨ad, n, cap, m, nf, D, Pl, hcs, _, hl, hm, hmm, _, hx⟩
  · simp at hcs
    subst hcs
    exact ⟨none, 0, [], rfl, ⟨fun _ => rfl, fun y hy => by simp at hy, by simp⟩, by simp⟩
  · simp at hcs
    subst hcs
    have hlm : n ≤ m := by rw [hmm]; split <;> omega
    have hsp : 0 < n → ad.spot = none := by
      intro h0
      obtain ⟨cs', hc, _⟩ := hx 0 (by omega)
      rw [Tryd.cells33] at hc
      obtain ⟨v0, rfl, e0⟩ := cells_q1 hc
      have := World.cell?_spot e0
      simpa [Addr.add] using this
    have each : ∀ i, i < n → ∃ q : PL, ad.spot = none ∧ W.cell? ⟨ad.block, ad.off + i, none⟩ = some (.slice q.a q.l.length q.c) ∧ SlP W q.a q.l ∧ q.l.length ≤ maxLen := by
      intro i hi
      obtain ⟨cs', hc, ht⟩ := hx i (by omega)
      rw [Tryd.cells33] at hc
      obtain ⟨v0, rfl, e0⟩ := cells_q1 hc
      obtain ⟨a', c', l', rfl, h1, h2⟩ := open_pairs ht
      obtain ⟨ab, ao, asp⟩ := ad
      obtain rfl : asp = none := hsp (by omega)
      have eb : ∀ q j, (⟨ab, q, none⟩ : Addr).add j = ⟨ab, q + j, none⟩ := fun q j => by unfold Addr.add; split <;> simp_all
      rw [eb] at e0
      exact ⟨⟨a', c', l'⟩, rfl, by simpa using e0, h1, h2⟩
    obtain ⟨q, hq⟩ := choose_lt each
    have hln : ((List.range n).map fun i => q i).length = n := by simp
    refine ⟨some ad, cap, (List.range n).map fun i => q i, by rw [hln], ⟨fun h => by simp at h, fun y hy i t ht => ?_, fun t ht => ?_⟩, by omega⟩
    · simp at hy
      subst hy
      have hi : i < n := by have := (List.getElem?_eq_some_iff.1 ht).1; omega
      simp [hi] at ht
      subst ht
      obtain ⟨h0, h1, _⟩ := hq i hi
      exact ⟨h0, h1⟩
    · simp at ht
      obtain ⟨i, hi, rfl⟩ := ht
      obtain ⟨_, _, h5, h6⟩ := hq i hi
      exact ⟨h5, h6⟩
end Go.Proofs.YtebchgoaelamcaaDoor
