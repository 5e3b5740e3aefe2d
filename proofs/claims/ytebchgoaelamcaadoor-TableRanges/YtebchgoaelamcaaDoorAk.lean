/-
  Slices of steps that came in.
-/
import Derived.Test.YtebchgoaelamcaaDoorAg
namespace Go.Proofs.YtebchgoaelamcaaDoor
open Go.ChangeShapes Go.WideShapes Go.ChangeAt Go.RowKit Go.Deep
set_option maxRecDepth 100000

instance : Inhabited As := ⟨⟨0, [], []⟩⟩
/-- A slice of steps. -/
structure SlK (w : World) (a : Option Addr) (l : List As) : Prop where
  nonil : a = none → l = []
  cells : ∀ x, a = some x → ∀ i t, l[i]? = some t → x.spot = none ∧ w.cell? ⟨x.block, x.off + i * 3, none⟩ = some (.int .i64 t.kind) ∧ w.cell? ⟨x.block, x.off + i * 3 + 1, none⟩ = some (.string (txt t.key)) ∧ w.cell? ⟨x.block, x.off + i * 3 + 2, none⟩ = some (.string (txt t.val))
  small : ∀ t ∈ l, t.key.length ≤ maxLen ∧ t.val.length ≤ maxLen
theorem SlK.on {w w' : World} {a : Option Addr} {l : List As} (h : SlK w a l) (hb : Below w.heap.size w w') : SlK w' a l :=
  ⟨h.nonil, fun x hx i t ht => by
    obtain ⟨h0, h1, h2, h3⟩ := h.cells x hx i t ht
    have hlt := World.block_lt_of_cell? _ _ h1
    exact ⟨h0, by rw [hb.cell (by exact hlt)]; exact h1, by rw [hb.cell (by exact hlt)]; exact h2, by rw [hb.cell (by exact hlt)]; exact h3⟩, h.small⟩
theorem SlK.at {w : World} {a : Option Addr} {l : List As} (h : SlK w a l) (i : Nat) (hi : i < l.length) : ∃ b o, a = some ⟨b, o, none⟩ ∧ b < w.heap.size ∧
    w.cell? ⟨b, o + i * 3, none⟩ = some (.int .i64 l[i].kind) ∧ w.cell? ⟨b, o + i * 3 + 1, none⟩ = some (.string (txt l[i].key)) ∧ w.cell? ⟨b, o + i * 3 + 2, none⟩ = some (.string (txt l[i].val)) := by
  cases a with
  | none => have := h.nonil rfl; subst this; simp at hi
  | some x =>
    obtain ⟨b, o, sp⟩ := x
    obtain ⟨h0, h1, h2, h3⟩ := h.cells _ rfl i _ (List.getElem?_eq_getElem hi)
    simp only at h0 h1 h2 h3
    subst h0
    exact ⟨b, o, rfl, World.block_lt_of_cell? _ _ h1, h1, h2, h3⟩

theorem open_asks {H : Type} {enc : TypeId × Value → H} {W : World} {base : Nat} {spare : Nat → Bool} {held : Bool} {fuel : Nat} {v : Value} {x : DataW H × List MemPlace}
    (hf : DataW.trod enc Tryd.prog W base spare held fuel 57 [v] = some x) : ∃ a c, ∃ l : List As, v = .slice a l.length c ∧ SlK W a l ∧ l.length ≤ maxLen := by
  rcases open_slice Tryd.underlying57 hf with ⟨hcs, _⟩ | ⟨ad, n, cap, m, nf, D, Pl, hcs, _, hl, hm, hmm, _, hx⟩
  · simp at hcs
    subst hcs
    exact ⟨none, 0, [], rfl, ⟨fun _ => rfl, fun y hy => by simp at hy, by simp⟩, by simp⟩
  · simp at hcs
    subst hcs
    have hlm : n ≤ m := by rw [hmm]; split <;> omega
    have hsp : 0 < n → ad.spot = none := by
      intro h0
      obtain ⟨cs', hc, _⟩ := hx 0 (by omega)
      rw [Tryd.cells23] at hc
      obtain ⟨v0, v1, v2, rfl, e0, _⟩ := cells_q3 hc
      have := World.cell?_spot e0
      simpa [Addr.add] using this
    have each : ∀ i, i < n → ∃ q : As, ad.spot = none ∧ W.cell? ⟨ad.block, ad.off + i * 3, none⟩ = some (.int .i64 q.kind) ∧ W.cell? ⟨ad.block, ad.off + i * 3 + 1, none⟩ = some (.string (txt q.key)) ∧ W.cell? ⟨ad.block, ad.off + i * 3 + 2, none⟩ = some (.string (txt q.val)) ∧ q.key.length ≤ maxLen ∧ q.val.length ≤ maxLen := by
      intro i hi
      obtain ⟨cs', hc, ht⟩ := hx i (by omega)
      rw [Tryd.cells23] at hc
      obtain ⟨v0, v1, v2, rfl, e0, e1, e2⟩ := cells_q3 hc
      obtain ⟨y0, y1, y2, nn, _, _, t0, t1, t2⟩ := trod_struct3 Tryd.underlying23 ht
      obtain ⟨n0, q0, _, _⟩ := DataW.trod_int Tryd.underlying3 t0
      obtain ⟨s1, q1, _, w1⟩ := DataW.trod_string Tryd.underlying9 t1
      obtain ⟨s2, q2, _, w2⟩ := DataW.trod_string Tryd.underlying9 t2
      simp [Tryd.cells3, Tryd.cells9] at q0 q1 q2
      subst q0 q1 q2
      obtain ⟨ab, ao, asp⟩ := ad
      obtain rfl : asp = none := hsp (by omega)
      have eb : ∀ q j, (⟨ab, q, none⟩ : Addr).add j = ⟨ab, q + j, none⟩ := fun q j => by unfold Addr.add; split <;> simp_all
      rw [eb] at e0 e1 e2
      rw [eb] at e1 e2
      refine ⟨⟨n0, s1.data.toList, s2.data.toList⟩, rfl, e0, ?_, ?_, ?_, ?_⟩
      · show _ = some (Value.string (txt s1.data.toList))
        rw [txt_of]; exact e1
      · show _ = some (Value.string (txt s2.data.toList))
        rw [txt_of]; exact e2
      · show s1.data.toList.length ≤ _
        rw [len_of]; exact w1
      · show s2.data.toList.length ≤ _
        rw [len_of]; exact w2
    obtain ⟨q, hq⟩ := choose_lt each
    have hln : ((List.range n).map fun i => q i).length = n := by simp
    refine ⟨some ad, cap, (List.range n).map fun i => q i, by rw [hln], ⟨fun h => by simp at h, fun y hy i t ht => ?_, fun t ht => ?_⟩, by omega⟩
    · simp at hy
      subst hy
      have hi : i < n := by have := (List.getElem?_eq_some_iff.1 ht).1; omega
      simp [hi] at ht
      subst ht
      obtain ⟨h0, h1, h2, h3, _⟩ := hq i hi
      exact ⟨h0, h1, h2, h3⟩
    · simp at ht
      obtain ⟨i, hi, rfl⟩ := ht
      obtain ⟨_, _, _, _, h5, h6⟩ := hq i hi
      exact ⟨h5, h6⟩
end Go.Proofs.YtebchgoaelamcaaDoor
