/-
  A slice of records that came in.
-/
import Derived.Test.YtamkfcdehkdcpaaAh
namespace Go.Proofs.Ytamkfcdehkdcpaa
open Go.ChangeShapes Go.WideShapes Go.ChangeAt Go.RowKit Go.Deep

/-- A slice of records. -/
structure SlR (w : World) (a : Option Addr) (l : List Rc) : Prop where
  nonil : a = none → l = []
  cells : ∀ x, a = some x → ∀ i t, l[i]? = some t → x.spot = none ∧ ∀ j u, (recC t).toList[j]? = some u → w.cell? ⟨x.block, x.off + i * 12 + j, none⟩ = some u
  small : ∀ t ∈ l, t.lsn < 18446744073709551616 ∧ t.act.key.length ≤ maxLen ∧ t.act.old.length ≤ maxLen ∧ t.act.new.length ≤ maxLen

theorem SlR.on {w w' : World} {a : Option Addr} {l : List Rc} (h : SlR w a l) (hb : Below w.heap.size w w') : SlR w' a l :=
  ⟨h.nonil, fun x hx i t ht => by
    obtain ⟨h0, h1⟩ := h.cells x hx i t ht
    have hlt := World.block_lt_of_cell? _ _ (h1 0 _ rfl)
    exact ⟨h0, fun j u hu => by rw [hb.cell (by exact hlt)]; exact h1 j u hu⟩, h.small⟩

theorem SlR.at {w : World} {a : Option Addr} {l : List Rc} (h : SlR w a l) (i : Nat) (hi : i < l.length) : ∃ b o, a = some ⟨b, o, none⟩ ∧ b < w.heap.size ∧ ∀ j u, (recC l[i]).toList[j]? = some u → w.cell? ⟨b, o + i * 12 + j, none⟩ = some u := by
  cases a with
  | none => have := h.nonil rfl; subst this; simp at hi
  | some x =>
    obtain ⟨b, o, sp⟩ := x
    obtain ⟨h0, h1⟩ := h.cells _ rfl i _ (List.getElem?_eq_getElem hi)
    simp only at h0 h1
    subst h0
    exact ⟨b, o, rfl, World.block_lt_of_cell? _ _ (h1 0 _ rfl), h1⟩

set_option maxRecDepth 20000 in
theorem open_recs {H : Type} {enc : TypeId × Value → H} {W : World} {base : Nat} {spare : Nat → Bool} {held : Bool} {fuel : Nat} {v : Value} {x : DataW H × List MemPlace}
    (hf : DataW.trod enc Try.prog W base spare held fuel 49 [v] = some x) : ∃ a c, ∃ l : List Rc, v = .slice a l.length c ∧ SlR W a l ∧ l.length ≤ maxLen := by
  rcases open_slice Try.underlying49 hf with ⟨hcs, _⟩ | ⟨ad, n, cap, m, nf, D, Pl, hcs, _, hl, hm, hmm, _, hx⟩
  · simp at hcs
    subst hcs
    exact ⟨none, 0, [], rfl, ⟨fun _ => rfl, fun y hy => by simp at hy, by simp⟩, by simp⟩
  · simp at hcs
    subst hcs
    have hlm : n ≤ m := by rw [hmm]; split <;> omega
    have hspot : 0 < n → ad.spot = none := by
      intro h0
      obtain ⟨cs', hc, _⟩ := hx 0 (by omega)
      rw [Try.cells54] at hc
      obtain ⟨_, hlc, hcc⟩ := World.cells?_some hc
      have h1 := hcc 0 (by omega)
      rw [List.getElem?_eq_getElem (by omega)] at h1
      have := World.cell?_spot h1
      simpa [Addr.add] using this
    have each : ∀ i, i < n → ∃ q : Rc, (ad.spot = none ∧ ∀ j u, (recC q).toList[j]? = some u → W.cell? ⟨ad.block, ad.off + i * 12 + j, none⟩ = some u) ∧ q.lsn < 18446744073709551616 ∧ q.act.key.length ≤ maxLen ∧ q.act.old.length ≤ maxLen ∧ q.act.new.length ≤ maxLen := by
      intro i hi
      obtain ⟨cs', hc, ht⟩ := hx i (by omega)
      rw [Try.cells54] at hc
      obtain ⟨_, hlc, hcc⟩ := World.cells?_some hc
      obtain ⟨q, hq, h1, h2, h3, h4⟩ := open_recL hlc ht
      have hsp : ad.spot = none := hspot (by omega)
      refine ⟨q, ⟨hsp, fun j u hu => ?_⟩, h1, h2, h3, h4⟩
      obtain ⟨ab, ao, asp⟩ := ad
      simp only at hsp
      subst hsp
      have eb : ∀ q j, (⟨ab, q, none⟩ : Addr).add j = ⟨ab, q + j, none⟩ := fun q j => by unfold Addr.add; split <;> simp_all
      have hj : j < 12 := (List.getElem?_eq_some_iff.1 hu).1
      have := hcc j hj
      rw [eb, eb] at this
      rw [this, hq]
      exact hu
    obtain ⟨q, hq⟩ := choose_lt each
    have hln : ((List.range n).map fun i => q i).length = n := by simp
    refine ⟨some ad, cap, (List.range n).map fun i => q i, by rw [hln], ⟨fun h => by simp at h, fun y hy i t ht => ?_, fun t ht => ?_⟩, by omega⟩
    · simp at hy
      subst hy
      have hi : i < n := by have := (List.getElem?_eq_some_iff.1 ht).1; omega
      simp [hi] at ht
      subst ht
      exact (hq i hi).1
    · simp at ht
      obtain ⟨i, hi, rfl⟩ := ht
      exact (hq i hi).2

end Go.Proofs.Ytamkfcdehkdcpaa
