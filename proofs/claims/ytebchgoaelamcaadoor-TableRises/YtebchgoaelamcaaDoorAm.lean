/-
  Three texts that came in, opened.
-/
import Derived.Test.YtebchgoaelamcaaDoorAg
namespace Go.Proofs.YtebchgoaelamcaaDoor
open Go.ChangeShapes Go.WideShapes Go.ChangeAt Go.RowKit Go.Deep
theorem Tryd.cells70 : Tryd.prog.cellsOf 70 = 3 := by kernel_rfl
theorem okWide_array {P : Program} {w : World} {r : Reach} {base : Nat} {t : TypeId} {v : Value} {n : Nat} {e : TypeId} (ht : P.underlying t = some (.array n e)) (h : Value.okWide P w r base t v) : ∃ cs, v = .agg cs ∧ cs.size = P.cellsOf t := by
  simp only [Value.okWide, ht] at h
  obtain ⟨cs, h1, h2, _⟩ := h
  exact ⟨cs, h1, h2⟩
set_option maxRecDepth 20000 in
theorem open_ends {H : Type} {enc : TypeId × Value → H} {W : World} {base : Nat} {spare : Nat → Bool} {held : Bool} {fuel : Nat} {cs : Array Value} {x : DataW H × List MemPlace} (hsz : cs.size = 3)
    (hf : DataW.trod enc Tryd.prog W base spare held fuel 70 cs.toList = some x) : ∃ a b c : List UInt8, cs = #[.string (txt a), .string (txt b), .string (txt c)] ∧ a.length ≤ maxLen ∧ b.length ≤ maxLen ∧ c.length ≤ maxLen := by
  obtain ⟨l⟩ := cs
  simp at hsz
  match l, hsz with
  | [v0, v1, v2], _ =>
    obtain ⟨xs, m, _, _, _, hl, hel⟩ := DataW.trod_array Tryd.underlying70 hf
    have h0 := hel 0 (by omega)
    have h1 := hel 1 (by omega)
    have h2 := hel 2 (by omega)
    rw [List.getElem?_eq_getElem (by omega)] at h0 h1 h2
    obtain ⟨s0, q0, _, w0⟩ := DataW.trod_string Tryd.underlying9 h0
    obtain ⟨s1, q1, _, w1⟩ := DataW.trod_string Tryd.underlying9 h1
    obtain ⟨s2, q2, _, w2⟩ := DataW.trod_string Tryd.underlying9 h2
    simp [Tryd.cells9] at q0 q1 q2
    subst q0 q1 q2
    exact ⟨s0.data.toList, s1.data.toList, s2.data.toList, by rw [txt_of, txt_of, txt_of], by rw [len_of]; exact w0, by rw [len_of]; exact w1, by rw [len_of]; exact w2⟩
end Go.Proofs.YtebchgoaelamcaaDoor
