/-
  Logs that came in: those that are nil have no room.
-/
import Derived.Test.YtnejcjebepidcaaOg
import Derived.Test.YtnejcjebepidcaaQc
namespace Go.Proofs.Ytnejcjebepidcaa
open Go.ChangeShapes Go.WideShapes Go.ChangeAt Go.RowKit Go.Deep

set_option maxRecDepth 20000 in
theorem logs_nil {H : Type} {enc : TypeId × Value → H} {W : World} {base : Nat} {spare : Nat → Bool} {held : Bool} {fuel : Nat} {a : Option Addr} {l : List (List Rc)} {c : Nat} {x : DataW H × List MemPlace}
    (hf : DataW.trod enc Try.prog W base spare held fuel 22 [.slice a l.length c] = some x) (hw : Wt x.1 22) : NilC W a l := by
  intro b o i la k lc ha hi hc hn
  rcases open_slice Try.underlying22 hf with ⟨hcs, _⟩ | ⟨ad, n, cap, m, nf, D, Ps, hcs, _, hl, hm, hmm, hxe, hx⟩
  · simp at hcs
    subst ha
    simp at hcs
  · simp at hcs
    obtain ⟨rfl, rfl, rfl⟩ := hcs
    rw [hxe] at hw
    have hlm : l.length ≤ m := by rw [hmm]; split <;> omega
    simp at ha
    subst ha
    obtain ⟨cs', hc', ht⟩ := hx i (by omega)
    rw [Try.cells26] at hc'
    obtain ⟨_, hlc, hcc⟩ := World.cells?_some hc'
    match cs', hlc with
    | [u], _ =>
      have h0 := hcc 0 (by omega)
      rw [add_plain, add_plain] at h0
      simp at h0
      rw [hc] at h0
      injection h0 with h0
      subst h0
      obtain ⟨la', lc', q, e, _, _, h3, _⟩ := open_recs ht (wt_at hw Try.underlying22 hi)
      injection e with e1 e2 e3
      subst e1 e3
      exact h3 hn

end Go.Proofs.Ytnejcjebepidcaa
