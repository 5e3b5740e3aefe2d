/-
  step (12): one step on both.
-/
import Derived.Test.YtdlanenbbmnbhaaEh
import Derived.Test.YtdlanenbbmnbhaaEg
import Derived.Test.YtdlanenbbmnbhaaMb
import Derived.Test.YtdlanenbbmnbhaaCs
namespace Go.Proofs.Ytdlanenbbmnbhaa
open Go.RowKit

theorem SlI.oneq {w w' : World} {q : Nat} {M : Array Value} {a : Option Addr} {l : List Int} (h : SlI w a l) (ho : One q w w') (hq : w.heap[q]? = some (.cells M 63)) : SlI w' a l := by
  by_cases hw : l = []
  · rw [hw]; exact SlI.nil _ _
  · exact h.one ho (fun x hx e => by
      obtain ⟨M2, hM2⟩ := h.typ x hx hw
      rw [e, hq] at hM2
      injection hM2 with hM2
      injection hM2 with h3 h4
      exact absurd h4 (by decide))
theorem Bk.blk {w : World} {p q : Nat} {l : List Lf} (h : Bk w p q l) : ∃ M, w.heap[q]? = some (.cells M 63) := by
  obtain ⟨A, C, c, h⟩ := h
  exact h.blk
/-- What a step leaves. -/
def StepR (p q : Nat) (w : World) (l : List Lf) (e : Ending) (w' : World) : Prop := ∃ v L, e = .returned (.tuple #[v, .bool true]) ∧ Bk w' p q l ∧ Dl w' v L ∧ pls L = l ∧ One q w w'

/-- Both have been asked: what is told is the same. -/
structure Both (p q : Nat) (w w' : World) (l : List Lf) (v vo va : Value) (L : List Pl) (os : List Od) : Prop where
  bk : Bk w' p q l
  dl : Dl w' v L
  pl : pls L = l
  one : One q w w'
  doc : ∃ a c, vo = .slice a os.length c ∧ SlD w' a os
  own : ∃ a c, va = .slice a os.length c ∧ SlD w' a os
theorem Both.of {p q : Nat} {w w2 w3 : World} {l0 : List Lf} {v vo va : Value} {L : List Pl} {r : List Lf × List Od × Int} (hb : Bk w2 p q l0) (h2 : Below w.heap.size w w2) (hd : Dl w2 v L) (hp : pls L = r.1) (ho : OrdA w2 vo r.2.1) (hq : OrdR w2 w3 va r.2.1) (hb3 : Bk w3 p q r.1) (h3 : One q w2 w3) : Both p q w w3 r.1 v vo va L r.2.1 := by
  obtain ⟨M, hM⟩ := hb.blk
  refine ⟨hb3, hd.one h3 hM (by decide) (by decide), hp, (One.of h2).trans h3, (ho.one h3 hM (by decide)).sl, ?_⟩
  obtain ⟨a, c, rfl, hs, -⟩ := hq
  exact ⟨a, c, rfl, hs⟩
theorem serve_olen (i : Int) (x : Lf) : (serveF i x).2.length ≤ 100 := by
  have h1 : ∀ y, (giveF i y).2.length ≤ 1 := fun y => by
    unfold giveF
    split
    · simp
    · split <;> simp
  have h2 : ∀ y, (callF i y).2.length ≤ 1 := fun y => by
    unfold callF
    split
    · simp
    · split <;> simp
  unfold serveF
  simp only [List.length_append]
  have := h1 x
  have := h2 (giveF i x).1
  omega
theorem need_olen (l : List Lf) (p k : Int) : (needL l p k).2.1.length ≤ 100 := by
  unfold needL
  split
  · simp
  · split
    · simp
    · exact serve_olen _ _
theorem back_olen (l : List Lf) (p k : Int) : (backL l p k).2.1.length ≤ 100 := by
  unfold backL
  split
  · simp
  · split
    · simp
    · exact serve_olen _ _
theorem mend_olen (l : List Lf) (p : Int) : (mendL l p).2.1.length ≤ 100 := by
  unfold mendL
  split
  · simp
  · split
    · simp
    · exact serve_olen _ _
theorem same_row {W : World} {a b : Option Addr} {l : List Int} (c d : Nat) (h : SlI W a l) (hm : SlI W b l) (hl : l.length ≤ 100) : Calls Try.prog 24 #[.slice a l.length c, .slice b l.length d] W fun e w' => e = .returned (.bool true) ∧ Below W.heap.size W w' := by
  have := same24 (c := c) (d := d) h hm (by omega) (by omega)
  simpa using this
end Go.Proofs.Ytdlanenbbmnbhaa
