/-
  NetPlays: the program's rows and the document's items side by side.
-/
import Derived.Test.YtfdpmffoajjchaaPd
import Derived.Test.YtfdpmffoajjchaaPc
import Derived.Test.YtfdpmffoajjchaaOq
namespace Go.Proofs.Ytfdpmffoajjchaa
open Go.RowKit Go.Conc

/-- What other lists being written over leaves. -/
theorem Own.spo {W W' : World} {B C : Nat} {m m' : Ms} {p q : Pl} (h : Own W B m p) (hq : Own W C m' q) (hs : Spo q W W') (hd : Disj p q) : Own W' B m p := by
  refine ⟨own_stay h.ow (fun k c hk hc => ?_), own_stay h.op (fun k c hk hc => ?_)⟩
  · refine hs.keep k (Array.getElem?_eq_some_iff.1 hc).1 (fun x hx e => ?_) (fun x hx e => ?_)
    · rcases own_addr h.ow with ⟨e1, _⟩ | ⟨g, cur, e1, _, hg, _⟩
      · rw [e1] at hk; simp [Value.ownBlock] at hk
      · rw [e1] at hk
        simp [Value.ownBlock] at hk
        exact hd.1 _ x e1 hx (by simp [hk, e])
    · rcases own_addr hq.op with ⟨e1, _⟩ | ⟨g, cur, e1, _, hg, _⟩
      · rw [e1] at hx; simp at hx
      · rw [e1] at hx
        simp at hx
        subst hx
        exact kind_ne hc hg (by decide) e
  · refine hs.keep k (Array.getElem?_eq_some_iff.1 hc).1 (fun x hx e => ?_) (fun x hx e => ?_)
    · rcases own_addr hq.ow with ⟨e1, _⟩ | ⟨g, cur, e1, _, hg, _⟩
      · rw [e1] at hx; simp at hx
      · rw [e1] at hx
        simp at hx
        subst hx
        exact kind_ne hc hg (by decide) e
    · rcases own_addr h.op with ⟨e1, _⟩ | ⟨g, cur, e1, _, hg, _⟩
      · rw [e1] at hk; simp [Value.ownBlock] at hk
      · rw [e1] at hk
        simp [Value.ownBlock] at hk
        exact hd.2 _ x e1 hx (by simp [hk, e])
/-- A block of another type stays. -/
theorem Spo.other {W W' : World} {C : Nat} {m' : Ms} {q : Pl} (hq : Own W C m' q) (hs : Spo q W W') {k t : Nat} {c : Array Value} (hc : W.heap[k]? = some (.cells c t)) (h1 : t ≠ 71) (h2 : t ≠ 3) : W'.heap[k]? = some (.cells c t) := by
  refine (hs.keep k (Array.getElem?_eq_some_iff.1 hc).1 (fun x hx e => ?_) (fun x hx e => ?_)).trans hc
  · rcases own_addr hq.ow with ⟨e1, _⟩ | ⟨g, cur, e1, _, hg, _⟩
    · rw [e1] at hx; simp at hx
    · rw [e1] at hx
      simp at hx
      subst hx
      exact kind_ne hc hg h1 e
  · rcases own_addr hq.op with ⟨e1, _⟩ | ⟨g, cur, e1, _, hg, _⟩
    · rw [e1] at hx; simp at hx
    · rw [e1] at hx
      simp at hx
      subst hx
      exact kind_ne hc hg h2 e
/-- The net's blocks hold no lists. -/
theorem net_none {W : World} {s n k t : Nat} {R : Nat → List Nat} {c : Array Value} (h : NetOk W s n R) (h1 : s ≤ k) (h2 : k ≤ s + 2 * n + 2) (hc : W.heap[k]? = some (.cells c t)) (h66 : t ≠ 66) (h63 : t ≠ 63) : False := by
  by_cases e1 : k = s
  · subst e1
    exact kind_ne hc h.up h66 rfl
  · by_cases e2 : k = s + n + 1
    · subst e2
      exact kind_ne hc h.down h66 rfl
    · by_cases e3 : k = s + 2 * n + 2
      · subst e3
        exact kind_ne hc h.net h63 rfl
      · by_cases e4 : k ≤ s + n
        · exact h.cells hc (k - (s + 1)) (by omega) (by unfold chb; rw [if_pos (by omega)]; omega)
        · exact h.cells hc (k - (s + 2)) (by omega) (by unfold chb; rw [if_neg (by omega)]; omega)
theorem Spo.net {W W' : World} {C s n : Nat} {m' : Ms} {q : Pl} {R : Nat → List Nat} (hq : Own W C m' q) (hs : Spo q W W') (h : NetOk W s n R) : NetOk W' s n R := by
  have key : ∀ k, s ≤ k → k ≤ s + 2 * n + 2 → W'.heap[k]? = W.heap[k]? := by
    intro k h1 h2
    refine hs.keep k (by have := h.lt; omega) (fun x hx e => ?_) (fun x hx e => ?_)
    · rcases own_addr hq.ow with ⟨e1, _⟩ | ⟨g, cur, e1, _, hg, _⟩
      · rw [e1] at hx; simp at hx
      · rw [e1] at hx
        simp at hx
        subst hx
        simp only at e
        subst e
        exact net_none h h1 h2 hg (by decide) (by decide)
    · rcases own_addr hq.op with ⟨e1, _⟩ | ⟨g, cur, e1, _, hg, _⟩
      · rw [e1] at hx; simp at hx
      · rw [e1] at hx
        simp at hx
        subst hx
        simp only at e
        subst e
        exact net_none h h1 h2 hg (by decide) (by decide)
  exact h.keep key

end Go.Proofs.Ytfdpmffoajjchaa
