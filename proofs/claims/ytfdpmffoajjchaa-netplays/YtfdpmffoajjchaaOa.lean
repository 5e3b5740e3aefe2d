/-
  NetOrder: what stands in the rows while own messages and others are sent, taken and cut.
-/
import Derived.Test.YtfdpmffoajjchaaFr
import Derived.Test.YtfdpmffoajjchaaFu
namespace Go.Proofs.Ytfdpmffoajjchaa
open Go.RowKit Go.Conc

def ownM (x : Int) : Ms := ⟨0, x, 0, 0, false, 0, [], [], [111, 119, 110]⟩
def othM : Ms := ⟨0, 9999, 0, 0, false, 0, [], [], [111, 116, 104, 101, 114]⟩
theorem lim_own (x : Int) : Lim (ownM x) := ⟨by simp [ownM], by simp [ownM]⟩
theorem lim_oth : Lim othM := ⟨by simp [othM], by simp [othM]⟩
theorem mi_own (w : World) (x : Int) : MI w (ownM x) zeroP := mi_zero w _ rfl rfl
theorem mi_oth (w : World) : MI w othM zeroP := mi_zero w _ rfl rfl

theorem rix_inj {n k : Nat} {f t f' t' : Int} (h : rix n f t = some k) (h' : rix n f' t' = some k) : f = f' ∧ t = t' := by
  unfold rix at h h'
  repeat (split at h <;> try (simp at h))
  all_goals (repeat (split at h' <;> try (simp at h')))
  all_goals omega

structure OrdR (w W : World) (n k S T : Nat) (R : Nat → List Nat) : Prop where
  net : NetOk W w.heap.size n R
  bel : Below w.heap.size w W
  le : T ≤ S
  len : (R k).length = S - T
  own : ∀ (q b : Nat), (R k)[q]? = some b → ∃ p, W.heap[b]? = some (.cells (msC (ownM ((T : Int) + q + 1)) p) 31)
  oth : ∀ j, j < 2 * n → j ≠ k → ∀ b, b ∈ R j → ∃ p, W.heap[b]? = some (.cells (msC othM p) 31)

section
variable {w W W' : World} {n k S T : Nat} {R : Nat → List Nat}
theorem OrdR.same (h : OrdR w W n k S T R) (hN : NetOk W' w.heap.size n R) (hT : Tn w.heap.size n W W') : OrdR w W' n k S T R :=
  ⟨hN, hT.to h.bel (Nat.le_refl _) h.bel.size, h.le, h.len, fun q b hq => let ⟨p, hp⟩ := h.own q b hq; ⟨p, hT.keepC h.net _ _ _ _ hp⟩, fun j hj hk b hb => let ⟨p, hp⟩ := h.oth j hj hk b hb; ⟨p, hT.keepC h.net _ _ _ _ hp⟩⟩
theorem OrdR.below (h : OrdR w W n k S T R) (hb : Below W.heap.size W W') : OrdR w W' n k S T R := h.same (h.net.below hb) (Tn.below hb)
theorem OrdR.alloc (h : OrdR w W n k S T R) (o : Obj) : OrdR w (W.alloc o) n k S T R := h.below ((Below.refl _ _).alloc (Nat.le_refl _) _)
theorem OrdR.sendOwn (h : OrdR w W n k S T R) {b : Nat} {p : Pl} (hN : NetOk W' w.heap.size n (upd R k (R k ++ [b]))) (hM : W'.heap[b]? = some (.cells (msC (ownM ((S : Int) + 1)) p) 31)) (hT : Tn w.heap.size n W W') : OrdR w W' n k (S + 1) T (upd R k (R k ++ [b])) := by
  have hle := h.le
  have hlen := h.len
  refine ⟨hN, hT.to h.bel (Nat.le_refl _) h.bel.size, by omega, by rw [upd_same]; simp; omega, fun q c hq => ?_, fun j hj hk c hc => ?_⟩
  · rw [upd_same] at hq
    by_cases e : q < (R k).length
    · rw [List.getElem?_append_left e] at hq
      obtain ⟨p', hp⟩ := h.own q c hq
      exact ⟨p', hT.keepC h.net _ _ _ _ hp⟩
    · rw [List.getElem?_append_right (by omega)] at hq
      have e1 : q - (R k).length = 0 := by
        have := (List.getElem?_eq_some_iff.1 hq).1
        simp at this
        omega
      rw [e1] at hq
      simp at hq
      subst hq
      have e2 : (T : Int) + q + 1 = (S : Int) + 1 := by omega
      exact ⟨p, by rw [e2]; exact hM⟩
  · rw [upd_other _ _ _ _ hk] at hc
    obtain ⟨p', hp⟩ := h.oth j hj hk c hc
    exact ⟨p', hT.keepC h.net _ _ _ _ hp⟩
theorem OrdR.sendOth (h : OrdR w W n k S T R) {i b : Nat} {p : Pl} (hi : i ≠ k) (hN : NetOk W' w.heap.size n (upd R i (R i ++ [b]))) (hM : W'.heap[b]? = some (.cells (msC othM p) 31)) (hT : Tn w.heap.size n W W') : OrdR w W' n k S T (upd R i (R i ++ [b])) := by
  refine ⟨hN, hT.to h.bel (Nat.le_refl _) h.bel.size, h.le, by rw [upd_other _ _ _ _ hi.symm]; exact h.len, fun q c hq => ?_, fun j hj hk c hc => ?_⟩
  · rw [upd_other _ _ _ _ hi.symm] at hq
    obtain ⟨p', hp⟩ := h.own q c hq
    exact ⟨p', hT.keepC h.net _ _ _ _ hp⟩
  · by_cases e : j = i
    · subst e
      rw [upd_same] at hc
      rcases List.mem_append.1 hc with hc | hc
      · obtain ⟨p', hp⟩ := h.oth j hj hk c hc
        exact ⟨p', hT.keepC h.net _ _ _ _ hp⟩
      · simp at hc
        subst hc
        exact ⟨p, hM⟩
    · rw [upd_other _ _ _ _ e] at hc
      obtain ⟨p', hp⟩ := h.oth j hj hk c hc
      exact ⟨p', hT.keepC h.net _ _ _ _ hp⟩
theorem OrdR.takeOwn (h : OrdR w W n k S T R) {b : Nat} {l : List Nat} (he : R k = b :: l) (hN : NetOk W' w.heap.size n (upd R k l)) (hT : Tn w.heap.size n W W') : OrdR w W' n k S (T + 1) (upd R k l) := by
  have hle := h.le
  have hlen := h.len
  rw [he] at hlen
  simp at hlen
  refine ⟨hN, hT.to h.bel (Nat.le_refl _) h.bel.size, by omega, by rw [upd_same]; omega, fun q c hq => ?_, fun j hj hk c hc => ?_⟩
  · rw [upd_same] at hq
    obtain ⟨p', hp⟩ := h.own (q + 1) c (by rw [he]; simpa using hq)
    have e2 : (T : Int) + ((q + 1 : Nat) : Int) + 1 = ((T + 1 : Nat) : Int) + q + 1 := by omega
    rw [e2] at hp
    exact ⟨p', hT.keepC h.net _ _ _ _ hp⟩
  · rw [upd_other _ _ _ _ hk] at hc
    obtain ⟨p', hp⟩ := h.oth j hj hk c hc
    exact ⟨p', hT.keepC h.net _ _ _ _ hp⟩
/-- Rows of others that have lost something. -/
theorem OrdR.less (h : OrdR w W n k S T R) {R' : Nat → List Nat} (hk' : R' k = R k) (hsub : ∀ j, j < 2 * n → ∀ b, b ∈ R' j → b ∈ R j) (hN : NetOk W' w.heap.size n R') (hT : Tn w.heap.size n W W') : OrdR w W' n k S T R' := by
  refine ⟨hN, hT.to h.bel (Nat.le_refl _) h.bel.size, h.le, by rw [hk']; exact h.len, fun q c hq => ?_, fun j hj hk c hc => ?_⟩
  · rw [hk'] at hq
    obtain ⟨p', hp⟩ := h.own q c hq
    exact ⟨p', hT.keepC h.net _ _ _ _ hp⟩
  · obtain ⟨p', hp⟩ := h.oth j hj hk c (hsub j hj c hc)
    exact ⟨p', hT.keepC h.net _ _ _ _ hp⟩
theorem OrdR.takeOth (h : OrdR w W n k S T R) {i b : Nat} {l : List Nat} (hi : i ≠ k) (he : R i = b :: l) (hN : NetOk W' w.heap.size n (upd R i l)) (hT : Tn w.heap.size n W W') : OrdR w W' n k S T (upd R i l) :=
  h.less (upd_other _ _ _ _ hi.symm) (fun j _ c hc => by
    by_cases e : j = i
    · subst e
      rw [upd_same] at hc
      rw [he]
      exact List.mem_cons_of_mem _ hc
    · rw [upd_other _ _ _ _ e] at hc
      exact hc) hN hT
theorem OrdR.cut (h : OrdR w W n k S T R) {p : Int} (hp : 1 ≤ p → p ≤ n → k ≠ p.toNat - 1 ∧ k ≠ n + (p.toNat - 1)) (hN : NetOk W' w.heap.size n (cutR n R p)) (hT : Tn w.heap.size n W W') : OrdR w W' n k S T (cutR n R p) := by
  refine h.less ?_ (fun j _ c hc => ?_) hN hT
  · unfold cutR
    split
    · rename_i hh
      obtain ⟨h1, h2⟩ := hp hh.1 hh.2
      rw [upd_other _ _ _ _ h2, upd_other _ _ _ _ h1]
    · rfl
  · unfold cutR at hc
    split at hc
    · unfold upd at hc
      split at hc
      · simp at hc
      · split at hc
        · simp at hc
        · exact hc
    · exact hc
end

theorem OrdR.new {w W : World} {n k : Nat} (hN : NetOk W w.heap.size n (fun _ => [])) (hB : Below w.heap.size w W) : OrdR w W n k 0 0 (fun _ => []) :=
  ⟨hN, hB, Nat.le_refl _, rfl, fun q b hq => by simp at hq, fun j _ _ b hb => by simp at hb⟩

end Go.Proofs.Ytfdpmffoajjchaa
