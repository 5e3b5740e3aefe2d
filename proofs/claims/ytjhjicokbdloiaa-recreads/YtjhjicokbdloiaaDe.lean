/-
  The walk of Decode.
-/
import Derived.Test.YtjhjicokbdloiaaTa
namespace Go.Proofs.Ytjhjicokbdloiaa
open Go.RowKit

/-- Twelve stores into a block. -/
abbrev put12 (W : World) (n : Nat) (v0 v1 v2 v3 v4 v5 v6 v7 v8 v9 v10 v11 : Value) : World := ((((((((((((W.setCell ⟨n, 0, none⟩ v0).setCell ⟨n, 1, none⟩ v1).setCell ⟨n, 2, none⟩ v2).setCell ⟨n, 3, none⟩ v3).setCell ⟨n, 4, none⟩ v4).setCell ⟨n, 5, none⟩ v5).setCell ⟨n, 6, none⟩ v6).setCell ⟨n, 7, none⟩ v7).setCell ⟨n, 8, none⟩ v8).setCell ⟨n, 9, none⟩ v9).setCell ⟨n, 10, none⟩ v10).setCell ⟨n, 11, none⟩ v11)

/-- Are some bytes a record's? -/
def decK (l : List UInt8) : Bool := endB (l, 0) && mayB (rawS (l, 0)).2
def decR (l : List UInt8) : Rc := if decK l then (rawS (l, 0)).2 else Rc.zero
def decE (l : List UInt8) : Int := if decK l then 0 else 5

theorem dcatch_panicking (n m : Nat) (x : Int) (z0 z1 z2 z3 z4 z5 z6 z7 z8 z9 z10 z11 : Value) (older : List PanicEntry) (w : World) (h : w.heap[n]? = some (.cells #[z0, z1, z2, z3, z4, z5, z6, z7, z8, z9, z10, z11] 31)) (hm : w.heap[m]? = some (.cells #[.int .i64 x] 35)) (_hnm : n ≠ m) :
    CallsD Try.prog 44 #[.pointer (some ⟨n, 0, none⟩), .pointer (some ⟨m, 0, none⟩)] (.panicking (noRec :: older)) w fun e u' w' =>
      e = .returned (.tuple #[]) ∧ u' = .panicking ({ noRec with recovered := true } :: older) ∧ w' = (put12 w n (.int .i64 0) (.int .u64 0) (.int .i64 0) (.int .u64 0) (.int .u64 0) (.int .i64 0) (.int .i64 0) (.string ⟨#[]⟩) (.string ⟨#[]⟩) (.string ⟨#[]⟩) (.slice none 0 0) (.slice none 0 0)).setCell ⟨m, 0, none⟩ (.int .i64 5) := by
  obtain ⟨⟨q0, q1, q2, q3, q4, q5, q6, q7, q8, q9, q10, q11⟩, hf⟩ := rw_cells h
  have hc := cell_of_one hm
  have hz := free_of_one hm
  refine callsD_of_wpS Try.func44 rfl fun c₀ cs hu => ?_
  apply wpS_seq
  apply wpS_region
  simp [wpOpsS, go_sem, recoverD, hu, Try.ntmps44, Exit.thenS, noRec]
  refine wpS_cond (t := true) (by simp [Act.eval, Array.replicate]) ?_
  simp only [if_true]
  apply wpS_region
  simp [wpOpsS, go_sem, hc, hz, bodyPostS, results, Try.results44, q0, q1, q2, q3, q4, q5, q6, q7, q8, q9, q10, q11, hf]

theorem dcatch_idle (p q : Addr) (w : World) :
    CallsD Try.prog 44 #[.pointer (some p), .pointer (some q)] .returning w fun e u' w' => e = .returned (.tuple #[]) ∧ u' = .returning ∧ w' = w := by
  refine callsD_of_wpS Try.func44 rfl fun c₀ cs hu => ?_
  apply wpS_seq
  apply wpS_region
  simp [wpOpsS, go_sem, recoverD, hu, Try.ntmps44, Exit.thenS]
  refine wpS_cond (t := false) (by simp [Act.eval, Array.replicate]) ?_
  simp only [Bool.false_eq_true, if_false]
  refine wpS_of_wp (wp_skip ?_)
  cases c₀
  simp_all [bodyPostS, results, Try.results44]

theorem txsC_at (l : List Tx) (i : Nat) (t : Tx) (h : l[i]? = some t) : (txsC l)[i * 3]? = some (.int .i64 t.id) ∧ (txsC l)[i * 3 + 1]? = some (.int .i64 t.st) ∧ (txsC l)[i * 3 + 2]? = some (.int .u64 (t.last : Nat)) := by
  induction l generalizing i with
  | nil => simp at h
  | cons a r ih =>
    cases i with
    | zero =>
      simp at h
      subst h
      simp [txsC, txC]
    | succ i =>
      have := ih i (by simpa using h)
      have e : ∀ j, (txsC (a :: r))[(i + 1) * 3 + j]? = (txsC r)[i * 3 + j]? := by
        intro j
        show (txC a ++ txsC r)[(i + 1) * 3 + j]? = _
        rw [List.getElem?_append_right (by simp [txC]; omega)]
        congr 1
        simp [txC]
        omega
      exact ⟨(e 0).trans this.1, (e 1).trans this.2.1, (e 2).trans this.2.2⟩
theorem disC_at (l : List Di) (i : Nat) (t : Di) (h : l[i]? = some t) : (disC l)[i * 2]? = some (.int .i64 t.page) ∧ (disC l)[i * 2 + 1]? = some (.int .u64 (t.lsn : Nat)) := by
  induction l generalizing i with
  | nil => simp at h
  | cons a r ih =>
    cases i with
    | zero =>
      simp at h
      subst h
      simp [disC, diC]
    | succ i =>
      have := ih i (by simpa using h)
      have e : ∀ j, (disC (a :: r))[(i + 1) * 2 + j]? = (disC r)[i * 2 + j]? := by
        intro j
        show (diC a ++ disC r)[(i + 1) * 2 + j]? = _
        rw [List.getElem?_append_right (by simp [diC]; omega)]
        congr 1
        simp [diC]
        omega
      exact ⟨(e 0).trans this.1, (e 1).trans this.2⟩

theorem slT_of_own {w : World} {D : Nat} {a : Option Addr} {n c : Nat} {l : List Tx} (h : w.ownsRow D 71 3 (.slice a n c) l.length (txsC l)) : SlT w a l ∧ l.length ≤ maxLen := by
  rcases h.2 with ⟨h1, h2⟩ | ⟨g, cap, cur, h1, hB, hh, hc, hm, _⟩
  · simp at h1
    obtain ⟨rfl, rfl, rfl⟩ := h1
    have : l = [] := List.eq_nil_of_length_eq_zero h2
    subst this
    exact ⟨⟨fun _ => rfl, fun x hx => by simp at hx⟩, by simp⟩
  · simp at h1
    obtain ⟨rfl, rfl, rfl⟩ := h1
    refine ⟨⟨fun h => by simp at h, fun x hx i t ht => ?_⟩, by omega⟩
    simp at hx
    subst hx
    obtain ⟨e0, e1, e2⟩ := txsC_at l i t ht
    have ea : ∀ j, (⟨g, 0, none⟩ : Addr).add j = ⟨g, 0 + j, none⟩ := fun j => by unfold Addr.add; split <;> simp_all
    have f := fun j u hu => (ea j) ▸ h.cells (g := g) rfl j u hu
    refine ⟨rfl, f _ _ e0, ?_, ?_⟩
    · have := f _ _ e1; simpa [Nat.add_assoc] using this
    · have := f _ _ e2; simpa [Nat.add_assoc] using this
theorem slD_of_own {w : World} {D : Nat} {a : Option Addr} {n c : Nat} {l : List Di} (h : w.ownsRow D 73 2 (.slice a n c) l.length (disC l)) : SlD w a l ∧ l.length ≤ maxLen := by
  rcases h.2 with ⟨h1, h2⟩ | ⟨g, cap, cur, h1, hB, hh, hc, hm, _⟩
  · simp at h1
    obtain ⟨rfl, rfl, rfl⟩ := h1
    have : l = [] := List.eq_nil_of_length_eq_zero h2
    subst this
    exact ⟨⟨fun _ => rfl, fun x hx => by simp at hx⟩, by simp⟩
  · simp at h1
    obtain ⟨rfl, rfl, rfl⟩ := h1
    refine ⟨⟨fun h => by simp at h, fun x hx i t ht => ?_⟩, by omega⟩
    simp at hx
    subst hx
    obtain ⟨e0, e1⟩ := disC_at l i t ht
    have ea : ∀ j, (⟨g, 0, none⟩ : Addr).add j = ⟨g, 0 + j, none⟩ := fun j => by unfold Addr.add; split <;> simp_all
    have f := fun j u hu => (ea j) ▸ h.cells (g := g) rfl j u hu
    refine ⟨rfl, f _ _ e0, ?_⟩
    have := f _ _ e1
    simpa [Nat.add_assoc] using this

end Go.Proofs.Ytjhjicokbdloiaa
