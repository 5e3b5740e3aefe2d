/-
  Save and Drop, whatever they answer: nothing of another transaction changes.
-/
import Derived.Test.YticadfaclnimgaaRw
import Derived.Deep.CutBlock
namespace Go.Proofs.Yticadfaclnimgaa
open Go.RowKit Go.Maps

/-- All transactions have numbers that can be. -/
def KeysW (f : Int → Option Tn) : Prop := ∀ t x, f t = some x → Wt t
/-- Nothing but one transaction has turned. -/
def Oth (f : Int → Option Tn) (t : Int) (f' : Int → Option Tn) : Prop := (∀ u, u ≠ t → f' u = f u) ∧ (KeysW f → KeysW f')
theorem Oth.refl (f : Int → Option Tn) (t : Int) : Oth f t f := ⟨fun _ _ => rfl, fun h => h⟩
theorem Oth.upd {f : Int → Option Tn} {t : Int} {x : Tn} (hx : f t = some x) (o : Option Tn) : Oth f t (upd f t o) := by
  refine ⟨fun u hu => upd_other _ _ hu, fun h u y hy => ?_⟩
  by_cases e : u = t
  · rw [e]; exact h t x hx
  · rw [upd_other _ _ e] at hy; exact h u y hy
theorem oth_open (f : Int → Option Tn) (t : Int) : Oth f t (openF f t) := by
  unfold openF
  split
  · rename_i h
    refine ⟨fun u hu => upd_other _ _ hu, fun hk u y hy => ?_⟩
    by_cases e : u = t
    · unfold openE at h
      split at h
      · rename_i hr
        rw [e]
        exact wt_of (by omega) (by omega)
      · cases h
    · rw [upd_other _ _ e] at hy; exact hk u y hy
  · exact Oth.refl _ _
theorem oth_note (f : Int → Option Tn) (r : Rc) : Oth f r.txn (noteF f r) := by
  by_cases h : noteE (f r.txn) r = 0
  · obtain ⟨x, hx⟩ := Option.isSome_iff_exists.1 ((by
      cases e : f r.txn with
      | none =>
        rw [e] at h
        unfold noteE at h
        split at h <;> simp at h
      | some x => rfl) : (f r.txn).isSome = true)
    unfold noteF
    rw [if_pos h]
    exact Oth.upd hx _
  · rw [note_same h]; exact Oth.refl _ _
theorem oth_gone (f : Int → Option Tn) (t : Int) : Oth f t (upd f t none) := by
  refine ⟨fun u hu => upd_other _ _ hu, fun h u y hy => ?_⟩
  by_cases e : u = t
  · rw [e, upd_same] at hy; cases hy
  · rw [upd_other _ _ e] at hy; exact h u y hy

/-- What is left where only one transaction may have turned. -/
def Turns (w : World) (B T A : Nat) (K : List Lit) (M : Nat) (σ : Sg) (t : Int) (w' : World) : Prop := ∃ σ', Tb w' B T A K M σ' ∧ Step A w σ w' σ' ∧ Oth σ.f t σ'.f
def AnyP (w : World) (B T A : Nat) (K : List Lit) (M : Nat) (σ : Sg) (t : Int) (e : Ending) (w' : World) : Prop := ∃ n z : Int, e = .returned (.tuple #[.int .i64 n, .int .i64 z]) ∧ Turns w B T A K M σ t w'
def AnyE (w : World) (B T A : Nat) (K : List Lit) (M : Nat) (σ : Sg) (t : Int) (e : Ending) (w' : World) : Prop := ∃ z : Int, e = .returned (.int .i64 z) ∧ Turns w B T A K M σ t w'

section
variable {w : World} {B T A M : Nat} {K : List Lit} {σ : Sg} {t : Int}
theorem Turns.same (h : Tb w B T A K M σ) : Turns w B T A K M σ t w := ⟨σ, h, Step.refl _ _ _, Oth.refl _ _⟩
theorem save20 (h : Tb w B T A K M σ) (ht : Wt t) : Calls Try.prog 20 #[.pointer (some ⟨T, 0, none⟩), .int .i64 t] w fun e w' => AnyP w B T A K M σ t e w' := by
  cases hx : σ.f t with
  | none => exact (save_none h ht hx).mono (by rintro e w' ⟨rfl, rfl⟩; exact ⟨_, _, rfl, Turns.same h⟩)
  | some x =>
    by_cases hs : x.st = 0
    · have hl := (h.lim t x hx).2
      by_cases h4 : x.saves.length = 4
      · exact (save_full h ht hx hs h4).mono (by rintro e w' ⟨rfl, rfl⟩; exact ⟨_, _, rfl, Turns.same h⟩)
      · exact (save_ok h ht hx hs (by omega)).mono (by rintro e w' ⟨rfl, v, h1, h2⟩; exact ⟨_, _, rfl, _, h1, h2, Oth.upd hx _⟩)
    · exact (save_state h ht hx hs).mono (by rintro e w' ⟨rfl, rfl⟩; exact ⟨_, _, rfl, Turns.same h⟩)
theorem drop21 (h : Tb w B T A K M σ) (ht : Wt t) (n : Int) : Calls Try.prog 21 #[.pointer (some ⟨T, 0, none⟩), .int .i64 t, .int .i64 n] w fun e w' => AnyE w B T A K M σ t e w' := by
  by_cases hs : hasS σ t n
  · obtain ⟨x, hx, h1, h2⟩ := hs
    obtain ⟨m, rfl⟩ : ∃ m : Nat, n = (m : Int) := ⟨n.toNat, by omega⟩
    exact (drop_yes h ht hx (by omega)).mono (by rintro e w' ⟨rfl, v, h1, h2⟩; exact ⟨_, rfl, _, h1, h2, Oth.upd hx _⟩)
  · exact (drop_no h ht hs).mono (by rintro e w' ⟨rfl, rfl⟩; exact ⟨_, rfl, Turns.same h⟩)
end

/-! What rows tell. -/
theorem rowsL_mem {f : Int → Option Tn} {ts : List Int} {p : Int × Tn} (h : p ∈ rowsL f ts) : p.2.last ≠ 0 := by
  unfold rowsL at h
  obtain ⟨t, ht, he⟩ := List.mem_filterMap.1 h
  split at he
  · split at he
    · cases he
    · cases he; assumption
  · cases he
theorem rowsL_rise {f : Int → Option Tn} {ts : List Int} (h : ts.Pairwise (· < ·)) : (rowsL f ts).Pairwise (fun a b => a.1 < b.1) := by
  unfold rowsL
  rw [List.pairwise_filterMap]
  refine h.imp fun {a b} hab x hx y hy => ?_
  split at hx
  · split at hx
    · cases hx
    · cases hx
      split at hy
      · split at hy
        · cases hy
        · cases hy; exact hab
      · cases hy
  · cases hx
theorem rcells_get (l : List (Int × Tn)) (j : Nat) (hj : j < l.length) : (rcells l)[j * 3]? = some (.int .i64 l[j].1) ∧ (rcells l)[j * 3 + 1]? = some (.int .i64 l[j].2.st) ∧ (rcells l)[j * 3 + 2]? = some (.int .u64 (l[j].2.last : Int)) := by
  induction l generalizing j with
  | nil => simp at hj
  | cons a r ih =>
    cases j with
    | zero => exact ⟨rfl, rfl, rfl⟩
    | succ j =>
      have := ih j (by simpa using hj)
      have e : ∀ i, (rcells (a :: r))[i + 3]? = (rcells r)[i]? := fun i => by simp [rcells]
      rw [show (j + 1) * 3 = j * 3 + 3 by omega, show j * 3 + 3 + 1 = (j * 3 + 1) + 3 by omega, show j * 3 + 3 + 2 = (j * 3 + 2) + 3 by omega, e, e, e]
      simpa using this
end Go.Proofs.Yticadfaclnimgaa
