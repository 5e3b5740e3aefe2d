/-
  small; regions that draw their order, whose last operations come in their order whatever is drawn.
-/
import Derived.Test.YtfdpmffoajjchaaFr
import Derived.StillTail
namespace Go.Proofs.Ytfdpmffoajjchaa
open Go.RowKit Go.Conc

theorem Try.mixed : Try.prog.follows .mixedOrders = true := by kernel_rfl

theorem wpStill_of_quiet {P : Program} {ops : Array Oper} {W : World} {Q : Act → Prop} : ∀ (l : List Oper) (a : Act), wpQuiet P ops (fun w' => w' = W) Q l a → wpStill P ops W Q l a := by
  intro l
  induction l with
  | nil => exact fun a h => h
  | cons o rest ih =>
    intro a h
    simp only [wpQuiet, wpStill] at *
    split
    · rename_i hw
      rw [if_pos hw] at h
      obtain ⟨v, h1, h2⟩ := h
      have h3 := h1 W rfl
      unfold Oper.quietAt Oper.quietUpon at h3
      unfold Oper.still Oper.stillUpon
      split at h3
      · rename_i e; rw [e]; exact ⟨h3.1, h3.2 ▸ ih _ h2⟩
      · rename_i e; rw [e]; exact ⟨h3.1, h3.2 ▸ ih _ h2⟩
      · rename_i e; rw [e]; exact ⟨h3.1, v, h3.2, ih _ h2⟩
      · exact h3.elim
    · rename_i hw
      rw [if_neg hw] at h
      exact ih _ h

theorem wp_region_quiet_tail {P : Program} {id : Nat} {Q : Exit → Act → World → Prop} {a : Act} {w : World} {l : List Oper} (n : Nat) (hm : P.follows .mixedOrders = true) (hB : Region.lexTailB .any l.toArray n = true)
    (h : wpQuiet P l.toArray (fun w' => w' = w.drew) (fun a' => wpList P l.toArray Q (l.drop n) a' w.drew) (l.take n) a) : (Code.region id l.toArray true).wp P Q a w :=
  wp_region_still_tail n hm hB (wpStill_of_quiet _ _ h)

def Small (m : Ms) : Prop := m.wants.length ≤ 50 ∧ m.pages.length ≤ 50 ∧ m.body.length ≤ 2000
instance (m : Ms) : Decidable (Small m) := by unfold Small; infer_instance
theorem Small.lim {m : Ms} (h : Small m) : Lim m := ⟨by have := h.1; omega, by have := h.2.1; omega⟩
theorem txt_size (l : List UInt8) : (txt l).size = l.length := by simp [txt, ByteArray.size]

set_option maxRecDepth 100000 in
theorem small19 (m : Ms) (p : Pl) (w : World) : Calls Try.prog 19 #[msV m p] w fun e w' => e = .returned (.bool (decide (Small m))) ∧ Below w.heap.size w w' := by
  have HB : Hid (Below w.heap.size w (w.alloc (.cells (msC m p) 31))) := (Below.refl _ _).alloc (Nat.le_refl _) _
  obtain ⟨q0, q1, q2, q3, q4, q5, q6, q7, q8, qf⟩ := cell9 (heap_alloc_new w (.cells (msC m p) 31))
  have hsz := txt_size m.body
  by_cases h1 : m.wants.length ≤ 50
  · have e1 : (m.wants.length : Int) ≤ 50 := by omega
    by_cases h2 : m.pages.length ≤ 50
    · have e2 : (m.pages.length : Int) ≤ 50 := by omega
      by_cases h3 : m.body.length ≤ 2000
      · have e3 : ((txt m.body).size : Int) ≤ 2000 := by omega
        have HE : Hid (decide (Small m) = true) := by show _ = _; simp [Small, h1, h2, h3]
        rw [HE.out]
        clear h1 h2 h3 hsz
        go_enter Try.func19, Try.ntmps19
        go_wp2
        go_ret
        exact ⟨rfl, HB.out⟩
      · have e3 : ¬ ((txt m.body).size : Int) ≤ 2000 := by omega
        have HE : Hid (decide (Small m) = false) := by show _ = _; simp [Small, h3]
        rw [HE.out]
        clear h1 h2 h3 hsz
        go_enter Try.func19, Try.ntmps19
        go_wp2
        go_ret
        exact ⟨rfl, HB.out⟩
    · have e2 : ¬ (m.pages.length : Int) ≤ 50 := by omega
      have HE : Hid (decide (Small m) = false) := by show _ = _; simp [Small, h2]
      rw [HE.out]
      clear h1 h2 hsz
      go_enter Try.func19, Try.ntmps19
      go_wp2
      go_ret
      exact ⟨rfl, HB.out⟩
  · have e1 : ¬ (m.wants.length : Int) ≤ 50 := by omega
    have HE : Hid (decide (Small m) = false) := by show _ = _; simp [Small, h1]
    rw [HE.out]
    clear h1 hsz
    go_enter Try.func19, Try.ntmps19
    go_wp2
    go_ret
    exact ⟨rfl, HB.out⟩

end Go.Proofs.Ytfdpmffoajjchaa
