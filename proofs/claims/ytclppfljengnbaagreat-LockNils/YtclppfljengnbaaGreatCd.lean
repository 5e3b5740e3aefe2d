/-
  Somebody has a mode, and has it no more.
-/
import Derived.Test.YtclppfljengnbaaGreatCb
namespace Go.Proofs.YtclppfljengnbaaGreat
open Go.RowKit Go.Maps

theorem lawI : Keyed Tryz.prog 3 := int_keyed Tryz.underlying3
theorem keyI {x : Int} (hx : (Lit.int .i64 x).wf = true) : keyOf Tryz.prog 3 (.int .i64 x) = some (.int .i64 x) := keyOf_int_mk Tryz.underlying3 hx
theorem lawS : Keyed Tryz.prog 9 := string_keyed Tryz.underlying9
theorem keyS {n : Name} (hn : n.length ≤ 16) : keyOf Tryz.prog 9 (nmV n) = some (.string n) := by
  have h : (⟨n.toArray⟩ : ByteArray).size ≤ maxLen := by
    show n.toArray.size ≤ maxLen
    simp [maxLen]
    omega
  simp [keyOf, Tryz.underlying9, mapKey, h]
theorem zero141 (w : World) : (zeroValue 133).run Tryz.prog w = .ok (.agg #[]) w := by kernel_rfl
theorem zero61 (w : World) : (zeroValue 91).run Tryz.prog w = .ok (.pointer none) w := by kernel_rfl
theorem zero83 (w : World) : (zeroValue 103).run Tryz.prog w = .ok (.pointer none) w := by kernel_rfl
theorem zero29 (w : World) : (zeroValue 29).run Tryz.prog w = .ok (.int .i64 0) w := by kernel_rfl
theorem nil92 (w : World) (r : Option Nat) : (binOp .eql 123 (.map r) (.map none)).run Tryz.prog w = .ok (.bool r.isNone) w := run_eql_map_nil w _ _ _ r Tryz.underlying123

theorem lhF_none {g : Int → Bool} (h : ∀ x, lhF g x = none) (t : Int) : g t = false := by
  have := h (.int .i64 t)
  simp only [lhF] at this
  cases e : g t
  · rfl
  · rw [e] at this; simp at this

/-- A lock's cell for a mode. -/
theorem LockOk.cell {KT : List Lit} {w : World} {own : Nat → Tag} {n : Name} {b : Nat} {lm : Nat → Option Nat} {lh : Nat → Int → Bool} {eb ls : Nat} (h : LockOk KT w own n b lm lh eb ls) {m : Nat} (hm : m < 6) : w.cell? ⟨b, 1 + m, none⟩ = some (.map (lm m)) := by
  obtain ⟨_, c1, c2, c3, c4, c5, c6, _⟩ := h.cells
  obtain rfl | rfl | rfl | rfl | rfl | rfl : m = 0 ∨ m = 1 ∨ m = 2 ∨ m = 3 ∨ m = 4 ∨ m = 5 := by omega
  all_goals assumption

section
variable {KT KN : List Lit} {w : World} {σ : Sg} {n : Name} {b m : Nat} {t : Int}

theorem lh_self (h : σ.lh n m t = false) : upd σ.lh n (upd (σ.lh n) m (upd (σ.lh n m) t false)) = σ.lh := upd_self' (upd_self' (upd_self' h).symm).symm

set_option maxRecDepth 100000 in
set_option maxHeartbeats 4000000 in
theorem part34 (h : Mem KT KN w σ) (hb : σ.lb n = some b) (hm : m < 6) (ht : (Lit.int .i64 t).wf = true) :
    Calls Tryz.prog 45 #[.pointer (some ⟨b, 0, none⟩), .int .i64 ((m : Nat) : Int), .int .i64 t] w fun e w' => e = .returned (.tuple #[]) ∧ Mem KT KN w' { σ with lh := upd σ.lh n (upd (σ.lh n) m (upd (σ.lh n m) t false)) } ∧ Step w σ w' { σ with lh := upd σ.lh n (upd (σ.lh n) m (upd (σ.lh n m) t false)) } := by
  have hl := h.hL n b hb
  have hc := hl.cell hm
  have hmm := hl.maps m
  have hi1 : 0 ≤ ((m : Nat) : Int) := by omega
  have hi2 : ((m : Nat) : Int) < 6 := by omega
  cases e1 : σ.lm n m with
  | none =>
    rw [e1] at hc hmm
    have hf := lhF_none hmm t
    rw [lh_self hf]
    have hd := fun ty => Maps.drop_nil (w := w) (e := 133) lawI Tryz.underlying123 (keyI ht) ty
    have HQ := toHid (show Mem KT KN w { σ with } ∧ Step w σ w { σ with } from ⟨h, Step.refl _ _⟩)
    clear hl hmm hf h
    go_enter Tryz.func45, Tryz.ntmps45
    go_wp2_with (refine wpList_delete_any w rfl _ _ _ _ rfl (fun w' => w' = w) _ _ rfl rfl (fun ty => ⟨w, hd ty, rfl⟩) ?_; rintro w' hw; obtain rfl := hw.symm)
    go_end0
    exact ⟨rfl, HQ.out⟩
  | some c =>
    rw [e1] at hc hmm
    have hd := fun ty => MapV.drop hmm lawI Tryz.underlying123 (keyI ht) ty
    have HQ := toHid (show ∀ w', MapV Tryz.prog 3 w' c KT (upd (lhF (σ.lh n m)) (.int .i64 t) none) → w.mapTurned w' c → Mem KT KN w' { σ with lh := upd σ.lh n (upd (σ.lh n) m (upd (σ.lh n m) t false)) } ∧ Step w σ w' { σ with lh := upd σ.lh n (upd (σ.lh n) m (upd (σ.lh n m) t false)) } from fun w' q1 q2 =>
      ⟨h.chLM hb e1 (Turn.of_map q2) (q1.congr fun x => lhF_upd (σ.lh n m) t false x), Step.of_turn (by rw [hl.tagm m c e1]; simp) (Turn.of_map q2) rfl rfl⟩)
    clear hl hmm h
    go_enter Tryz.func45, Tryz.ntmps45
    go_wp2_with (refine wpList_delete_any w rfl _ _ _ _ rfl (fun w' => MapV Tryz.prog 3 w' c KT (upd (lhF (σ.lh n m)) (.int .i64 t) none) ∧ w.mapTurned w' c) _ _ rfl rfl hd ?_; rintro w' ⟨q1, q2⟩)
    go_end0
    exact ⟨rfl, HQ.out _ q1 q2⟩
end

end Go.Proofs.YtclppfljengnbaaGreat
