/-
  Somebody gets a mode.
-/
import Derived.Test.YtclppfljengnbaaGreatCd
namespace Go.Proofs.YtclppfljengnbaaGreat
open Go.RowKit Go.Maps

section
variable {KT KN : List Lit} {w : World} {σ : Sg} {n : Name} {b m : Nat} {t : Int}

theorem own_new (h : Mem KT KN w σ) {i : Nat} (hi : w.heap.size ≤ i) : σ.own i = .no := Classical.byContradiction fun e => absurd (h.lt i e) (by omega)

theorem Mem.newLM (h : Mem KT KN w σ) (hb : σ.lb n = some b) (hm : m < 6) (h0 : σ.lm n m = none) :
    Mem KT KN ((w.alloc (.map #[] 0)).setCell ⟨b, 1 + m, none⟩ (.map (some w.heap.size))) { σ with own := upd σ.own w.heap.size (.LM n m), lm := upd σ.lm n (upd (σ.lm n) m (some w.heap.size)) } ∧
    Step w σ ((w.alloc (.map #[] 0)).setCell ⟨b, 1 + m, none⟩ (.map (some w.heap.size))) { σ with own := upd σ.own w.heap.size (.LM n m), lm := upd σ.lm n (upd (σ.lm n) m (some w.heap.size)) } := by
  have hba : Below w.heap.size w (w.alloc (.map #[] 0)) := (Below.refl _ _).alloc (Nat.le_refl _) _
  have hno : σ.own w.heap.size = .no := own_new h (Nat.le_refl _)
  have h1 := (h.below hba).tagged (b := w.heap.size) hno (by simp) (.LM n m) (by simp [IsW])
  have hl := h1.hL n b hb
  have hne : b ≠ w.heap.size := by have := h.lt b (by rw [(h.hL n b hb).tag]; simp); omega
  have hts := Turn.setCell (w.alloc (.map #[] 0)) ⟨b, 1 + m, none⟩ (.map (some w.heap.size))
  have h2 := h1.chL (w' := (w.alloc (.map #[] 0)).setCell ⟨b, 1 + m, none⟩ (.map (some w.heap.size))) (n := n) hb hts (lm := upd (σ.lm n) m (some w.heap.size)) (lh := σ.lh n) (eb := σ.eb n) (ls := σ.ls n) (by
    refine ⟨hl.tag, hl.tage, fun m' c hc => ?_, ?_, fun m' => ?_⟩
    · by_cases e : m' = m
      · subst e
        rw [upd_same] at hc
        cases hc
        exact upd_same _ _ _
      · rw [upd_other _ _ e] at hc
        exact hl.tagm m' c hc
    · rw [heap_setCell_same _ b (1 + m) _ _ _ hl.blk]
      obtain rfl | rfl | rfl | rfl | rfl | rfl : m = 0 ∨ m = 1 ∨ m = 2 ∨ m = 3 ∨ m = 4 ∨ m = 5 := by omega
      all_goals simp [upd]
    · by_cases e : m' = m
      · subst e
        rw [upd_same]
        have hf : ∀ x, lhF (σ.lh n m') x = none := by have := (h.hL n b hb).maps m'; rw [h0] at this; exact this
        exact ((MapV.made w).at (hts.block _ (by simp) (Ne.symm hne))).congr fun x => (hf x).symm
      · rw [upd_other _ _ e]
        exact (hl.maps m').at fun c hc => hts.block c (h1.lt c (by rw [hl.tagm m' c hc]; simp)) (tag_ne (hl.tagm m' c hc) hl.tag (by simp)))
  have e1 : upd σ.lh n (σ.lh n) = σ.lh := upd_self _ _
  have e2 : upd σ.eb n (σ.eb n) = σ.eb := upd_self _ _
  have e3 : upd σ.ls n (σ.ls n) = σ.ls := upd_self _ _
  simp only [e1, e2, e3] at h2
  refine ⟨h2, ⟨((Turn.alloc (fun i => σ.own i ≠ .no) w _).trans hts fun i hi => ?_), fun i hi => ?_, rfl, fun i hi => ?_⟩⟩
  · refine .inl ?_
    rw [show i = b from hi, (h.hL n b hb).tag]
    simp
  · have hi : upd σ.own w.heap.size (.LM n m) i ≠ .no := hi
    by_cases e : i = w.heap.size
    · exact .inr (by omega)
    · rw [upd_other _ _ e] at hi
      exact .inl hi
  · exact upd_other _ _ fun e => hi (by rw [e]; exact hno)

theorem run_eq_upd {σ : Sg} {n : Name} {m : Nat} {c : Nat} : upd σ.lm n (upd (σ.lm n) m (some c)) n m = some c := by rw [upd_same, upd_same]

set_option maxRecDepth 100000 in
set_option maxHeartbeats 4000000 in
theorem join62 (h : Mem KT KN w σ) (hb : σ.lb n = some b) (hm : m < 6) (ht : (Lit.int .i64 t).wf = true) (hin : Lit.int .i64 t ∈ KT) :
    Calls Tryz.prog 94 #[.pointer (some ⟨b, 0, none⟩), .int .i64 ((m : Nat) : Int), .int .i64 t] w fun e w' => e = .returned (.tuple #[]) ∧ ∃ own lm, Mem KT KN w' { σ with own := own, lm := lm, lh := upd σ.lh n (upd (σ.lh n) m (upd (σ.lh n m) t true)) } ∧
      Step w σ w' { σ with own := own, lm := lm, lh := upd σ.lh n (upd (σ.lh n) m (upd (σ.lh n m) t true)) } := by
  have hl := h.hL n b hb
  have hc := hl.cell hm
  have hmm := hl.maps m
  have hi1 : 0 ≤ ((m : Nat) : Int) := by omega
  have hi2 : ((m : Nat) : Int) < 6 := by omega
  have hkt : KT.length < maxLen := by have := h.kt; simp [maxLen]; omega
  have hnil := nil92
  have hmk := @run_makeMap Tryz.prog
  cases e1 : σ.lm n m with
  | none =>
    rw [e1] at hc
    obtain ⟨h2, s2⟩ := h.newLM hb hm e1
    have hl2 := h2.hL n b hb
    have hmm2 := hl2.maps m
    have hc2 := hl2.cell hm
    have hfz : (w.alloc (.map #[] 0)).frozen? ⟨b, 1 + m, none⟩ = false := by
      have := (heap_alloc_old (o := .map #[] 0) (h.lt b (by rw [hl.tag]; simp))).trans hl.blk
      simp [World.frozen?, this]
    have hca : (w.alloc (.map #[] 0)).cell? ⟨b, 1 + m, none⟩ = some (.map none) := by
      have h3 := heap_alloc_old (o := .map #[] 0) (h.lt b (by rw [hl.tag]; simp))
      rw [← hc]
      simp [World.cell?, h3]
    have e2 : ({ σ with own := upd σ.own w.heap.size (.LM n m), lm := upd σ.lm n (upd (σ.lm n) m (some w.heap.size)) } : Sg).lm n m = some w.heap.size := run_eq_upd
    rw [e2] at hmm2 hc2
    obtain ⟨w3, r1, r2, r3⟩ := MapV.store hmm2 lawI Tryz.underlying123 hkt (keyI ht) hin (.agg #[])
    have HQ := toHid (show Mem KT KN w3 { σ with own := upd σ.own w.heap.size (.LM n m), lm := upd σ.lm n (upd (σ.lm n) m (some w.heap.size)), lh := upd σ.lh n (upd (σ.lh n) m (upd (σ.lh n m) t true)) } ∧ Step w σ w3 { σ with own := upd σ.own w.heap.size (.LM n m), lm := upd σ.lm n (upd (σ.lm n) m (some w.heap.size)), lh := upd σ.lh n (upd (σ.lh n) m (upd (σ.lh n m) t true)) } from ⟨h2.chLM hb e2 (Turn.of_map r3) (r2.congr fun x => lhF_upd (σ.lh n m) t true x), s2.trans (Step.of_turn (by rw [hl2.tagm m _ e2]; simp) (Turn.of_map r3) rfl rfl)⟩)
    clear hl hl2 hmm hmm2 h h2 s2 r2 r3
    go_enter Tryz.func94, Tryz.ntmps94
    go_wp2
    go_end0
    exact ⟨rfl, _, _, HQ.out⟩
  | some c =>
    rw [e1] at hc hmm
    obtain ⟨w3, r1, r2, r3⟩ := MapV.store hmm lawI Tryz.underlying123 hkt (keyI ht) hin (.agg #[])
    have HQ := toHid (show Mem KT KN w3 { σ with own := σ.own, lm := σ.lm, lh := upd σ.lh n (upd (σ.lh n) m (upd (σ.lh n m) t true)) } ∧ Step w σ w3 { σ with own := σ.own, lm := σ.lm, lh := upd σ.lh n (upd (σ.lh n) m (upd (σ.lh n m) t true)) } from
      ⟨h.chLM hb e1 (Turn.of_map r3) (r2.congr fun x => lhF_upd (σ.lh n m) t true x), Step.of_turn (by rw [hl.tagm m c e1]; simp) (Turn.of_map r3) rfl rfl⟩)
    clear hl hmm h r2 r3
    go_enter Tryz.func94, Tryz.ntmps94
    go_wp2
    go_end0
    exact ⟨rfl, _, _, HQ.out⟩
end

end Go.Proofs.YtclppfljengnbaaGreat
