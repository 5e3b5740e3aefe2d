/-
  Somebody waits no more; what is known of a transaction.
-/
import Derived.Test.YtclppfljengnbaaGreatCi
import Derived.Test.YtclppfljengnbaaGreatCj
namespace Go.Proofs.YtclppfljengnbaaGreat
open Go.RowKit Go.Maps

section
variable {KT KN : List Lit} {w : World} {σ : Sg} {n : Name} {b z p x y : Nat} {t : Int}

/-- Somebody waits no more. -/
noncomputable def stopS (σ : Sg) (n : Name) (t : Int) (z x y : Nat) : Sg := { takeS σ n z x y with pw := upd σ.pw t none }

set_option maxRecDepth 100000 in
set_option maxHeartbeats 4000000 in
theorem stop_no (h : Mem KT KN w σ) (hp : σ.pb t = some p) (hw : σ.pw t = none) : Calls Tryz.prog 44 #[.pointer (some ⟨σ.T, 0, none⟩), .pointer (some ⟨p, 0, none⟩)] w fun e w' => e = .returned (.slice none 0 0) ∧ w' = w := by
  obtain ⟨_, c1, _⟩ := (h.hP t p hp).cells
  rw [hw, ptr_none] at c1
  clear h
  go_enter Tryz.func44, Tryz.ntmps44
  go_wp2
  go_ret
  exact ⟨rfl, rfl⟩

set_option maxRecDepth 100000 in
set_option maxHeartbeats 4000000 in
theorem stop33 (h : Mem KT KN w σ) (hp : σ.pb t = some p) (hw : σ.pw t = some z) (hz : IsW (σ.own z)) (hnz : (σ.nd z).n = n) (hb : σ.lb n = some b) (hn : n.length ≤ 16) (hx : σ.ah z = some x) (hy : σ.bh z = some y) (hwx : IsW (σ.own x)) (hwy : IsW (σ.own y)) (hls : IsW (σ.own (σ.ls n))) :
    Calls Tryz.prog 44 #[.pointer (some ⟨σ.T, 0, none⟩), .pointer (some ⟨p, 0, none⟩)] w fun e w' => ∃ g, e = .returned (.slice (some ⟨g, 0, none⟩) 1 1) ∧ w.heap.size ≤ g ∧ w'.heap[g]? = some (.cells #[nmV n] 9) ∧ (stopS σ n t z x y).own g = .no ∧ Mem KT KN w' (stopS σ n t z x y) ∧ Step w σ w' (stopS σ n t z x y) := by
  obtain ⟨_, c1, _⟩ := (h.hP t p hp).cells
  obtain ⟨_, z1, _⟩ := (h.hW z hz).cells
  rw [hw, ptr_some] at c1
  rw [hnz] at z1
  have HS := toHid (show ∀ W σ', Mem KT KN W σ' → σ'.T = σ.T → σ'.A = σ.A → σ'.lb = σ.lb → σ'.pb = σ.pb → σ'.pw = σ.pw →
      W.cell? ⟨σ.T, 0, none⟩ = some (.map (some σ.A)) ∧ (Instr.lookup 64 (.map (some σ.A)) (nmV n) false).run Tryz.prog W = .ok (.pointer (some ⟨b, 0, none⟩)) W ∧ W.cell? ⟨p, 1, none⟩ = some (.pointer (some ⟨z, 0, none⟩)) from fun W σ' h' e1 e2 e3 e4 e5 => by
    have hl := h'.hA.look lawS Tryz.underlying64 zero83 (keyS hn)
    rw [e2, e3, show lkF σ.lb (.string n) = some (ptr (some b)) from by simp [lkF, hb]] at hl
    simp only [Option.getD_some, ptr_some] at hl
    obtain ⟨_, c1', _⟩ := (h'.hP t p (by rw [e4]; exact hp)).cells
    rw [e5, hw, ptr_some] at c1'
    have hT := h'.cellsT.1
    rw [e1, e2] at hT
    exact ⟨hT, hl, c1'⟩)
  have hd : Below w.heap.size w w.drew := (Below.refl _ _).drew
  have hM0 := toHid (h.below hd)
  have hS0 := toHid (Step.quiet (σ := σ) hd)
  have hc0 := HS.out _ _ hM0.out rfl rfl rfl rfl rfl
  have htk := toHid (take51 (n := n) (b := b) (x := x) (y := y) hM0.out hb hz hx hy hwx hwy hls)
  have HP := toHid hp
  have HM := toHid h
  clear h hx hy hwx hwy hls hz
  go_enter Tryz.func44, Tryz.ntmps44
  go_wp2_with fail
  go_region_held3 (fun W => W.cell? ⟨σ.T, 0, none⟩ = some (.map (some σ.A)) ∧ (Instr.lookup 64 (.map (some σ.A)) (nmV n) false).run Tryz.prog W = .ok (.pointer (some ⟨b, 0, none⟩)) W ∧ W.cell? ⟨p, 1, none⟩ = some (.pointer (some ⟨z, 0, none⟩))) (assumption) (first
    | (go_at_call 69; refine htk.out.mono ?_; rintro e w1 ⟨rfl, m1, s1⟩; have hM1 := toHid m1; have hS1 := toHid (hS0.out.trans s1); clear m1 s1; have hc1 := HS.out _ _ hM1.out rfl rfl rfl rfl rfl))
  all_goals
    obtain ⟨_, c1', f1'⟩ := (hM1.out.hP t p HP.out).cells
    have M2 := hM1.out.setPw (q := t) (b := p) HP.out none
    have S2 := hS1.out.trans (Step.set (w := w1) (i := p) (k := 1) (v := ptr none) (σ' := stopS σ n t z x y) (by rw [(hM1.out.hP t p HP.out).tag]; simp) rfl rfl)
    rw [ptr_none] at M2 S2
    obtain ⟨w2, hw2⟩ : ∃ w2, w1.setCell ⟨p, 1, none⟩ (.pointer none) = w2 := ⟨_, rfl⟩
    rw [hw2] at M2 S2
    have b3 : Below w2.heap.size w2 (w2.alloc (.cells #[nmV n] 9)) := (Below.refl _ _).alloc (Nat.le_refl _) _
    have HQ := toHid (show w.heap.size ≤ w2.heap.size ∧ (w2.alloc (.cells #[nmV n] 9)).heap[w2.heap.size]? = some (.cells #[nmV n] 9) ∧ (stopS σ n t z x y).own w2.heap.size = .no ∧ Mem KT KN (w2.alloc (.cells #[nmV n] 9)) (stopS σ n t z x y) ∧ Step w σ (w2.alloc (.cells #[nmV n] 9)) (stopS σ n t z x y) from
      ⟨S2.turn.size, heap_alloc_new w2 _, own_new M2 (Nat.le_refl _), Mem.below (σ := stopS σ n t z x y) M2 b3, S2.trans (Step.quiet b3)⟩)
    have hsz : w2.heap.size = w1.heap.size := by rw [← hw2]; simp [World.setCell]
    rw [hsz] at HQ
    rw [← hw2] at HQ
    clear M2 S2 b3 hsz hw2
    go_wp2_with fail
    go_ret
    exact ⟨_, rfl, HQ.out⟩

set_option maxRecDepth 100000 in
set_option maxHeartbeats 4000000 in
theorem party_yes (h : Mem KT KN w σ) (ht : (Lit.int .i64 t).wf = true) : Calls Tryz.prog 43 #[.pointer (some ⟨σ.T, 0, none⟩), .int .i64 t] w fun e w' => e = .returned (ptr (σ.pb t)) ∧ w' = w := by
  have hl := h.hB.look lawI Tryz.underlying65 zero61 (keyI ht)
  rw [show (ptF σ.pb (.int .i64 t)).getD (.pointer none) = ptr (σ.pb t) from by simp only [ptF]; cases σ.pb t <;> rfl] at hl
  have hT := h.cellsT.2
  clear h
  generalize ptr (σ.pb t) = v at *
  go_enter Tryz.func43, Tryz.ntmps43
  go_wp2
  go_ret
  exact ⟨rfl, rfl⟩
end
set_option maxRecDepth 100000 in
set_option maxHeartbeats 4000000 in
theorem party_nil (w : World) (t : Int) : Calls Tryz.prog 43 #[.pointer none, .int .i64 t] w fun e w' => e = .returned (.pointer none) ∧ w' = w := by
  go_enter Tryz.func43, Tryz.ntmps43
  go_wp2
  go_ret
  exact ⟨rfl, rfl⟩

/-- A new table. -/
noncomputable def sg0 (s : Nat) : Sg :=
  { T := s + 2, A := s, B := s + 1, own := upd (upd (upd (fun _ => .no) s .A) (s + 1) .B) (s + 2) .T, pb := fun _ => none, pm := fun _ => 0, ph := fun _ _ => 0, pw := fun _ => none, lb := fun _ => none, lm := fun _ _ => none, lh := fun _ _ _ => false,
    eb := fun _ => 0, ls := fun _ => 0, ah := fun _ => none, bh := fun _ => none, nd := fun _ => nd0 }

set_option maxRecDepth 100000 in
set_option maxHeartbeats 4000000 in
theorem new20 (KT KN : List Lit) (hkt : KT.length ≤ 1000) (hkn : KN.length ≤ 1000) (w : World) : Calls Tryz.prog 6 #[] w fun e w' => e = .returned (.pointer (some ⟨w.heap.size + 2, 0, none⟩)) ∧ Below w.heap.size w w' ∧ Mem KT KN w' (sg0 w.heap.size) := by
  have hmk := @run_makeMap Tryz.prog
  go_enter Tryz.func6, Tryz.ntmps6
  go_wp2
  go_ret
  refine ⟨rfl, (((Below.refl _ _).alloc (Nat.le_refl _) _).alloc (by simp) _).alloc (by simp; omega) _, ?_⟩
  have o : ∀ i, (sg0 w.heap.size).own i ≠ .no → i = w.heap.size ∨ i = w.heap.size + 1 ∨ i = w.heap.size + 2 := fun i hi => by
    refine Classical.byContradiction fun hc => hi ?_
    show upd (upd (upd (fun _ => Tag.no) w.heap.size .A) (w.heap.size + 1) .B) (w.heap.size + 2) .T i = .no
    rw [upd_other _ _ (by omega), upd_other _ _ (by omega), upd_other _ _ (by omega)]
  have a1 : ((w.alloc (.map #[] 0)).alloc (.map #[] 0)).heap.size = w.heap.size + 2 := by simp
  have a2 : (w.alloc (.map #[] 0)).heap.size = w.heap.size + 1 := by simp
  have eA : ∀ o1 : Obj, (((w.alloc (.map #[] 0)).alloc (.map #[] 0)).alloc o1).heap[w.heap.size]? = (w.alloc (.map #[] 0)).heap[w.heap.size]? := fun o1 => (heap_alloc_old (by omega)).trans (heap_alloc_old (by omega))
  have eB : ∀ o1 : Obj, (((w.alloc (.map #[] 0)).alloc (.map #[] 0)).alloc o1).heap[w.heap.size + 1]? = ((w.alloc (.map #[] 0)).alloc (.map #[] 0)).heap[w.heap.size + 1]? := fun o1 => heap_alloc_old (by omega)
  refine ⟨hkt, hkn, fun i hi => by have := o i hi; simp; omega, upd_same _ _ _, ?_, ?_, ?_, ?_, ?_, fun t b hb => absurd hb (by simp [sg0]), fun n b hb => absurd hb (by simp [sg0]), fun i hi => ?_⟩
  · show upd (upd (upd (fun _ => Tag.no) w.heap.size .A) (w.heap.size + 1) .B) (w.heap.size + 2) .T w.heap.size = .A
    rw [upd_other _ _ (by omega), upd_other _ _ (by omega), upd_same]
  · show upd (upd (upd (fun _ => Tag.no) w.heap.size .A) (w.heap.size + 1) .B) (w.heap.size + 2) .T (w.heap.size + 1) = .B
    rw [upd_other _ _ (by omega), upd_same]
  · have := heap_alloc_new ((w.alloc (.map #[] 0)).alloc (.map #[] 0)) (.cells #[.map (some w.heap.size), .map (some (w.heap.size + 1))] 67)
    rw [a1] at this
    exact this
  · exact ((MapV.made w).at (eA _)).congr fun x => by cases x <;> rfl
  · refine MapV.congr (f := fun _ => none) ?_ (fun x => ?_)
    · have := MapV.made (P := Tryz.prog) (k := 3) (K := KT) (w.alloc (.map #[] 0))
      rw [a2] at this
      exact this.at (eB _)
    · cases x with
      | int k t => cases k <;> rfl
      | _ => rfl
  · exfalso
    rcases o i (fun e => by rw [e] at hi; exact hi) with rfl | rfl | rfl
    · have hi : IsW (upd (upd (upd (fun _ => Tag.no) w.heap.size .A) (w.heap.size + 1) .B) (w.heap.size + 2) .T w.heap.size) := hi
      rw [upd_other _ _ (by omega), upd_other _ _ (by omega), upd_same] at hi
      exact hi
    · have hi : IsW (upd (upd (upd (fun _ => Tag.no) w.heap.size .A) (w.heap.size + 1) .B) (w.heap.size + 2) .T (w.heap.size + 1)) := hi
      rw [upd_other _ _ (by omega), upd_same] at hi
      exact hi
    · have hi : IsW (upd (upd (upd (fun _ => Tag.no) w.heap.size .A) (w.heap.size + 1) .B) (w.heap.size + 2) .T (w.heap.size + 2)) := hi
      rw [upd_same] at hi
      exact hi

end Go.Proofs.YtclppfljengnbaaGreat
