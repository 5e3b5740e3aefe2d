/-
  A new row; what is known of a name, from now on.
-/
import Derived.Test.YtclppfljengnbaaGreatCe
import Derived.Test.YtclppfljengnbaaGreatCg
import Derived.Test.YtclppfljengnbaaGreatCl
namespace Go.Proofs.YtclppfljengnbaaGreat
open Go.RowKit Go.Maps

set_option maxRecDepth 100000 in
set_option maxHeartbeats 4000000 in
theorem newRow48 (w : World) : Calls Tryz.prog 80 #[] w fun e w' => e = .returned (.agg #[.pointer (some ⟨w.heap.size + 1, 0, none⟩), .pointer (some ⟨w.heap.size + 1, 0, none⟩)]) ∧
    Below w.heap.size w w' ∧ WaitOk w' (w.heap.size + 1) nd0 (some (w.heap.size + 1)) (some (w.heap.size + 1)) ∧ w'.heap.size = w.heap.size + 2 := by
  go_enter Tryz.func80, Tryz.ntmps80
  go_wp2_with fail
  refine bodyPost_ret (v := .agg #[.pointer (some ⟨w.heap.size + 1, 0, none⟩), .pointer (some ⟨w.heap.size + 1, 0, none⟩)]) ?_ rfl ⟨rfl, ((Below.refl _ _).alloc (Nat.le_refl _) _).alloc (by simp) _, ?_, by simp⟩
  · refine results_cell_row (P := Tryz.prog) Tryz.results80 _ _ w.heap.size 122 #[.pointer (some ⟨w.heap.size + 1, 0, none⟩), .pointer (some ⟨w.heap.size + 1, 0, none⟩)] (0, 0) _ rfl ?_ Tryz.underlying122 rfl (by kernel_rfl)
    exact (heap_alloc_old (by simp)).trans (heap_alloc_new w _)
  · unfold WaitOk
    have := heap_alloc_new (w.alloc (Obj.cells #[Value.pointer (some ⟨w.heap.size + 1, 0, none⟩), Value.pointer (some ⟨w.heap.size + 1, 0, none⟩)] 122)) (Obj.cells #[Value.int IntKind.i64 0, Value.string { data := #[] }, Value.int IntKind.i64 0, Value.int IntKind.i64 0, Value.pointer (some ⟨w.heap.size + 1, 0, none⟩), Value.pointer (some ⟨w.heap.size + 1, 0, none⟩)] 100)
    rw [show (w.alloc (Obj.cells #[Value.pointer (some ⟨w.heap.size + 1, 0, none⟩), Value.pointer (some ⟨w.heap.size + 1, 0, none⟩)] 122)).heap.size = w.heap.size + 1 from by simp] at this
    exact this

section
variable {KT KN : List Lit} {w : World} {σ : Sg} {n : Name} {b : Nat}

set_option maxRecDepth 100000 in
set_option maxHeartbeats 4000000 in
theorem named_old (h : Mem KT KN w σ) (hb : σ.lb n = some b) (hn : n.length ≤ 16) :
    Calls Tryz.prog 50 #[.pointer (some ⟨σ.T, 0, none⟩), nmV n] w fun e w' => e = .returned (.pointer (some ⟨b, 0, none⟩)) ∧ w' = w := by
  have hl := h.hA.look lawS Tryz.underlying64 zero83 (keyS hn)
  rw [show lkF σ.lb (.string n) = some (ptr (some b)) from by simp [lkF, hb]] at hl
  simp only [Option.getD_some, ptr_some] at hl
  have hT := h.cellsT.1
  clear h
  go_enter Tryz.func50, Tryz.ntmps50
  go_wp2
  go_ret
  exact ⟨rfl, rfl⟩

/-- A name of which nothing was known: its end in block e, itself in block b. -/
noncomputable def newLS (σ : Sg) (n : Name) (e b : Nat) : Sg :=
  { σ with own := upd (upd σ.own e (.E n)) b (.L n), nd := upd σ.nd e nd0, ah := upd σ.ah e (some e), bh := upd σ.bh e (some e), lb := upd σ.lb n (some b), lm := upd σ.lm n (fun _ => none), lh := upd σ.lh n (fun _ _ => false), eb := upd σ.eb n e, ls := upd σ.ls n e }

theorem Mem.forget (h : Mem KT KN w σ) (hn : σ.lb n = none) (a : Nat → Option Nat) (c : Nat → Int → Bool) (d e : Nat) : Mem KT KN w { σ with lm := upd σ.lm n a, lh := upd σ.lh n c, eb := upd σ.eb n d, ls := upd σ.ls n e } :=
  ⟨h.kt, h.kn, h.lt, h.tT, h.tA, h.tB, h.hT, h.hA, h.hB, h.hP, fun n' b hb => by
    have hb : σ.lb n' = some b := hb
    have en : n' ≠ n := fun e1 => by rw [e1, hn] at hb; cases hb
    show LockOk KT w σ.own n' b (upd σ.lm n a n') (upd σ.lh n c n') (upd σ.eb n d n') (upd σ.ls n e n')
    rw [upd_other _ _ en, upd_other _ _ en, upd_other _ _ en, upd_other _ _ en]
    exact h.hL n' b hb, h.hW⟩

set_option maxRecDepth 100000 in
set_option maxHeartbeats 4000000 in
theorem named_new (h : Mem KT KN w σ) (hb : σ.lb n = none) (hn : n.length ≤ 16) (hKN : Lit.string n ∈ KN) :
    Calls Tryz.prog 50 #[.pointer (some ⟨σ.T, 0, none⟩), nmV n] w fun e w' => ∃ c b, e = .returned (.pointer (some ⟨b, 0, none⟩)) ∧ w.heap.size ≤ c ∧ c < b ∧ Mem KT KN w' (newLS σ n c b) ∧ Step w σ w' (newLS σ n c b) := by
  have hl := h.hA.look lawS Tryz.underlying64 zero83 (keyS hn)
  rw [show lkF σ.lb (.string n) = none from by simp [lkF, hb]] at hl
  simp only [Option.getD_none] at hl
  have hT := h.cellsT.1
  have hkn : KN.length < maxLen := by have := h.kn; simp [maxLen]; omega
  have HM := toHid h
  have hTlt := h.lt σ.T (by rw [h.tT]; simp)
  have HA := toHid (h.lt σ.A (by rw [h.tA]; simp))
  have hcl : Calls Tryz.prog 79 #[nmV n] w fun e w' => e = .returned (nmV n) ∧ Below w.heap.size w w' := sclone_any n w (by omega)
  clear h
  go_enter Tryz.func50, Tryz.ntmps50
  go_wp2_with (first
    | (go_at_call 79; refine hcl.mono ?_; rintro e w1 ⟨rfl, b1⟩; have B1 := toHid b1; clear b1)
    | (go_at_call 80; refine (newRow48 w1).mono ?_; rintro e w2 ⟨rfl, b2, wk2, sz2⟩; have B2 := toHid (bnext B1.out b2); have WK := toHid wk2; have SZ := toHid sz2; have SZ1 := toHid B1.out.size; clear b2 wk2 sz2))
  obtain ⟨e, he⟩ : ∃ e, w1.heap.size + 1 = e := ⟨_, rfl⟩
  rw [he] at WK
  obtain ⟨b, hbb⟩ : ∃ b, w2.heap.size = b := ⟨_, rfl⟩
  have he1 : w.heap.size ≤ e := by have := SZ1.out; omega
  have heb : e < b := by have := SZ.out; omega
  simp only [he]
  have B3 := toHid (bnext B2.out ((Below.refl w2.heap.size w2).alloc (Nat.le_refl _) (.cells #[nmV n, .map none, .map none, .map none, .map none, .map none, .map none, .pointer (some ⟨e, 0, none⟩), .pointer (some ⟨e, 0, none⟩)] 126)))
  have WK3 := toHid (show WaitOk (w2.alloc (.cells #[nmV n, .map none, .map none, .map none, .map none, .map none, .map none, .pointer (some ⟨e, 0, none⟩), .pointer (some ⟨e, 0, none⟩)] 126)) e nd0 (some e) (some e) from (heap_alloc_old (by omega)).trans WK.out)
  have NB := toHid (heap_alloc_new w2 (.cells #[nmV n, .map none, .map none, .map none, .map none, .map none, .map none, .pointer (some ⟨e, 0, none⟩), .pointer (some ⟨e, 0, none⟩)] 126))
  rw [hbb] at NB ⊢
  generalize (w2.alloc (.cells #[nmV n, .map none, .map none, .map none, .map none, .map none, .map none, .pointer (some ⟨e, 0, none⟩), .pointer (some ⟨e, 0, none⟩)] 126)) = w3 at *
  have hblt : b < w3.heap.size := lt_of_heap NB.out
  have hno : ∀ i, w.heap.size ≤ i → σ.own i = .no := fun i hi => own_new HM.out hi
  have hd : Below w.heap.size w w3.drew := B3.out.drew
  have M1 := (HM.out.below hd).taggedW (b := e) (hno e he1) (by show e < w3.heap.size; omega) (.E n) nd0 (some e) (some e) (show WaitOk w3.drew e nd0 (some e) (some e) from WK3.out)
  have M2 := M1.tagged (b := b) (by show upd σ.own e (.E n) b = .no; rw [upd_other _ _ (by omega)]; exact hno b (by omega)) hblt (.L n) (by simp [IsW])
  have M3 := M2.forget (n := n) hb (fun _ => none) (fun _ _ => false) e e
  obtain ⟨w4, r1, r2, r3⟩ := MapV.store M3.hA lawS Tryz.underlying64 hkn (keyS hn) hKN (.pointer (some ⟨b, 0, none⟩))
  have M4 := M3.chA (Turn.of_map r3) (f := upd σ.lb n (some b)) (r2.congr fun x => lkF_upd σ.lb n (some b) x) (fun n' b' hb' => by
    by_cases en : n' = n
    · subst en
      rw [upd_same] at hb'
      cases hb'
      refine ⟨upd_same _ _ _, ?_, fun m c hc => ?_, ?_, fun m => ?_⟩
      · show upd (upd σ.own e (.E n')) b (.L n') (upd σ.eb n' e n') = .E n'
        rw [upd_same, upd_other _ _ (by omega), upd_same]
      · have hc : upd σ.lm n' (fun _ => none) n' m = some c := hc
        rw [upd_same] at hc
        cases hc
      · show w3.heap[b]? = some (.cells #[nmV n', .map (upd σ.lm n' (fun _ => none) n' 0), .map (upd σ.lm n' (fun _ => none) n' 1), .map (upd σ.lm n' (fun _ => none) n' 2), .map (upd σ.lm n' (fun _ => none) n' 3), .map (upd σ.lm n' (fun _ => none) n' 4), .map (upd σ.lm n' (fun _ => none) n' 5), ptr (some (upd σ.eb n' e n')), ptr (some (upd σ.ls n' e n'))] 126)
        rw [upd_same, upd_same, upd_same]
        exact NB.out
      · show MapO Tryz.prog 3 _ (upd σ.lm n' (fun _ => none) n' m) KT (lhF (upd σ.lh n' (fun _ _ => false) n' m))
        rw [upd_same, upd_same]
        intro x
        cases x with
        | int k t => cases k <;> simp [lhF]
        | _ => rfl
    · rw [upd_other _ _ en] at hb'
      exact M3.hL n' b' hb')
  have S4 : Step w σ w4 (newLS σ n e b) := by
    refine ⟨(Turn.of_below hd _).trans (Turn.of_map r3) fun i hi => .inl ?_, fun i hi => ?_, rfl, fun i hi => ?_⟩
    · have hi : i = σ.A := hi
      rw [hi, HM.out.tA]
      simp
    · have hi : upd (upd σ.own e (.E n)) b (.L n) i ≠ .no := hi
      by_cases e1 : i = b
      · exact .inr (by omega)
      · rw [upd_other _ _ e1] at hi
        by_cases e2 : i = e
        · exact .inr (by omega)
        · rw [upd_other _ _ e2] at hi
          exact .inl hi
    · have hlt := HM.out.lt i hi
      show upd (upd σ.own e (.E n)) b (.L n) i = σ.own i
      rw [upd_other _ _ (by omega), upd_other _ _ (by omega)]
  have HQ := toHid (show Mem KT KN w4 (newLS σ n e b) ∧ Step w σ w4 (newLS σ n e b) from ⟨M4, S4⟩)
  have hT3 : w3.cell? ⟨σ.T, 0, none⟩ = some (.map (some σ.A)) := (B3.out.cell (p := ⟨σ.T, 0, none⟩) hTlt).trans hT
  have hb3 : w3.cell? ⟨b, 0, none⟩ = some (nmV n) := by have := NB.out; simp [World.cell?, this]
  have r1 : (Instr.mapUpdate 64 (.map (some σ.A)) (nmV n) (.pointer (some ⟨b, 0, none⟩))).run Tryz.prog w3.drew = .ok () w4 := r1
  have HE := toHid he1
  have HE2 := toHid heb
  clear M1 M2 M3 M4 S4 r2 r3 hno hd he1 heb hblt hbb he
  go_region
  all_goals
    go_wp2
    go_ret
    exact ⟨e, b, rfl, HE.out, HE2.out, HQ.out⟩
end

end Go.Proofs.YtclppfljengnbaaGreat
