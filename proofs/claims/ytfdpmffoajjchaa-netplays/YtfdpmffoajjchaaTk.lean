/-
  Take.
-/
import Derived.Test.YtfdpmffoajjchaaSe
namespace Go.Proofs.Ytfdpmffoajjchaa
open Go.RowKit Go.Conc

theorem results_cell_row2 {P : Program} {fn : Func} {p u : Tmp} {ty : TypeId} (h : fn.results = #[.cell p ty, .tmp u]) (tmps : Array Value) (w : World) (g : Nat) (t : TypeId) (cs : Array Value) (fr : Nat × Nat) (d : TypeDesc)
    (hp : tmps.getD p undef = .pointer (some ⟨g, 0, none⟩)) (hg : w.heap[g]? = some (.cells cs t fr))
    (hu : P.underlying ty = some d) (hd : (match d with | .struct _ | .array _ _ => true | _ => false) = true) (hi : (P.info? ty).map (·.size) = some cs.size) :
    (results fn tmps).run P w = .ok (.tuple #[.agg cs, tmps.getD u undef]) w := by
  rw [results_cell_tmp h, hp]
  simp [asAddr, run_loadVar_row w g t ty cs fr d hg hu hd hi]

set_option maxRecDepth 100000 in
theorem take_no (w : World) (a : Value) (f t : Int) (r : Value) (hb : ∀ W, Below w.heap.size w W → Calls Try.prog 26 #[a, .int .i64 f, .int .i64 t] W fun e w' => e = .returned r ∧ w' = W)
    (hf : ∀ W, Below w.heap.size w W → Calls Try.prog 27 #[r] W fun e w' => e = .returned (.pointer none) ∧ w' = W) :
    Calls Try.prog 10 #[a, .int .i64 f, .int .i64 t] w fun e w' => e = .returned (.tuple #[.agg zeroC, .bool false]) ∧ Below w.heap.size w w' := by
  have HB := toHid (hb (w.alloc (.cells zeroC 31)) ((Below.refl _ _).alloc (Nat.le_refl _) _))
  have HF := toHid (hf (w.alloc (.cells zeroC 31)) ((Below.refl _ _).alloc (Nat.le_refl _) _))
  clear hb hf
  obtain ⟨q0, q1, q2, q3, q4, q5, q6, q7, q8, qf⟩ := cell9 (heap_alloc_new w (.cells zeroC 31))
  go_enter Try.func10, Try.ntmps10
  go_wp2_with fail
  go_at_call 26
  refine Calls.mono HB.out ?_
  rintro e w' ⟨rfl, hw⟩
  obtain rfl := hw.symm
  go_wp2_with fail
  go_at_call 27
  refine Calls.mono HF.out ?_
  rintro e w' ⟨rfl, hw⟩
  obtain rfl := hw.symm
  go_wp2_with fail
  refine bodyPost_ret (results_cell_row2 (P := Try.prog) Try.results10 _ _ w.heap.size 31 zeroC (0, 0) _ rfl (heap_alloc_new _ _) Try.underlying31 rfl (by kernel_rfl)) rfl ⟨rfl, ?_⟩
  exact (Below.refl _ _).alloc (Nat.le_refl _) _

theorem take_nil (w : World) (f t : Int) : Calls Try.prog 10 #[.pointer none, .int .i64 f, .int .i64 t] w fun e w' => e = .returned (.tuple #[.agg zeroC, .bool false]) ∧ Below w.heap.size w w' :=
  take_no w _ f t _ (fun W _ => between_nil W f t) (fun W _ => first_nil W)

theorem take_none {w : World} {s n : Nat} {R : Nat → List Nat} (h : NetOk w s n R) (f t : Int) (hr : rix n f t = none) : Calls Try.prog 10 #[netP s n, .int .i64 f, .int .i64 t] w fun e w' => e = .returned (.tuple #[.agg zeroC, .bool false]) ∧ Below w.heap.size w w' :=
  take_no w _ f t _ (fun W hW => between_any W s n R (h.below hW) f t) (fun W _ => by rw [hr]; exact first_nil W)

theorem take_e {w : World} {s n k : Nat} {R : Nat → List Nat} (h : NetOk w s n R) (f t : Int) (hr : rix n f t = some k) (he : R k = []) : Calls Try.prog 10 #[netP s n, .int .i64 f, .int .i64 t] w fun e w' => e = .returned (.tuple #[.agg zeroC, .bool false]) ∧ Below w.heap.size w w' :=
  take_no w _ f t _ (fun W hW => between_any W s n R (h.below hW) f t) (fun W hW => by rw [hr]; exact first_e (h.below hW) (rix_lt hr) he)

set_option maxRecDepth 100000 in
theorem take_c {w : World} {s n k b : Nat} {l : List Nat} {R : Nat → List Nat} (h : NetOk w s n R) (f t : Int) (hr : rix n f t = some k) (he : R k = b :: l) (m : Ms) (p : Pl) (hm : w.heap[b]? = some (.cells (msC m p) 31)) :
    Calls Try.prog 10 #[netP s n, .int .i64 f, .int .i64 t] w fun e w' => e = .returned (.tuple #[msV m p, .bool true]) ∧ NetOk w' s n (upd R k l) ∧ Tn s n w w' := by
  have hk := rix_lt hr
  have hb0 : Below w.heap.size w (w.alloc (.cells zeroC 31)) := (Below.refl _ _).alloc (Nat.le_refl _) _
  have HB := toHid (between_any _ s n R (h.below hb0) f t)
  rw [hr] at HB
  simp only [rowV, Option.map_some] at HB
  have HF := toHid (first_c (h.below hb0) hk he)
  have HN := toHid (h.below hb0)
  have HM := toHid (KeepC.below hb0 _ _ _ _ hm)
  have HZ := toHid (heap_alloc_new w (.cells zeroC 31))
  have HB0 := toHid hb0
  have hbw : b < w.heap.size := (Array.getElem?_eq_some_iff.1 hm).1
  have HBW := toHid hbw
  obtain ⟨wa, wc, pa, pc⟩ := p
  clear h hr he hk hm hb0 hbw
  go_enter Try.func10, Try.ntmps10
  go_wp2_with fail
  go_at_call 26
  refine Calls.mono HB.out ?_
  rintro e w' ⟨rfl, hw⟩
  obtain rfl := hw.symm
  go_wp2_with fail
  go_at_call 27
  refine Calls.mono HF.out ?_
  rintro e w1 ⟨rfl, hN1, hT1, hs1⟩
  have HN1 := toHid hN1
  have HT1 := toHid hT1
  have HM1 := toHid (hT1.keepC HN.out _ _ _ _ HM.out)
  have HZ1 := toHid (hT1.keepC HN.out _ _ _ _ HZ.out)
  clear hN1 hT1 hs1
  obtain ⟨q0, q1, q2, q3, q4, q5, q6, q7, q8, qf⟩ := cell9 HM1.out
  obtain ⟨z0, z1, z2, z3, z4, z5, z6, z7, z8, zf⟩ := cell9 HZ1.out
  go_wp2_with fail
  have hfin := put9_same (.int .i64 m.kind) (.int .i64 m.txn) (.int .i64 m.page) (.int .i64 m.to) (.bool m.fast) (.int .u64 (m.lsn : Int)) (.slice wa m.wants.length wc) (.slice pa m.pages.length pc) (.string (txt m.body)) HZ1.out
  refine bodyPost_ret (results_cell_row2 (P := Try.prog) Try.results10 _ _ w.heap.size 31 _ (0, 0) _ rfl hfin Try.underlying31 rfl (by kernel_rfl)) rfl ⟨rfl, ?_, ?_⟩
  · refine HN1.out.keep fun i _ h2 => put9_other _ _ _ _ _ _ _ _ _ i ?_
    have hlt := HN.out.lt
    simp at hlt
    intro e
    subst e
    have h3 := HN.out.net
    rw [show s + 2 * n + 2 = w.heap.size by omega, HZ.out] at h3
    simp at h3
  · exact ((Tn.below HB0.out).trans HT1.out).low (put9_below _ _ _ _ _ _ _ _ _ (Below.refl _ _) (Nat.le_refl _))

end Go.Proofs.Ytfdpmffoajjchaa
