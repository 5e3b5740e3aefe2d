/-
  NetPlays: the document's Cut; spoil.
-/
import Derived.Test.YtfdpmffoajjchaaPb
namespace Go.Proofs.Ytfdpmffoajjchaa
open Go.RowKit Go.Conc

/-- What is left behind a cut. -/
def far (p : Int) (x : It) : Bool := decide (x.frm ≠ p ∧ x.tow ≠ p)
def cutL (l : List It) (p : Int) : List It := l.filter (far p)
theorem cut_yes {l : List It} {p : Int} {i : Nat} (hi : i < l.length) (h : l[i].frm ≠ p ∧ l[i].tow ≠ p) : cutL (l.take (i + 1)) p = cutL (l.take i) p ++ [l[i]] := by
  have e : far p l[i] = true := by simp [far, h]
  rw [List.take_succ_eq_append_getElem hi]
  simp only [cutL, List.filter_append, List.filter_cons, List.filter_nil, e, if_true]
theorem cut_no {l : List It} {p : Int} {i : Nat} (hi : i < l.length) (h : ¬ (l[i].frm ≠ p ∧ l[i].tow ≠ p)) : cutL (l.take (i + 1)) p = cutL (l.take i) p := by
  have e : far p l[i] = false := by simp only [far]; exact decide_eq_false h
  rw [List.take_succ_eq_append_getElem hi]
  simp only [cutL, List.filter_append, List.filter_cons, List.filter_nil, e]
  simp
theorem cutL_le (l : List It) (p : Int) : (cutL l p).length ≤ l.length := List.length_filter_le _ _

/-- The two boxes of the document's Cut. -/
structure Box2 (w W : World) (A : Array Value) : Prop where
  h0 : W.heap[w.heap.size]? = some (.cells A 45)
  h1 : W.heap[w.heap.size + 1]? = some (.cells #[.int .i64 0, .slice none 0 0] 45)
  bel : Below w.heap.size w W
theorem Box2.new (w : World) (A : Array Value) : Box2 w ((w.alloc (.cells A 45)).alloc (.cells #[.int .i64 0, .slice none 0 0] 45)) A := by
  refine ⟨heap_alloc2_old _ _ _, heap_alloc2_new _ _ _, (((Below.refl _ _).alloc (Nat.le_refl _) _).alloc (by simp) _)⟩
theorem Box2.lt {w W : World} {A : Array Value} (h : Box2 w W A) : w.heap.size + 1 < W.heap.size := (Array.getElem?_eq_some_iff.1 h.h1).1
theorem Box2.low {w W W' : World} {A : Array Value} {N : Nat} (h : Box2 w W A) (hb : Below N W W') (hN : w.heap.size + 1 < N) : Box2 w W' A :=
  ⟨by rw [hb.block _ (by omega)]; exact h.h0, by rw [hb.block _ (by omega)]; exact h.h1, h.bel.trans (hb.mono (by omega))⟩
theorem Box2.below {w W W' : World} {A : Array Value} (h : Box2 w W A) (hb : Below W.heap.size W W') : Box2 w W' A := h.low hb h.lt
theorem grown_below' {W y : World} {B e size n : Nat} {v : Value} {xs : List Value} (h : W.ownsRow B e size v n xs) (hg : W.grownBy y v.ownBlock) (hB : B ≤ W.heap.size) : Below B W y :=
  ⟨hg.os, hg.tape, hg.output, hg.size, fun k hk => hg.block k (by omega) (fun e => by have := (own_block h k e.symm).1; omega)⟩

set_option maxRecDepth 100000 in
theorem refCut_no (n : Nat) (a : Option Addr) (c ln : Nat) (p : Int) (w : World) (hp : ¬ (1 ≤ p ∧ p ≤ n)) :
    Calls Try.prog 33 #[refN n (.slice a ln c), .int .i64 p] w fun e w' => e = .returned (.tuple #[refN n (.slice a ln c), .int .i64 0]) ∧ Below w.heap.size w w' := by
  have HX := toHid (Box2.new w #[.int .i64 n, .slice a ln c])
  obtain ⟨x0, x1, xf⟩ := cell2 HX.out.h0
  obtain ⟨y0, y1, yf⟩ := cell2 HX.out.h1
  by_cases h1 : p < 1
  · go_enter Try.func33, Try.ntmps33
    go_wp2_with fail
    refine bodyPost_ret (results_cell_row2 (P := Try.prog) Try.results33 _ _ (w.heap.size + 1) 45 _ (0, 0) _ rfl (heap_alloc2_new _ _ _) Try.underlying45 rfl (by kernel_rfl)) rfl ⟨rfl, ?_⟩
    exact ((Below.refl _ _).alloc (Nat.le_refl _) _).alloc (by simp) _
  · have h2 : (n : Int) < p := by omega
    go_enter Try.func33, Try.ntmps33
    go_wp2_with fail
    refine bodyPost_ret (results_cell_row2 (P := Try.prog) Try.results33 _ _ (w.heap.size + 1) 45 _ (0, 0) _ rfl (heap_alloc2_new _ _ _) Try.underlying45 rfl (by kernel_rfl)) rfl ⟨rfl, ?_⟩
    exact ((Below.refl _ _).alloc (Nat.le_refl _) _).alloc (by simp) _

theorem news11 (W : World) (x : It) (X : Obj) (hX : X = .cells (itL x).toArray 82) : ∀ j u, (itL x)[j]? = some u → (W.alloc X).cell? ((⟨W.heap.size, 0, none⟩ : Addr).add j) = some u := by
  intro j u hj
  rw [add_plain]
  have e : (W.alloc X).heap[W.heap.size]? = some X := heap_alloc_new W X
  unfold World.cell?
  rw [e, hX, Nat.zero_add, ← hj]
  show (itL x).toArray[j]? = (itL x)[j]?
  simp
theorem itL_one (x : It) : ∀ u ∈ itL x, u.oneCell' = true := fun u hu => itsC_ones [x] u (by rw [itsC_one]; exact hu)

set_option maxRecDepth 100000 in
set_option maxHeartbeats 3000000 in
theorem refCut_yes (n : Nat) (a : Option Addr) (c : Nat) (l : List It) (p : Int) (w : World) (h : Rd w a (itsC l)) (hl : l.length ≤ 100000) (hp : 1 ≤ p ∧ p ≤ n) :
    Calls Try.prog 33 #[refN n (.slice a l.length c), .int .i64 p] w fun e w' => ∃ v', e = .returned (.tuple #[refN n v', .int .i64 ((l.length - (cutL l p).length : Nat) : Int)]) ∧ w'.ownsRow w.heap.size 82 11 v' (cutL l p).length (itsC (cutL l p)) ∧ Below w.heap.size w w' := by
  obtain ⟨i0, hi0, hz0, hz1, hz2⟩ := info_parts info82
  have HR := toHid h
  have HX0 := toHid (Box2.new w #[.int .i64 n, .slice a l.length c])
  obtain ⟨x0, x1, xf⟩ := cell2 HX0.out.h0
  have h1 : ¬ p < 1 := by omega
  have h2 : ¬ (n : Int) < p := by omega
  clear h hp
  go_enter Try.func33, Try.ntmps33
  go_wp2_with fail
  clear x0 x1 xf
  go_loopw [6, 7] (fun q k W => ∃ (i : Nat) (v : Value), i ≤ l.length ∧ k = .int .i64 i ∧ q = v ∧ W.ownsRow (w.heap.size + 2) 82 11 v (cutL (l.take i) p).length (itsC (cutL (l.take i) p)) ∧ Box2 w W #[.int .i64 n, .slice a l.length c]) (fun _ k _ => l.length - (intOf k).toNat)
  case atStart => exact ⟨0, _, Nat.zero_le _, rfl, rfl, World.ownsRow_nil _ _ _ _, HX0.out⟩
  case round =>
    obtain ⟨i, vv, hi, rfl, hvq, hv, hX⟩ := hrel
    obtain rfl := hvq.symm
    have HV := toHid hv
    have HX := toHid hX
    obtain ⟨x0, x1, xf⟩ := cell2 hX.h0
    clear hv hX
    by_cases hlt : i < l.length
    · obtain ⟨b, o, rfl, hb, d0, d1, hm⟩ := item_at (HR.out.below HX.out.bel) i hlt
      have e1 : (i : Int) < (l.length : Int) := by omega
      have e2 : 0 ≤ (i : Int) := by omega
      by_cases hh : l[i].frm ≠ p ∧ l[i].tow ≠ p
      · have HP := toHid (cut_yes hlt hh)
        have z1 : (l[i].frm != p) = true := by simp [hh.1]
        have z2 : (l[i].tow != p) = true := by simp [hh.2]
        obtain ⟨x, hx⟩ : ∃ x, x = l[i] := ⟨_, rfl⟩
        rw [← hx] at hm d0 d1 z1 z2 HP
        clear hx hh
        obtain ⟨fr, tw, m, ⟨wa, wc, pa, pc⟩⟩ := x
        obtain ⟨q0, q1, q2, q3, q4, q5, q6, q7, q8⟩ := nine hm
        simp only at q0 q1 q2 q3 q4 q5 q6 q7 q8 d0 d1 z1 z2
        clear hm
        obtain ⟨ma, hma⟩ : ∃ y, y = cutL (l.take i) p := ⟨_, rfl⟩
        have HLN : Hid (ma.length ≤ i) := by show _ ≤ _; rw [hma]; have := cutL_le (l.take i) p; rw [List.length_take] at this; omega
        rw [← hma] at HV HP
        clear hma
        have hlx := HX.out.lt
        have hlt2 : w.heap.size + 2 ≤ wr.heap.size := by omega
        go_wp2_with (at_builtin; go_must (refine wpList_append_fresh _ rfl (.tmp 42) (.tmp 48) 43 rfl (w.heap.size + 2) 82 i0 _ 11 128 Try.underlying43 hi0 hz0 hz1 hz2 rfl (by decide) vv ma.length (itsC ma) rfl (own_keep HV.out (KeepC.below ((Below.refl _ _).alloc (Nat.le_refl _) _))) ⟨wr.heap.size, 0, none⟩ 1 1 (itL ⟨fr, tw, m, ⟨wa, wc, pa, pc⟩⟩) rfl rfl (news11 wr ⟨fr, tw, m, ⟨wa, wc, pa, pc⟩⟩ _ rfl) (itL_one _) (by have := HLN.out; unfold maxLen; omega) (by have := HLN.out; omega) (by simp; omega) ?_; intro v' y hown hgrow hfr; have HO := toHid hown; have hbx := ((Below.refl wr.heap.size wr).alloc (Nat.le_refl _) (.cells (itL ⟨fr, tw, m, ⟨wa, wc, pa, pc⟩⟩).toArray 82)); have hby := grown_below' (own_keep HV.out (KeepC.below hbx)) hgrow (by simp; omega); have HX' := toHid ((HX.out.below hbx).low hby (by omega)); clear hown hgrow hfr hbx hby q0 q1 q2 q3 q4 q5 q6 q7 q8 d0 d1))
        go_roundw
        case rel => exact ⟨i + 1, _, by omega, by go_num, rfl, by rw [HP.out, itsC_append, itsC_one, List.length_append]; exact HO.out, HX'.out⟩
        case measure => simp [intOf]; omega
      · have HP := toHid (cut_no hlt hh)
        by_cases hf : l[i].frm = p
        · have z1 : (l[i].frm != p) = false := by simp [hf]
          clear hh hm hf
          go_wp2_with fail
          go_roundw
          case rel => exact ⟨i + 1, _, by omega, by go_num, rfl, by rw [HP.out]; exact HV.out, HX.out⟩
          case measure => simp [intOf]; omega
        · have z1 : (l[i].frm != p) = true := by simp [hf]
          have z2 : (l[i].tow != p) = false := by
            simp
            exact Classical.byContradiction (fun e => hh ⟨hf, e⟩)
          clear hh hm hf
          go_wp2_with fail
          go_roundw
          case rel => exact ⟨i + 1, _, by omega, by go_num, rfl, by rw [HP.out]; exact HV.out, HX.out⟩
          case measure => simp [intOf]; omega
    · have e1 : ¬ (i : Int) < (l.length : Int) := by omega
      have HE : Hid (l.take i = l) := List.take_of_length_le (by omega)
      have HV2 : Hid (wr.ownsRow (w.heap.size + 2) 82 11 vv (cutL l p).length (itsC (cutL l p))) := by have := HV.out; rw [HE.out] at this; exact this
      obtain ⟨av, cv, rfl⟩ := ownsRow_shape HV2.out
      have hcl := cutL_le l p
      obtain ⟨cl, hcl'⟩ : ∃ x, x = (cutL l p).length := ⟨_, rfl⟩
      rw [← hcl'] at hcl HV2
      have HCL := toHid hcl'
      simp only [← hcl']
      clear hcl'
      go_wp2_with fail
      have hS0 : (fun W => W.cell? ⟨w.heap.size, 0, none⟩ = some (.int .i64 n) ∧ W.cell? ⟨w.heap.size, 1, none⟩ = some (.slice a l.length c)) wr.drew := ⟨x0, x1⟩
      have HS0 := toHid hS0
      clear hS0
      refine wp_region_held_drew (S := fun W => W.cell? ⟨w.heap.size, 0, none⟩ = some (.int .i64 n) ∧ W.cell? ⟨w.heap.size, 1, none⟩ = some (.slice a l.length c)) (by kernel_rfl) HS0.out (fun hHeld => ?_)
      have HXd : Hid (Box2 w wr.drew #[.int .i64 n, .slice a l.length c]) := HX.out.below ((Below.refl _ _).drew)
      have HVd := toHid (own_keep HV2.out (KeepC.below ((Below.refl _ wr).drew)))
      clear x0 x1 xf
      generalize hwd : wr.drew = wd at HXd HVd hHeld ⊢
      clear hwd
      refine wpAnyH_take (i := 0) (v := ?_) rfl (by kernel_rfl) (by kernel_rfl) (by kernel_rfl) (fun _ _ _ h => h) (Or.inl ⟨by rfl, ?_⟩) (by assumption) ?_
      rotate_left
      · (intro W hSw; obtain ⟨x0, x1⟩ := hSw; go_simp; try with_reducible rfl)
      try simp only [Act.put, List.getElem_toArray, List.getElem_cons_zero, List.setIfInBounds_toArray, List.set_cons_zero, List.set_cons_succ]
      refine wpAnyH_take (i := 1) (v := ?_) rfl (by kernel_rfl) (by kernel_rfl) (by kernel_rfl) (fun _ _ _ h => h) (Or.inl ⟨by rfl, ?_⟩) (by assumption) ?_
      rotate_left
      · (intro W hSw; obtain ⟨x0, x1⟩ := hSw; go_simp; try with_reducible rfl)
      try simp only [Act.put, List.getElem_toArray, List.getElem_cons_zero, List.getElem_cons_succ, List.setIfInBounds_toArray, List.set_cons_zero, List.set_cons_succ]
      refine wpAnyH_take (i := 2) (v := ?_) rfl (by kernel_rfl) (by kernel_rfl) (by kernel_rfl) (fun _ _ _ h => h) (Or.inl ⟨by rfl, ?_⟩) (by assumption) ?_
      rotate_left
      · (intro W hSw; obtain ⟨x0, x1⟩ := hSw; go_simp; try with_reducible rfl)
      try simp only [Act.put, List.getElem_toArray, List.getElem_cons_zero, List.getElem_cons_succ, List.setIfInBounds_toArray, List.set_cons_zero, List.set_cons_succ]
      refine wpAnyH_take (i := 3) (v := ?_) rfl (by kernel_rfl) (by kernel_rfl) (by kernel_rfl) (fun _ _ _ h => h) (Or.inl ⟨by rfl, ?_⟩) (by assumption) ?_
      rotate_left
      · (intro W hSw; obtain ⟨x0, x1⟩ := hSw; go_simp; try with_reducible rfl)
      try simp only [Act.put, List.getElem_toArray, List.getElem_cons_zero, List.getElem_cons_succ, List.setIfInBounds_toArray, List.set_cons_zero, List.set_cons_succ]
      refine wpAnyH_take (i := 4) (v := ?_) rfl (by kernel_rfl) (by kernel_rfl) (by kernel_rfl) (fun _ _ _ h => h) (Or.inl ⟨by rfl, ?_⟩) (by assumption) ?_
      rotate_left
      · (intro W hSw; obtain ⟨x0, x1⟩ := hSw; go_simp; try with_reducible rfl)
      try simp only [Act.put, List.getElem_toArray, List.getElem_cons_zero, List.getElem_cons_succ, List.setIfInBounds_toArray, List.set_cons_zero, List.set_cons_succ]
      refine wpAnyH_take (i := 5) (v := ?_) rfl (by kernel_rfl) (by kernel_rfl) (by kernel_rfl) (fun _ _ _ h => h) (Or.inl ⟨by rfl, ?_⟩) (by assumption) ?_
      rotate_left
      · (intro W hSw; obtain ⟨x0, x1⟩ := hSw; go_simp; try with_reducible rfl)
      try simp only [Act.put, List.getElem_toArray, List.getElem_cons_zero, List.getElem_cons_succ, List.setIfInBounds_toArray, List.set_cons_zero, List.set_cons_succ]
      refine wpAnyH_take (i := 6) (v := ?_) rfl (by kernel_rfl) (by kernel_rfl) (by kernel_rfl) (fun _ _ _ h => h) (Or.inl ⟨by rfl, ?_⟩) (by assumption) ?_
      rotate_left
      · (intro W hSw; obtain ⟨x0, x1⟩ := hSw; go_simp; try with_reducible rfl)
      try simp only [Act.put, List.getElem_toArray, List.getElem_cons_zero, List.getElem_cons_succ, List.setIfInBounds_toArray, List.set_cons_zero, List.set_cons_succ]
      refine wpAnyH_take (i := 7) (v := ?_) rfl (by kernel_rfl) (by kernel_rfl) (by kernel_rfl) (fun _ _ _ h => h) (Or.inl ⟨by rfl, ?_⟩) (by assumption) ?_
      rotate_left
      · (intro W hSw; obtain ⟨x0, x1⟩ := hSw; go_simp; try with_reducible rfl)
      try simp only [Act.put, List.getElem_toArray, List.getElem_cons_zero, List.getElem_cons_succ, List.setIfInBounds_toArray, List.set_cons_zero, List.set_cons_succ]
      refine wpAnyH_take (i := 8) (v := ?_) rfl (by kernel_rfl) (by kernel_rfl) (by kernel_rfl) (fun _ _ _ h => h) (Or.inl ⟨by rfl, ?_⟩) (by assumption) ?_
      rotate_left
      · (intro W hSw; obtain ⟨x0, x1⟩ := hSw; go_simp; try with_reducible rfl)
      try simp only [Act.put, List.getElem_toArray, List.getElem_cons_zero, List.getElem_cons_succ, List.setIfInBounds_toArray, List.set_cons_zero, List.set_cons_succ]
      refine wpAnyH_take (i := 9) (v := ?_) rfl (by kernel_rfl) (by kernel_rfl) (by kernel_rfl) (fun _ _ _ h => h) (Or.inl ⟨by rfl, ?_⟩) (by assumption) ?_
      rotate_left
      · (intro W hSw; obtain ⟨x0, x1⟩ := hSw; go_simp; try with_reducible rfl)
      try simp only [Act.put, List.getElem_toArray, List.getElem_cons_zero, List.getElem_cons_succ, List.setIfInBounds_toArray, List.set_cons_zero, List.set_cons_succ]
      refine wpAnyH_ready (rs := [10]) (by kernel_rfl) (by simp) ?_
      refine AllReadyH.cons rfl (fun K hK => ?_) AllReadyH.nil
      clear hHeld
      obtain ⟨y0, y1, yf⟩ := cell2 HXd.out.h1
      go_simp
      have HF1 := toHid (put2_same (.int .i64 (n : Int)) (.slice av cl cv) HXd.out.h1)
      have HB1 : Hid (Below w.heap.size w ((wd.setCell ⟨w.heap.size + 1, 0, none⟩ (.int .i64 (n : Int))).setCell ⟨w.heap.size + 1, 1, none⟩ (.slice av cl cv))) := (HXd.out.bel.setCell (by simp) _).setCell (by simp) _
      have HK1 : Hid (∀ q, q ≠ w.heap.size + 1 → ((wd.setCell ⟨w.heap.size + 1, 0, none⟩ (.int .i64 (n : Int))).setCell ⟨w.heap.size + 1, 1, none⟩ (.slice av cl cv)).heap[q]? = wd.heap[q]?) := fun q hq => by rw [heap_setCell_other _ _ _ _ hq, heap_setCell_other _ _ _ _ hq]
      refine hK.out _ _ ?_ (fun hHeld => ?_)
      · obtain ⟨r0, r1, rf⟩ := cell2 ((HK1.out w.heap.size (by omega)).trans HXd.out.h0)
        exact ⟨r0, r1⟩
      clear hK K y0 y1 yf
      try simp only [Act.put, List.getElem_toArray, List.getElem_cons_zero, List.getElem_cons_succ, List.setIfInBounds_toArray, List.set_cons_zero, List.set_cons_succ]
      generalize hw6 : (wd.setCell ⟨w.heap.size + 1, 0, none⟩ (.int .i64 (n : Int))).setCell ⟨w.heap.size + 1, 1, none⟩ (.slice av cl cv) = w6 at HF1 HB1 HK1 hHeld ⊢
      clear hw6
      refine wpAnyH_take (i := 11) (v := ?_) rfl (by kernel_rfl) (by kernel_rfl) (by kernel_rfl) (fun _ _ _ h => h) (Or.inl ⟨by rfl, ?_⟩) (by assumption) ?_
      rotate_left
      · (intro W hSw; obtain ⟨x0, x1⟩ := hSw; go_simp; try with_reducible rfl)
      try simp only [Act.put, List.getElem_toArray, List.getElem_cons_zero, List.getElem_cons_succ, List.setIfInBounds_toArray, List.set_cons_zero, List.set_cons_succ]
      refine wpAnyH_done (by kernel_rfl) ?_ _
      simp only [Exit.then]
      go_wp2_with fail
      (try simp only [Exit.inBlock, Exit.then])
      have HO7 : Hid (w6.ownsRow w.heap.size 82 11 (.slice av cl cv) cl (itsC (cutL l p))) := by
        have hq := own_stay (w' := w6) HVd.out (fun q c hk hc => HK1.out q (kind_ne hc HXd.out.h1 (by decide)))
        exact row_low hq (by omega)
      refine bodyPost_ret (results_cell_row2 (P := Try.prog) Try.results33 _ _ (w.heap.size + 1) 45 _ (0, 0) _ rfl HF1.out Try.underlying45 rfl (by kernel_rfl)) rfl ?_
      rw [← HCL.out]
      refine ⟨_, ?_, HO7.out, HB1.out⟩
      have e9 : ((l.length - cl : Nat) : Int) = (l.length : Int) - (cl : Int) := by omega
      have hwr : IntKind.i64.wrap ((l.length : Int) - (cl : Int)) = (l.length : Int) - (cl : Int) := by rw [IntKind.wrap_i64]; omega
      rw [e9]
      show Ending.returned (Value.tuple #[_, Value.int .i64 (IntKind.i64.wrap ((l.length : Int) - (cl : Int)))]) = _
      rw [hwr]

/-- A message's lists have been written over; nothing else. -/
structure Spo (p : Pl) (w w' : World) : Prop where
  os : w'.os = w.os
  tape : w'.tape = w.tape
  output : w'.output = w.output
  size : w.heap.size ≤ w'.heap.size
  keep : ∀ k, k < w.heap.size → (∀ x, p.wa = some x → k ≠ x.block) → (∀ x, p.pa = some x → k ≠ x.block) → w'.heap[k]? = w.heap[k]?
theorem Spo.below {p : Pl} {w w' : World} (h : Below w.heap.size w w') : Spo p w w' := ⟨h.os, h.tape, h.output, h.size, fun k hk _ _ => h.block k hk⟩
theorem Spo.set {p : Pl} {w W : World} (h : Spo p w W) {a : Addr} (ha : (∃ x, p.wa = some x ∧ a.block = x.block) ∨ (∃ x, p.pa = some x ∧ a.block = x.block)) (v : Value) : Spo p w (W.setCell a v) :=
  ⟨h.os, h.tape, h.output, by simpa [World.setCell] using h.size, fun k hk h1 h2 => by
    rw [Below.heap_setCell _ _ _ _ (fun e => by
      rcases ha with ⟨x, hx, e'⟩ | ⟨x, hx, e'⟩
      · exact h1 x hx (e.trans e')
      · exact h2 x hx (e.trans e'))]
    exact h.keep k hk h1 h2⟩
/-- A row that may be written. -/
def Wr (W : World) (a : Option Addr) (e n : Nat) : Prop := 0 < n → ∃ g cs, a = some ⟨g, 0, none⟩ ∧ W.heap[g]? = some (.cells cs e) ∧ n ≤ cs.size
theorem own_wr {W : World} {B e size n c : Nat} {a : Option Addr} {xs : List Value} (h : W.ownsRow B e size (.slice a n c) n xs) : Wr W a e (n * size) := fun hn => by
  rcases own_addr h with ⟨_, e1, _⟩ | ⟨g, cur, rfl, _, hg, h1, h2⟩
  · rw [e1] at hn; simp at hn
  · exact ⟨g, cur, rfl, hg, by rw [h2]; exact Nat.mul_le_mul_right _ h1⟩
theorem Wr.keep {W W' : World} {a : Option Addr} {e n : Nat} (h : Wr W a e n) (hk : ∀ g, (∃ cs : Array Value, W.heap[g]? = some (.cells cs e)) → a = some ⟨g, 0, none⟩ → W'.heap[g]? = W.heap[g]?) : Wr W' a e n := fun hn => by
  obtain ⟨g, cs, h1, h2, h3⟩ := h hn
  exact ⟨g, cs, h1, (hk g ⟨cs, h2⟩ h1).trans h2, h3⟩
theorem Wr.set {W : World} {a : Option Addr} {e n g t : Nat} {cs : Array Value} (h : Wr W a e n) (hg : W.heap[g]? = some (.cells cs t)) (i : Nat) (v : Value) : Wr (W.setCell ⟨g, i, none⟩ v) a e n := fun hn => by
  obtain ⟨g', cs', h1, h2, h3⟩ := h hn
  by_cases e' : g' = g
  · subst e'
    exact ⟨g', _, h1, cells_set h2, by simpa using h3⟩
  · exact ⟨g', cs', h1, by rw [heap_setCell_other _ _ _ _ e']; exact h2, h3⟩
theorem cell_of {W : World} {g t i : Nat} {cs : Array Value} (h : W.heap[g]? = some (.cells cs t)) (hi : i < cs.size) : ∃ v, W.cell? ⟨g, i, none⟩ = some v := ⟨cs[i], by simp [World.cell?, h, hi]⟩

set_option maxRecDepth 100000 in
set_option maxHeartbeats 2000000 in
theorem spoil31 (m : Ms) (p : Pl) (B : Nat) (w : World) (hO : Own w B m p) (hL : Lim m) : Calls Try.prog 31 #[msV m p] w fun e w' => e = .returned (.tuple #[]) ∧ Spo p w w' := by
  obtain ⟨hl1, hl2⟩ := hL
  have hbx : Below w.heap.size w (w.alloc (.cells (msC m p) 31)) := (Below.refl _ _).alloc (Nat.le_refl _) _
  have HW := toHid ((own_wr hO.ow).keep (W' := w.alloc (.cells (msC m p) 31)) (fun g hg _ => by obtain ⟨cs, h⟩ := hg; exact hbx.block g (Array.getElem?_eq_some_iff.1 h).1))
  have HP := toHid ((own_wr hO.op).keep (W' := w.alloc (.cells (msC m p) 31)) (fun g hg _ => by obtain ⟨cs, h⟩ := hg; exact hbx.block g (Array.getElem?_eq_some_iff.1 h).1))
  have HS : Hid (Spo p w (w.alloc (.cells (msC m p) 31))) := Spo.below hbx
  have HX : Hid ((w.alloc (.cells (msC m p) 31)).heap[w.heap.size]? = some (.cells (msC m p) 31)) := heap_alloc_new _ _
  clear hO hbx
  obtain ⟨wa, wc, pa, pc⟩ := p
  simp only at HW HP
  go_enter Try.func31, Try.ntmps31
  go_wp2_with fail
  go_loopw [2] (fun k W => ∃ i : Nat, i ≤ m.wants.length ∧ k = .int .i64 i ∧ Wr W wa 71 (m.wants.length * 2) ∧ Wr W pa 3 (m.pages.length * 1) ∧ Spo ⟨wa, wc, pa, pc⟩ w W ∧ W.heap[w.heap.size]? = some (.cells (msC m ⟨wa, wc, pa, pc⟩) 31)) (fun k _ => m.wants.length - (intOf k).toNat)
  case atStart => exact ⟨0, Nat.zero_le _, rfl, HW.out, HP.out, HS.out, HX.out⟩
  case round =>
    obtain ⟨i, hi, rfl, hw, hp, hs, hx⟩ := hrel
    obtain ⟨x0, x1, x2, x3, x4, x5, x6, x7, x8, xf⟩ := cell9 hx
    have HPr := toHid hp
    have HSr := toHid hs
    have HXr := toHid hx
    have HWr := toHid hw
    by_cases hlt : i < m.wants.length
    · obtain ⟨g, cs, hg, hgc, hsz⟩ := hw (by omega)
      subst hg
      have e1 : (i : Int) < (m.wants.length : Int) := by omega
      have e2 : 0 ≤ (i : Int) := by omega
      obtain ⟨v0, c0⟩ := cell_of hgc (i := i * 2) (by omega)
      obtain ⟨v1, c1⟩ := cell_of hgc (i := i * 2 + 1) (by omega)
      have f0 : wr.frozen? ⟨g, i * 2, none⟩ = false := by simp [World.frozen?, hgc]
      have f1 : wr.frozen? ⟨g, i * 2 + 1, none⟩ = false := by simp [World.frozen?, hgc]
      have hne : w.heap.size ≠ g := fun e => by rw [← e, hx] at hgc; simp at hgc
      have HNE := toHid hne
      have HG := toHid hgc
      clear hw hp hs hx hgc hne
      go_wp2_with fail
      have hset0 : (wr.setCell ⟨g, i * 2, none⟩ (.string ⟨#[115, 112, 111, 105, 108, 116]⟩)).heap[g]? = _ := cells_set HG.out
      go_roundw
      case rel =>
        refine ⟨i + 1, by omega, by go_num, (HWr.out.set HG.out _ _).set hset0 _ _, (HPr.out.set HG.out _ _).set hset0 _ _, (HSr.out.set (a := ⟨g, i * 2, none⟩) (.inl ⟨_, rfl, rfl⟩) _).set (a := ⟨g, i * 2 + 1, none⟩) (.inl ⟨_, rfl, rfl⟩) _, ?_⟩
        rw [heap_setCell_other _ _ _ _ HNE.out, heap_setCell_other _ _ _ _ HNE.out]
        exact HXr.out
      case measure => simp [intOf]; omega
    · have e1 : ¬ (i : Int) < (m.wants.length : Int) := by omega
      clear hw hp hs hx
      go_wp2_with fail
      clear x0 x1 x2 x3 x4 x5 x6 x7 x8 xf
      go_loopw [3] (fun k W => ∃ i : Nat, i ≤ m.pages.length ∧ k = .int .i64 i ∧ Wr W pa 3 (m.pages.length * 1) ∧ Spo ⟨wa, wc, pa, pc⟩ w W ∧ W.heap[w.heap.size]? = some (.cells (msC m ⟨wa, wc, pa, pc⟩) 31)) (fun k _ => m.pages.length - (intOf k).toNat)
      case atStart => exact ⟨0, Nat.zero_le _, rfl, HPr.out, HSr.out, HXr.out⟩
      case round =>
        obtain ⟨j, hj, rfl, hp, hs, hx⟩ := hrel
        obtain ⟨x0, x1, x2, x3, x4, x5, x6, x7, x8, xf⟩ := cell9 hx
        have HPq := toHid hp
        have HSq := toHid hs
        have HXq := toHid hx
        by_cases hltj : j < m.pages.length
        · obtain ⟨g, cs, hg, hgc, hsz⟩ := hp (by omega)
          subst hg
          have e1 : (j : Int) < (m.pages.length : Int) := by omega
          have e2 : 0 ≤ (j : Int) := by omega
          obtain ⟨v0, c0⟩ := cell_of hgc (i := j) (by omega)
          have f0 : wr.frozen? ⟨g, j, none⟩ = false := by simp [World.frozen?, hgc]
          have hne : w.heap.size ≠ g := fun e => by rw [← e, hx] at hgc; simp at hgc
          have HNE := toHid hne
          have HG := toHid hgc
          clear hp hs hx hgc hne
          go_wp2_with fail
          go_roundw
          case rel =>
            refine ⟨j + 1, by omega, by go_num, HPq.out.set HG.out _ _, HSq.out.set (a := ⟨g, j, none⟩) (.inr ⟨_, rfl, rfl⟩) _, ?_⟩
            rw [heap_setCell_other _ _ _ _ HNE.out]
            exact HXq.out
          case measure => simp [intOf]; omega
        · have e1 : ¬ (j : Int) < (m.pages.length : Int) := by omega
          clear hp hs hx
          go_wp2_with fail
          go_end0
          exact ⟨rfl, HSq.out⟩

end Go.Proofs.Ytfdpmffoajjchaa
