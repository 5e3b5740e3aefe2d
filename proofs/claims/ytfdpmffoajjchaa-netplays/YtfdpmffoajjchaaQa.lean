/-
  NetPlays: a step that sends.
-/
import Derived.Test.YtfdpmffoajjchaaPj
namespace Go.Proofs.Ytfdpmffoajjchaa
open Go.RowKit Go.Conc

theorem heap_alloc3_old (w : World) (a b c : Obj) : (((w.alloc a).alloc b).alloc c).heap[w.heap.size]? = some a := by
  have h := heap_alloc2_old w a b
  have hlt : w.heap.size < ((w.alloc a).alloc b).heap.size := (Array.getElem?_eq_some_iff.1 h).1
  have hb : Below ((w.alloc a).alloc b).heap.size ((w.alloc a).alloc b) (((w.alloc a).alloc b).alloc c) := (Below.refl _ _).alloc (Nat.le_refl _) _
  exact (hb.block _ hlt).trans h
theorem heap_alloc3_mid (w : World) (a b c : Obj) : (((w.alloc a).alloc b).alloc c).heap[w.heap.size + 1]? = some b := by
  have h := heap_alloc2_new w a b
  have hlt : w.heap.size + 1 < ((w.alloc a).alloc b).heap.size := (Array.getElem?_eq_some_iff.1 h).1
  have hb : Below ((w.alloc a).alloc b).heap.size ((w.alloc a).alloc b) (((w.alloc a).alloc b).alloc c) := (Below.refl _ _).alloc (Nat.le_refl _) _
  exact (hb.block _ hlt).trans h
theorem heap_alloc3_new (w : World) (a b c : Obj) : (((w.alloc a).alloc b).alloc c).heap[w.heap.size + 2]? = some c := by
  have h := heap_alloc_new ((w.alloc a).alloc b) c
  have e : ((w.alloc a).alloc b).heap.size = w.heap.size + 2 := by simp
  rw [e] at h
  exact h
theorem below_alloc3 (w : World) (a b c : Obj) : Below w.heap.size w (((w.alloc a).alloc b).alloc c) := by
  have h1 : Below w.heap.size w (w.alloc a) := (Below.refl _ _).alloc (Nat.le_refl _) _
  have h2 : Below w.heap.size w ((w.alloc a).alloc b) := h1.alloc h1.size _
  exact h2.alloc h2.size _
theorem BoxS.new {D : Nat × Array Value} {w : World} (A O Z : Array Value) (hD : w.heap[D.1]? = some (.cells D.2 45)) : BoxS D w.heap.size (((w.alloc (.cells A 45)).alloc (.cells O 50)).alloc (.cells Z 45)) A O Z :=
  ⟨((below_alloc3 _ _ _ _).block _ (Array.getElem?_eq_some_iff.1 hD).1).trans hD, (Array.getElem?_eq_some_iff.1 hD).1, heap_alloc3_old _ _ _ _, heap_alloc3_mid _ _ _ _, heap_alloc3_new _ _ _ _⟩

abbrev opV (x : Op1) (p : Pl) : Value := .agg (opA x p)
abbrev zer45 : Array Value := #[.int .i64 0, .slice none 0 0]

/-- What a step leaves. -/
def Post20 (w : World) (s n : Nat) (D : Nat × Array Value) (e : Ending) (w' : World) : Prop :=
  ∃ (v' : Value) (R' : Nat → List Nat) (MM' : Nat → Ms) (PL' : Nat → Pl) (its' : List It), e = .returned (.tuple #[refN n v', .bool true]) ∧ Sim w w' s n R' MM' PL' v' its' ∧ w'.heap[D.1]? = some (.cells D.2 45)

theorem exit20a (s n B : Nat) (lim : Int) (i : Nat) (hj : ¬ ((i : Int) < lim ∧ i < 260)) (u : Nat → Value) (wr : World) (hu : Sl20 s n B lim i u) (Q0 : Exit → Act → World → Prop) (R : Act → World → Prop)
    (hexit : ∀ u' : Nat → Value, Sl20 s n B lim i u' → Q0 (.exit 1) (frameN 149 u') wr) : Code.wp Try.prog loop20a (Exit.then R Q0) (frameN 149 u) wr := by
  obtain ⟨h0, h4, h5, h6, h8, h9⟩ := hu
  have HX := toHid hexit
  clear hexit
  rw [frame_open149, h0, h4, h5, h6, h8, h9]
  clear h0 h4 h5 h6 h8 h9
  conv => arg 2; whnf
  by_cases h : (i : Int) < lim
  · have e2 : ¬ (i : Int) < 260 := by omega
    go_wp2_with fail
    rw [frameN_lit 149 ⟨_, _⟩ rfl rfl]
    exact HX.out _ ⟨rfl, rfl, rfl, rfl, rfl, rfl⟩
  · go_wp2_with fail
    rw [frameN_lit 149 ⟨_, _⟩ rfl rfl]
    exact HX.out _ ⟨rfl, rfl, rfl, rfl, rfl, rfl⟩

theorem loop20a_wp (w : World) (s n : Nat) (D : Nat × Array Value) (B : Nat) (lim : Int) (x : Op1) (p : Pl) (Z : Array Value) (hL : Lim x.m) (hM : ∀ W, Below w.heap.size w W → MI W x.m p) (hwB : w.heap.size ≤ B)
    (u : Nat → Value) (W : World) (R : Nat → List Nat) (MM : Nat → Ms) (PL : Nat → Pl) (v : Value) (its : List It) (hu : Sl20 s n B lim 0 u) (hS : Sim w W s n R MM PL v its) (hX : BoxS D B W #[.int .i64 n, v] (opA x p) Z) (Q0 : Exit → Act → World → Prop) (hP : ∀ ch A W, ¬ Q0 (.panic ch) A W)
    (hexit : ∀ (i : Nat) (u' : Nat → Value) (W' : World) (R' : Nat → List Nat) (MM' : Nat → Ms) (PL' : Nat → Pl) (v' : Value) (its' : List It), Sl20 s n B lim i u' → Sim w W' s n R' MM' PL' v' its' → BoxS D B W' #[.int .i64 n, v'] (opA x p) Z → Q0 (.exit 1) (frameN 149 u') W') :
    Code.wp Try.prog (Code.loop loop20a) Q0 (frameN 149 u) W := by
  refine wp_loop (fun A w' => ∃ j, j ≤ 260 ∧ I20 w s n D B lim x p Z j A w') (fun A _ => 260 - (intOf (A.tmps.getD 9 undef)).toNat) ⟨0, by omega, u, R, MM, PL, v, its, rfl, hu, hS, hX⟩ ?_
  rintro A w' ⟨j, hjl, u', R', MM', PL', v', its', rfl, hu', hS', hX'⟩
  by_cases hj : (j : Int) < lim ∧ j < 260
  · refine Code.wp_mono ?_ (round20 w s n D B lim x p Z j u' w' R' MM' PL' v' its' hu' hj.1 hj.2 hL hM hwB hS' hX' Q0 hP)
    intro e A w'' h'
    cases e <;> first | exact h' | skip
    refine ⟨⟨j + 1, by omega, h'⟩, ?_⟩
    obtain ⟨u'', R'', MM'', PL'', v'', its'', rfl, hu'', _, _⟩ := h'
    show 260 - (intOf (u'' 9)).toNat < 260 - (intOf (u' 9)).toNat
    rw [hu''.h9, hu'.h9]
    simp only [intOf]
    omega
  · exact exit20a s n B lim j hj u' w' hu' Q0 _ (fun u'' k => hexit j u'' w' R' MM' PL' v' its' k hS' hX')

theorem wp149 {c : Code} {Q : Exit → Act → World → Prop} {A : Act} {w : World} (hs : A.tmps.size = 149) (hd : A.defers = []) (h : c.wp Try.prog Q (frameN 149 fun i => A.tmps.getD i undef) w) : c.wp Try.prog Q A w := by
  rw [frameN_lit 149 A hs hd]; exact h

theorem fin20 {w W : World} {s n B : Nat} {D : Nat × Array Value} {A O : Array Value} {R : Nat → List Nat} {MM : Nat → Ms} {PL : Nat → Pl} {v : Value} {its : List It} (hS : Sim w W s n R MM PL v its) (hX : BoxS D B W A O zer45) (hwB : w.heap.size ≤ B) (v0 v1 : Value) :
    ((W.setCell ⟨B + 2, 0, none⟩ v0).setCell ⟨B + 2, 1, none⟩ v1).heap[B + 2]? = some (.cells #[v0, v1] 45) ∧ Sim w ((W.setCell ⟨B + 2, 0, none⟩ v0).setCell ⟨B + 2, 1, none⟩ v1) s n R MM PL v its ∧ ((W.setCell ⟨B + 2, 0, none⟩ v0).setCell ⟨B + 2, 1, none⟩ v1).heap[D.1]? = some (.cells D.2 45) := by
  have hk : ∀ k, k ≠ B + 2 → ((W.setCell ⟨B + 2, 0, none⟩ v0).setCell ⟨B + 2, 1, none⟩ v1).heap[k]? = W.heap[k]? := fun k hk => by rw [heap_setCell_other _ _ _ _ hk, heap_setCell_other _ _ _ _ hk]
  exact ⟨put2_same _ _ hX.h2, hS.box hX.h2 hk (((Below.refl _ _).setCell (p := ⟨B + 2, 0, none⟩) (by simp only; omega) _).setCell (p := ⟨B + 2, 1, none⟩) (by simp only; omega) _), (hk _ (by have := hX.hlt; omega)).trans hX.h3⟩

set_option maxRecDepth 100000 in
set_option maxHeartbeats 3000000 in
theorem step20_send (w wr : World) (s n : Nat) (D : Nat × Array Value) (R : Nat → List Nat) (MM : Nat → Ms) (PL : Nat → Pl) (v : Value) (its : List It) (x : Op1) (p : Pl) (hS : Sim w wr s n R MM PL v its) (hD : wr.heap[D.1]? = some (.cells D.2 45)) (hL : Lim x.m) (hM : ∀ W, Below w.heap.size w W → MI W x.m p) (hk : x.kind = 0 ∨ x.kind = 3) :
    Calls Try.prog 20 #[netP s n, refN n v, opV x p] wr (Post20 w s n D) := by
  obtain ⟨a, c, rfl⟩ := ownsRow_shape hS.row
  have HX := toHid (BoxS.new #[.int .i64 n, .slice a its.length c] (opA x p) zer45 hD)
  have HS := toHid (hS.below (below_alloc3 wr (.cells #[.int .i64 n, .slice a its.length c] 45) (.cells (opA x p) 50) (.cells zer45 45)))
  have HL := toHid hL
  have HM := toHid hM
  have HZ := toHid hS.bel.size
  clear hS hD hL hM
  have HE : Hid (∀ (i : Nat) (lim : Int) (u' : Nat → Value) (W' : World) (R' : Nat → List Nat) (MM' : Nat → Ms) (PL' : Nat → Pl) (v' : Value) (its' : List It), True) := fun _ _ _ _ _ _ _ _ _ => trivial
  clear HE
  go_enter Try.func20, Try.ntmps20
  refine wp_seq_k fun K0 hK0 => ?_
  have HK0 := toHid hK0
  clear hK0
  go_wp2_with fail
  refine HK0.out _ _ ?_
  clear HK0
  generalize hw0 : ((wr.alloc (.cells #[.int .i64 n, .slice a its.length c] 45)).alloc (.cells (opA x p) 50)).alloc (.cells zer45 45) = w0 at HX HS ⊢
  clear hw0
  generalize hB : wr.heap.size = B at HX HZ ⊢
  clear hB
  obtain ⟨o0, o1, o2, o3, o4, o5, o6, o7, o8, o9, o10, o11, o12⟩ := cell13 HX.out.h1
  rcases hk with hk | hk
  · rw [hk] at o0
    go_wp2_with fail
    refine wp149 rfl rfl (loop20a_wp w s n D B 1 x p zer45 HL.out HM.out HZ.out _ w0 R MM PL _ its ⟨rfl, rfl, rfl, rfl, rfl, rfl⟩ HS.out HX.out _ ?_ ?_)
    · intro ch A W h
      obtain ⟨_, _, _, _, _, _, h, _⟩ := h
      cases h
    intro i u' W' R' MM' PL' v' its' hu hS' hX'
    obtain ⟨a', c', rfl⟩ := ownsRow_shape hS'.row
    obtain ⟨h0, h4, h5, h6, h8, h9⟩ := hu
    obtain ⟨f1, f2, f3⟩ := fin20 hS' hX' HZ.out (.int .i64 (n : Int)) (.slice a' its'.length c')
    have HF1 := toHid f1
    have HF2 := toHid f2
    have HF3 := toHid f3
    obtain ⟨x0, x1, xf⟩ := cell2 hX'.h0
    obtain ⟨z0, z1, zf⟩ := cell2 hX'.h2
    clear hS' hX' f1 f2 f3
    rw [frame_open149, h0, h4, h5, h6, h8, h9]
    clear h0 h4 h5 h6 h8 h9
    go_wp2_with fail
    exact bodyPost_ret (results_cell_row2 (P := Try.prog) Try.results20 _ _ (B + 2) 45 _ (0, 0) _ rfl HF1.out Try.underlying45 rfl (by kernel_rfl)) rfl ⟨_, _, _, _, _, rfl, HF2.out, HF3.out⟩
  · rw [hk] at o0
    go_wp2_with fail
    refine wp149 rfl rfl (loop20a_wp w s n D B x.n x p zer45 HL.out HM.out HZ.out _ w0 R MM PL _ its ⟨rfl, rfl, rfl, rfl, rfl, rfl⟩ HS.out HX.out _ ?_ ?_)
    · intro ch A W h
      obtain ⟨_, _, _, _, _, _, h, _⟩ := h
      cases h
    intro i u' W' R' MM' PL' v' its' hu hS' hX'
    obtain ⟨a', c', rfl⟩ := ownsRow_shape hS'.row
    obtain ⟨h0, h4, h5, h6, h8, h9⟩ := hu
    obtain ⟨f1, f2, f3⟩ := fin20 hS' hX' HZ.out (.int .i64 (n : Int)) (.slice a' its'.length c')
    have HF1 := toHid f1
    have HF2 := toHid f2
    have HF3 := toHid f3
    obtain ⟨x0, x1, xf⟩ := cell2 hX'.h0
    obtain ⟨z0, z1, zf⟩ := cell2 hX'.h2
    clear hS' hX' f1 f2 f3
    rw [frame_open149, h0, h4, h5, h6, h8, h9]
    clear h0 h4 h5 h6 h8 h9
    go_wp2_with fail
    exact bodyPost_ret (results_cell_row2 (P := Try.prog) Try.results20 _ _ (B + 2) 45 _ (0, 0) _ rfl HF1.out Try.underlying45 rfl (by kernel_rfl)) rfl ⟨_, _, _, _, _, rfl, HF2.out, HF3.out⟩

end Go.Proofs.Ytfdpmffoajjchaa
