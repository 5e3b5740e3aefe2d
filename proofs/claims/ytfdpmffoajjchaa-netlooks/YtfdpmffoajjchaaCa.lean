/-
  NetCuts: what is sent ahead of the cut.
-/
import Derived.Test.YtfdpmffoajjchaaSm
import Derived.Test.YtfdpmffoajjchaaOq
namespace Go.Proofs.Ytfdpmffoajjchaa
open Go.RowKit Go.Conc

theorem send_any {w : World} {s n : Nat} {R : Nat → List Nat} (h : NetOk w s n R) (f t : Int) (m : Ms) (p : Pl) (hm : MI w m p) (hL : Lim m) :
    Calls Try.prog 12 #[netP s n, .int .i64 f, .int .i64 t, msV m p] w fun e w' => ∃ (v : Int) (R' : Nat → List Nat), e = .returned (.int .i64 v) ∧ NetOk w' s n R' ∧ Tn s n w w' := by
  cases hx : rix n f t with
  | none =>
    refine Calls.mono (send_none h f t hx m p) ?_
    rintro e w' ⟨rfl, hB⟩
    exact ⟨1, R, rfl, h.below hB, Tn.below hB⟩
  | some k =>
    by_cases hl : (R k).length < 256
    · refine Calls.mono (send_room h f t hx hl m p hm hL) ?_
      rintro e w' ⟨rfl, b, p', hN, _, _, _, hT⟩
      exact ⟨0, _, rfl, hN, hT⟩
    · refine Calls.mono (send_full h f t hx (by have := h.len k (rix_lt hx); omega) m p hm hL) ?_
      rintro e w' ⟨rfl, hN, hT⟩
      exact ⟨7, _, rfl, hN, hT⟩

structure Sl6 (s n : Nat) (a : Option Addr) (ln c : Nat) (inst : Int) (j : Nat) (u : Nat → Value) : Prop where
  h1 : u 1 = .slice a ln c
  h2 : u 2 = .int .i64 inst
  h7 : u 7 = netP s n
  h9 : u 9 = .int .i64 (j : Nat)

noncomputable def loop6 : Code := (((Try.f6.body.map loopsOf).getD [])[0]?).getD .skip

def I6 (w : World) (s n : Nat) (a : Option Addr) (ln c : Nat) (inst : Int) (j : Nat) (x : Act) (W : World) : Prop :=
  ∃ (u : Nat → Value) (R : Nat → List Nat), x = frameN 133 u ∧ Sl6 s n a ln c inst j u ∧ NetOk W s n R ∧ Below w.heap.size w W

--GEN
set_option maxRecDepth 100000 in
set_option maxHeartbeats 3000000 in
theorem round6_no (w : World) (s n b o ln c : Nat) (inst : Int) (j : Nat) (u : Nat → Value) (wr : World) (x : Op1) (p : Pl) (R : Nat → List Nat) (hu : Sl6 s n (some ⟨b, o, none⟩) ln c inst j u) (hlt : j < ln) (h60 : j < 60) (_hs : w.heap.size ≤ s) (hA : ∀ W, Below w.heap.size w W → At13 W b (o + j * 13) x p) (hM : ∀ W, Below w.heap.size w W → MI W x.m p)
    (hN : NetOk wr s n R) (hB : Below w.heap.size w wr) (hk : ¬ x.kind = 0) (Q0 : Exit → Act → World → Prop) :
    Code.wp Try.prog loop6 (Exit.then (fun x w'' => I6 w s n (some ⟨b, o, none⟩) ln c inst (j + 1) x w'') Q0) (frameN 133 u) wr := by
  obtain ⟨h1, h2, h7, h9⟩ := hu
  rw [frame_open133, h1, h2, h7, h9]
  clear h1 h2 h7 h9
  have HA := toHid hA
  have HM := toHid hM
  have HN := toHid hN
  have HB := toHid hB
  obtain ⟨s0, s1, s2, s3, s4, s5, s6, s7, s8, s9, s10, s11, s12⟩ := at13_cells (hA wr hB)
  have hj1 : (j : Int) < (ln : Int) := by omega
  have hj2 : (j : Int) < 60 := by omega
  have hj3 : 0 ≤ (j : Int) := by omega
  have z0 : (x.kind == 0) = false := by simp [hk]
  clear hA hM hN hB
  have HF : Hid (∀ (A : Act) (W : World) (R : Nat → List Nat), A.tmps.size = 133 → A.defers = [] → Sl6 s n (some ⟨b, o, none⟩) ln c inst (j + 1) (fun i => A.tmps.getD i undef) → NetOk W s n R → Below w.heap.size w W → Exit.then (fun x w'' => I6 w s n (some ⟨b, o, none⟩) ln c inst (j + 1) x w'') Q0 .normal A W) := by
    intro A W R hs hd hS hN hB
    exact ⟨_, R, frameN_lit 133 A hs hd, hS, hN, hB⟩
  generalize (Exit.then (fun x w'' => I6 w s n (some ⟨b, o, none⟩) ln c inst (j + 1) x w'') Q0) = QA at HF ⊢
  conv => arg 2; whnf
  go_wp2_with fail
  exact HF.out _ _ _ rfl rfl ⟨rfl, rfl, rfl, by show Value.int .i64 _ = _; simp⟩ HN.out HB.out

set_option maxRecDepth 100000 in
set_option maxHeartbeats 3000000 in
theorem round6_big (w : World) (s n b o ln c : Nat) (inst : Int) (j : Nat) (u : Nat → Value) (wr : World) (x : Op1) (p : Pl) (R : Nat → List Nat) (hu : Sl6 s n (some ⟨b, o, none⟩) ln c inst j u) (hlt : j < ln) (h60 : j < 60) (_hs : w.heap.size ≤ s) (hA : ∀ W, Below w.heap.size w W → At13 W b (o + j * 13) x p) (hM : ∀ W, Below w.heap.size w W → MI W x.m p)
    (hN : NetOk wr s n R) (hB : Below w.heap.size w wr) (hk : x.kind = 0) (hS : ¬ Small x.m) (Q0 : Exit → Act → World → Prop) :
    Code.wp Try.prog loop6 (Exit.then (fun x w'' => I6 w s n (some ⟨b, o, none⟩) ln c inst (j + 1) x w'') Q0) (frameN 133 u) wr := by
  obtain ⟨h1, h2, h7, h9⟩ := hu
  rw [frame_open133, h1, h2, h7, h9]
  clear h1 h2 h7 h9
  have HA := toHid hA
  have HM := toHid hM
  have HN := toHid hN
  have HB := toHid hB
  obtain ⟨s0, s1, s2, s3, s4, s5, s6, s7, s8, s9, s10, s11, s12⟩ := at13_cells (hA wr hB)
  have hj1 : (j : Int) < (ln : Int) := by omega
  have hj2 : (j : Int) < 60 := by omega
  have hj3 : 0 ≤ (j : Int) := by omega
  have z0 : (x.kind == 0) = true := by simp [hk]
  have HS : Hid (decide (Small x.m) = false) := by show _ = _; simp [hS]
  clear hk hS
  clear hA hM hN hB
  have HF : Hid (∀ (A : Act) (W : World) (R : Nat → List Nat), A.tmps.size = 133 → A.defers = [] → Sl6 s n (some ⟨b, o, none⟩) ln c inst (j + 1) (fun i => A.tmps.getD i undef) → NetOk W s n R → Below w.heap.size w W → Exit.then (fun x w'' => I6 w s n (some ⟨b, o, none⟩) ln c inst (j + 1) x w'') Q0 .normal A W) := by
    intro A W R hs hd hS hN hB
    exact ⟨_, R, frameN_lit 133 A hs hd, hS, hN, hB⟩
  generalize (Exit.then (fun x w'' => I6 w s n (some ⟨b, o, none⟩) ln c inst (j + 1) x w'') Q0) = QA at HF ⊢
  conv => arg 2; whnf
  go_wp2_with fail
  go_at_call 19
  refine Calls.mono (small19 x.m p _) ?_
  rintro e w3 ⟨rfl, hB3⟩
  rw [HS.out]
  have HB3 := toHid hB3
  have HBw := toHid (HB.out.trans (hB3.mono HB.out.size))
  clear hB3 s0 s1 s2 s3 s4 s5 s6 s7 s8 s9 s10 s11 s12
  go_wp2_with fail
  exact HF.out _ _ _ rfl rfl ⟨rfl, rfl, rfl, by show Value.int .i64 _ = _; simp⟩ (HN.out.below HB3.out) HBw.out

set_option maxRecDepth 100000 in
set_option maxHeartbeats 3000000 in
theorem round6_send (w : World) (s n b o ln c : Nat) (inst : Int) (j : Nat) (u : Nat → Value) (wr : World) (x : Op1) (p : Pl) (R : Nat → List Nat) (hu : Sl6 s n (some ⟨b, o, none⟩) ln c inst j u) (hlt : j < ln) (h60 : j < 60) (_hs : w.heap.size ≤ s) (hA : ∀ W, Below w.heap.size w W → At13 W b (o + j * 13) x p) (hM : ∀ W, Below w.heap.size w W → MI W x.m p)
    (hN : NetOk wr s n R) (hB : Below w.heap.size w wr) (hk : x.kind = 0) (hS : Small x.m) (Q0 : Exit → Act → World → Prop) :
    Code.wp Try.prog loop6 (Exit.then (fun x w'' => I6 w s n (some ⟨b, o, none⟩) ln c inst (j + 1) x w'') Q0) (frameN 133 u) wr := by
  obtain ⟨h1, h2, h7, h9⟩ := hu
  rw [frame_open133, h1, h2, h7, h9]
  clear h1 h2 h7 h9
  have HA := toHid hA
  have HM := toHid hM
  have HN := toHid hN
  have HB := toHid hB
  obtain ⟨s0, s1, s2, s3, s4, s5, s6, s7, s8, s9, s10, s11, s12⟩ := at13_cells (hA wr hB)
  have hj1 : (j : Int) < (ln : Int) := by omega
  have hj2 : (j : Int) < 60 := by omega
  have hj3 : 0 ≤ (j : Int) := by omega
  have z0 : (x.kind == 0) = true := by simp [hk]
  have HS : Hid (decide (Small x.m) = true) := by show _ = _; simp [hS]
  have HL := toHid hS.lim
  clear hk hS
  clear hA hM hN hB
  have HF : Hid (∀ (A : Act) (W : World) (R : Nat → List Nat), A.tmps.size = 133 → A.defers = [] → Sl6 s n (some ⟨b, o, none⟩) ln c inst (j + 1) (fun i => A.tmps.getD i undef) → NetOk W s n R → Below w.heap.size w W → Exit.then (fun x w'' => I6 w s n (some ⟨b, o, none⟩) ln c inst (j + 1) x w'') Q0 .normal A W) := by
    intro A W R hs hd hS hN hB
    exact ⟨_, R, frameN_lit 133 A hs hd, hS, hN, hB⟩
  generalize (Exit.then (fun x w'' => I6 w s n (some ⟨b, o, none⟩) ln c inst (j + 1) x w'') Q0) = QA at HF ⊢
  conv => arg 2; whnf
  go_wp2_with fail
  go_at_call 19
  refine Calls.mono (small19 x.m p _) ?_
  rintro e w3 ⟨rfl, hB3⟩
  rw [HS.out]
  have HB3 := toHid hB3
  have HBw := toHid (HB.out.trans (hB3.mono HB.out.size))
  clear hB3 s0 s1 s2 s3 s4 s5 s6 s7 s8 s9 s10 s11 s12
  obtain ⟨s0, s1, s2, s3, s4, s5, s6, s7, s8, s9, s10, s11, s12⟩ := at13_cells (HA.out w3 HBw.out)
  go_wp2_with fail
  refine wp_region_quiet_tail 16 Try.mixed (by kernel_rfl) ?_
  simp only [List.take_succ_cons, List.take_zero, List.drop_succ_cons, List.drop_zero]
  repeat (go_big_quiet_step (fail))
  refine wpQuiet_nil ?_
  go_wp2_with fail
  go_at_call 12
  refine Calls.mono (send_any (R := R) (((HN.out.below HB3.out).drew 1)) x.frm x.tow x.m p (HM.out _ HBw.out.drew) HL.out) ?_
  rintro e w4 ⟨v4, R4, rfl, hN4, hT4⟩
  have HN4 := toHid hN4
  have HB4 := toHid (hT4.to HBw.out.drew _hs HBw.out.drew.size)
  clear hN4 hT4
  go_wp2_with fail
  exact HF.out _ _ _ rfl rfl ⟨rfl, rfl, rfl, by show Value.int .i64 _ = _; simp⟩ HN4.out HB4.out

set_option maxRecDepth 100000 in
set_option maxHeartbeats 3000000 in
theorem exit6 (s n : Nat) (a : Option Addr) (ln c : Nat) (inst : Int) (j : Nat) (hj : ¬ (j < ln ∧ j < 60)) (u : Nat → Value) (wr : World) (hu : Sl6 s n a ln c inst j u) (Q0 : Exit → Act → World → Prop) (R : Act → World → Prop)
    (hexit : ∀ u' : Nat → Value, u' 2 = .int .i64 inst → u' 7 = netP s n → Q0 (.exit 0) (frameN 133 u') wr) : Code.wp Try.prog loop6 (Exit.then R Q0) (frameN 133 u) wr := by
  obtain ⟨h1, h2, h7, h9⟩ := hu
  have HX := toHid hexit
  clear hexit
  rw [frame_open133, h1, h2, h7, h9]
  clear h1 h2 h7 h9
  conv => arg 2; whnf
  by_cases hlt : j < ln
  · have h60 : ¬ j < 60 := fun e => hj ⟨hlt, e⟩
    have e1 : (j : Int) < (ln : Int) := by omega
    have e2 : ¬ (j : Int) < 60 := by omega
    go_wp2_with fail
    rw [frameN_lit 133 ⟨_, _⟩ rfl rfl]
    exact HX.out _ rfl rfl
  · have e1 : ¬ (j : Int) < (ln : Int) := by omega
    go_wp2_with fail
    rw [frameN_lit 133 ⟨_, _⟩ rfl rfl]
    exact HX.out _ rfl rfl

theorem loop6_wp (w : World) (s n : Nat) (a : Option Addr) (l : List Op1) (c : Nat) (inst : Int) (hops : SlO w a l) (hs : w.heap.size ≤ s) (u : Nat → Value) (W : World) (hu : Sl6 s n a l.length c inst 0 u) (R : Nat → List Nat) (hN : NetOk W s n R) (hB : Below w.heap.size w W)
    (Q0 : Exit → Act → World → Prop) (hexit : ∀ (u' : Nat → Value) (W' : World) (R' : Nat → List Nat), u' 2 = .int .i64 inst → u' 7 = netP s n → NetOk W' s n R' → Below w.heap.size w W' → Q0 (.exit 0) (frameN 133 u') W') : Code.wp Try.prog (Code.loop loop6) Q0 (frameN 133 u) W := by
  refine wp_loop (fun x w' => ∃ j, j ≤ l.length ∧ I6 w s n a l.length c inst j x w') (fun x _ => l.length - (intOf (x.tmps.getD 9 undef)).toNat) ⟨0, by omega, u, R, rfl, hu, hN, hB⟩ ?_
  rintro x w' ⟨j, hjl, u', R', rfl, hu', hN', hB'⟩
  by_cases hj : j < l.length ∧ j < 60
  · have key : Code.wp Try.prog loop6 (Exit.then (fun x w'' => I6 w s n a l.length c inst (j + 1) x w'') Q0) (frameN 133 u') w' := by
      obtain ⟨b, o, p, rfl, hb, hA, hM⟩ := hops.get j hj.1
      have hA' : ∀ W, Below w.heap.size w W → At13 W b (o + j * 13) l[j] p := fun W hW => at13_below hA hW hb
      have hM' : ∀ W, Below w.heap.size w W → MI W l[j].m p := fun W hW => hM.below hW
      by_cases hk : l[j].kind = 0
      · by_cases hS : Small l[j].m
        · exact round6_send w s n b o l.length c inst j u' w' l[j] p R' hu' hj.1 hj.2 hs hA' hM' hN' hB' hk hS Q0
        · exact round6_big w s n b o l.length c inst j u' w' l[j] p R' hu' hj.1 hj.2 hs hA' hM' hN' hB' hk hS Q0
      · exact round6_no w s n b o l.length c inst j u' w' l[j] p R' hu' hj.1 hj.2 hs hA' hM' hN' hB' hk Q0
    refine Code.wp_mono ?_ key
    intro e x w'' h'
    cases e <;> first | exact h' | skip
    refine ⟨⟨j + 1, by omega, h'⟩, ?_⟩
    obtain ⟨u'', R'', rfl, hu'', _, _⟩ := h'
    show l.length - (intOf (u'' 9)).toNat < l.length - (intOf (u' 9)).toNat
    rw [hu''.h9, hu'.h9]
    simp only [intOf]
    omega
  · exact exit6 s n a l.length c inst j hj u' w' hu' Q0 _ (fun u'' k2 k7 => hexit u'' w' R' k2 k7 hN' hB')

end Go.Proofs.Ytfdpmffoajjchaa
