/-
  NetLooks: what is sent and taken ahead of the looks.
-/
import Derived.Test.YtfdpmffoajjchaaLa
import Derived.Test.YtfdpmffoajjchaaCa
namespace Go.Proofs.Ytfdpmffoajjchaa
open Go.RowKit Go.Conc

structure Sl8 (s n : Nat) (a : Option Addr) (ln c : Nat) (inst : Int) (j : Nat) (u : Nat → Value) : Prop where
  h1 : u 1 = .slice a ln c
  h2 : u 2 = .int .i64 inst
  h7 : u 7 = netP s n
  h9 : u 9 = .int .i64 (j : Nat)

noncomputable def loop8a : Code := (((Try.f8.body.map loopsOf).getD [])[0]?).getD .skip
noncomputable def loop8b : Code := (((Try.f8.body.map loopsOf).getD [])[1]?).getD .skip

def I8 (w : World) (s n : Nat) (a : Option Addr) (ln c : Nat) (inst : Int) (j : Nat) (x : Act) (W : World) : Prop :=
  ∃ (u : Nat → Value) (R : Nat → List Nat), x = frameN 164 u ∧ Sl8 s n a ln c inst j u ∧ NetOk W s n R ∧ AllGood W n R ∧ Below w.heap.size w W

set_option maxRecDepth 100000 in
set_option maxHeartbeats 3000000 in
theorem round8_no (w : World) (s n b o ln c : Nat) (inst : Int) (j : Nat) (u : Nat → Value) (wr : World) (x : Op1) (p : Pl) (R : Nat → List Nat) (hu : Sl8 s n (some ⟨b, o, none⟩) ln c inst j u) (hlt : j < ln) (h60 : j < 60) (_hs : w.heap.size ≤ s) (hA : ∀ W, Below w.heap.size w W → At13 W b (o + j * 13) x p) (hM : ∀ W, Below w.heap.size w W → MI W x.m p)
    (hN : NetOk wr s n R) (hG : AllGood wr n R) (hB : Below w.heap.size w wr) (hk : ¬ x.kind = 0) (hk1 : ¬ x.kind = 1) (Q0 : Exit → Act → World → Prop) (hP : ∀ c A W, ¬ Q0 (.panic c) A W) :
    Code.wp Try.prog loop8a (Exit.then (fun x w'' => I8 w s n (some ⟨b, o, none⟩) ln c inst (j + 1) x w'') Q0) (frameN 164 u) wr := by
  obtain ⟨h1, h2, h7, h9⟩ := hu
  rw [frame_open164, h1, h2, h7, h9]
  clear h1 h2 h7 h9
  have HA := toHid hA
  have HM := toHid hM
  have HN := toHid hN
  have HG := toHid hG
  have HB := toHid hB
  obtain ⟨s0, s1, s2, s3, s4, s5, s6, s7, s8, s9, s10, s11, s12⟩ := at13_cells (hA wr hB)
  have hj1 : (j : Int) < (ln : Int) := by omega
  have hj2 : (j : Int) < 60 := by omega
  have hj3 : 0 ≤ (j : Int) := by omega
  have z0 : (x.kind == 0) = false := by simp [hk]
  have z1 : (x.kind == 1) = false := by simp [hk1]
  clear hA hM hN hB hG
  have HF : Hid (∀ (A : Act) (W : World) (R : Nat → List Nat), A.tmps.size = 164 → A.defers = [] → Sl8 s n (some ⟨b, o, none⟩) ln c inst (j + 1) (fun i => A.tmps.getD i undef) → NetOk W s n R → AllGood W n R → Below w.heap.size w W → Exit.then (fun x w'' => I8 w s n (some ⟨b, o, none⟩) ln c inst (j + 1) x w'') Q0 .normal A W) := by
    intro A W R hs hd hS hN hG hB
    exact ⟨_, R, frameN_lit 164 A hs hd, hS, hN, hG, hB⟩
  have HP : Hid (∀ ch A W, ¬ (Exit.then (fun x w'' => I8 w s n (some ⟨b, o, none⟩) ln c inst (j + 1) x w'') Q0) (.panic ch) A W) := fun ch A W h => hP ch A W h
  clear hP
  generalize (Exit.then (fun x w'' => I8 w s n (some ⟨b, o, none⟩) ln c inst (j + 1) x w'') Q0) = QA at HF HP ⊢
  conv => arg 2; whnf
  go_wp2_with fail
  exact HF.out _ _ _ rfl rfl ⟨rfl, rfl, rfl, by show Value.int .i64 _ = _; simp⟩ HN.out HG.out HB.out

set_option maxRecDepth 100000 in
set_option maxHeartbeats 3000000 in
theorem round8_big (w : World) (s n b o ln c : Nat) (inst : Int) (j : Nat) (u : Nat → Value) (wr : World) (x : Op1) (p : Pl) (R : Nat → List Nat) (hu : Sl8 s n (some ⟨b, o, none⟩) ln c inst j u) (hlt : j < ln) (h60 : j < 60) (_hs : w.heap.size ≤ s) (hA : ∀ W, Below w.heap.size w W → At13 W b (o + j * 13) x p) (hM : ∀ W, Below w.heap.size w W → MI W x.m p)
    (hN : NetOk wr s n R) (hG : AllGood wr n R) (hB : Below w.heap.size w wr) (hk : x.kind = 0) (hS : ¬ Small x.m) (Q0 : Exit → Act → World → Prop) (hP : ∀ c A W, ¬ Q0 (.panic c) A W) :
    Code.wp Try.prog loop8a (Exit.then (fun x w'' => I8 w s n (some ⟨b, o, none⟩) ln c inst (j + 1) x w'') Q0) (frameN 164 u) wr := by
  obtain ⟨h1, h2, h7, h9⟩ := hu
  rw [frame_open164, h1, h2, h7, h9]
  clear h1 h2 h7 h9
  have HA := toHid hA
  have HM := toHid hM
  have HN := toHid hN
  have HG := toHid hG
  have HB := toHid hB
  obtain ⟨s0, s1, s2, s3, s4, s5, s6, s7, s8, s9, s10, s11, s12⟩ := at13_cells (hA wr hB)
  have hj1 : (j : Int) < (ln : Int) := by omega
  have hj2 : (j : Int) < 60 := by omega
  have hj3 : 0 ≤ (j : Int) := by omega
  have z0 : (x.kind == 0) = true := by simp [hk]
  have z1 : (x.kind == 1) = false := by simp [hk]
  have HS : Hid (decide (Small x.m) = false) := by show _ = _; simp [hS]
  clear hk hS
  clear hA hM hN hB hG
  have HF : Hid (∀ (A : Act) (W : World) (R : Nat → List Nat), A.tmps.size = 164 → A.defers = [] → Sl8 s n (some ⟨b, o, none⟩) ln c inst (j + 1) (fun i => A.tmps.getD i undef) → NetOk W s n R → AllGood W n R → Below w.heap.size w W → Exit.then (fun x w'' => I8 w s n (some ⟨b, o, none⟩) ln c inst (j + 1) x w'') Q0 .normal A W) := by
    intro A W R hs hd hS hN hG hB
    exact ⟨_, R, frameN_lit 164 A hs hd, hS, hN, hG, hB⟩
  have HP : Hid (∀ ch A W, ¬ (Exit.then (fun x w'' => I8 w s n (some ⟨b, o, none⟩) ln c inst (j + 1) x w'') Q0) (.panic ch) A W) := fun ch A W h => hP ch A W h
  clear hP
  generalize (Exit.then (fun x w'' => I8 w s n (some ⟨b, o, none⟩) ln c inst (j + 1) x w'') Q0) = QA at HF HP ⊢
  conv => arg 2; whnf
  go_wp2_with fail
  go_at_call 19
  refine Calls.mono (small19 x.m p _) ?_
  rintro e w3 ⟨rfl, hB3⟩
  rw [HS.out]
  have HB3 := toHid hB3
  have HBw := toHid (HB.out.trans (hB3.mono HB.out.size))
  clear hB3 s0 s1 s2 s3 s4 s5 s6 s7 s8 s9 s10 s11 s12
  obtain ⟨s0, s1, s2, s3, s4, s5, s6, s7, s8, s9, s10, s11, s12⟩ := at13_cells (HA.out w3 HBw.out)
  go_wp2_with fail
  exact HF.out _ _ _ rfl rfl ⟨rfl, rfl, rfl, by show Value.int .i64 _ = _; simp⟩ (HN.out.below HB3.out) (HG.out.keep (KeepC.below HB3.out)) HBw.out

set_option maxRecDepth 100000 in
set_option maxHeartbeats 3000000 in
theorem round8_send (w : World) (s n b o ln c : Nat) (inst : Int) (j : Nat) (u : Nat → Value) (wr : World) (x : Op1) (p : Pl) (R : Nat → List Nat) (hu : Sl8 s n (some ⟨b, o, none⟩) ln c inst j u) (hlt : j < ln) (h60 : j < 60) (_hs : w.heap.size ≤ s) (hA : ∀ W, Below w.heap.size w W → At13 W b (o + j * 13) x p) (hM : ∀ W, Below w.heap.size w W → MI W x.m p)
    (hN : NetOk wr s n R) (hG : AllGood wr n R) (hB : Below w.heap.size w wr) (hk : x.kind = 0) (hS : Small x.m) (Q0 : Exit → Act → World → Prop) (hP : ∀ c A W, ¬ Q0 (.panic c) A W) :
    Code.wp Try.prog loop8a (Exit.then (fun x w'' => I8 w s n (some ⟨b, o, none⟩) ln c inst (j + 1) x w'') Q0) (frameN 164 u) wr := by
  obtain ⟨h1, h2, h7, h9⟩ := hu
  rw [frame_open164, h1, h2, h7, h9]
  clear h1 h2 h7 h9
  have HA := toHid hA
  have HM := toHid hM
  have HN := toHid hN
  have HG := toHid hG
  have HB := toHid hB
  obtain ⟨s0, s1, s2, s3, s4, s5, s6, s7, s8, s9, s10, s11, s12⟩ := at13_cells (hA wr hB)
  have hj1 : (j : Int) < (ln : Int) := by omega
  have hj2 : (j : Int) < 60 := by omega
  have hj3 : 0 ≤ (j : Int) := by omega
  have z0 : (x.kind == 0) = true := by simp [hk]
  have z1 : (x.kind == 1) = false := by simp [hk]
  have HS : Hid (decide (Small x.m) = true) := by show _ = _; simp [hS]
  have HL := toHid hS.lim
  clear hk hS
  clear hA hM hN hB hG
  have HF : Hid (∀ (A : Act) (W : World) (R : Nat → List Nat), A.tmps.size = 164 → A.defers = [] → Sl8 s n (some ⟨b, o, none⟩) ln c inst (j + 1) (fun i => A.tmps.getD i undef) → NetOk W s n R → AllGood W n R → Below w.heap.size w W → Exit.then (fun x w'' => I8 w s n (some ⟨b, o, none⟩) ln c inst (j + 1) x w'') Q0 .normal A W) := by
    intro A W R hs hd hS hN hG hB
    exact ⟨_, R, frameN_lit 164 A hs hd, hS, hN, hG, hB⟩
  have HP : Hid (∀ ch A W, ¬ (Exit.then (fun x w'' => I8 w s n (some ⟨b, o, none⟩) ln c inst (j + 1) x w'') Q0) (.panic ch) A W) := fun ch A W h => hP ch A W h
  clear hP
  generalize (Exit.then (fun x w'' => I8 w s n (some ⟨b, o, none⟩) ln c inst (j + 1) x w'') Q0) = QA at HF HP ⊢
  conv => arg 2; whnf
  go_wp2_with fail
  go_at_call 19
  refine Calls.mono (small19 x.m p _) ?_
  rintro e w3 ⟨rfl, hB3⟩
  rw [HS.out]
  have HB3 := toHid hB3
  have HBw := toHid (HB.out.trans (hB3.mono HB.out.size))
  clear hB3 s0 s1 s2 s3 s4 s5 s6 s7 s8 s9 s10 s11 s12
  obtain ⟨s0, s1, s2, s3, s4, s5, s6, s7, s8, s9, s10, s11, s12⟩ := at13_cells (HA.out w3 HBw.out)
  go_wp2_with fail
  have HSW : Hid (∀ W R, Below w.heap.size w W → NetOk W s n R → AllGood W n R → (fun W => (W.cell? ⟨b, o + j * 13 + 1, none⟩ = some (.int .i64 x.frm) ∧ W.cell? ⟨b, o + j * 13 + 2, none⟩ = some (.int .i64 x.tow) ∧ W.cell? ⟨b, o + j * 13 + 4, none⟩ = some (.int .i64 x.m.kind) ∧ W.cell? ⟨b, o + j * 13 + 5, none⟩ = some (.int .i64 x.m.txn) ∧ W.cell? ⟨b, o + j * 13 + 6, none⟩ = some (.int .i64 x.m.page) ∧ W.cell? ⟨b, o + j * 13 + 7, none⟩ = some (.int .i64 x.m.to) ∧ W.cell? ⟨b, o + j * 13 + 8, none⟩ = some (.bool x.m.fast) ∧ W.cell? ⟨b, o + j * 13 + 9, none⟩ = some (.int .u64 (x.m.lsn : Int)) ∧ W.cell? ⟨b, o + j * 13 + 10, none⟩ = some (.slice p.wa x.m.wants.length p.wc) ∧ W.cell? ⟨b, o + j * 13 + 11, none⟩ = some (.slice p.pa x.m.pages.length p.pc) ∧ W.cell? ⟨b, o + j * 13 + 12, none⟩ = some (.string (txt x.m.body))) ∧ Hid (Below w.heap.size w W ∧ ∃ R, NetOk W s n R ∧ AllGood W n R)) W) := by
    intro W R h1 h2 h3
    obtain ⟨s0, s1, s2, s3, s4, s5, s6, s7, s8, s9, s10, s11, s12⟩ := at13_cells (HA.out W h1)
    exact ⟨⟨s1, s2, s4, s5, s6, s7, s8, s9, s10, s11, s12⟩, h1, R, h2, h3⟩
  have HS0 := toHid (HSW.out w3.drew R HBw.out.drew ((HN.out.below HB3.out).drew 1) ((HG.out.keep (KeepC.below HB3.out)).keep (W' := w3.drew) (fun _ _ _ _ h => h)))
  clear s0 s1 s2 s3 s4 s5 s6 s7 s8 s9 s10 s11 s12
  refine wp_region_held_drew (S := fun W => (W.cell? ⟨b, o + j * 13 + 1, none⟩ = some (.int .i64 x.frm) ∧ W.cell? ⟨b, o + j * 13 + 2, none⟩ = some (.int .i64 x.tow) ∧ W.cell? ⟨b, o + j * 13 + 4, none⟩ = some (.int .i64 x.m.kind) ∧ W.cell? ⟨b, o + j * 13 + 5, none⟩ = some (.int .i64 x.m.txn) ∧ W.cell? ⟨b, o + j * 13 + 6, none⟩ = some (.int .i64 x.m.page) ∧ W.cell? ⟨b, o + j * 13 + 7, none⟩ = some (.int .i64 x.m.to) ∧ W.cell? ⟨b, o + j * 13 + 8, none⟩ = some (.bool x.m.fast) ∧ W.cell? ⟨b, o + j * 13 + 9, none⟩ = some (.int .u64 (x.m.lsn : Int)) ∧ W.cell? ⟨b, o + j * 13 + 10, none⟩ = some (.slice p.wa x.m.wants.length p.wc) ∧ W.cell? ⟨b, o + j * 13 + 11, none⟩ = some (.slice p.pa x.m.pages.length p.pc) ∧ W.cell? ⟨b, o + j * 13 + 12, none⟩ = some (.string (txt x.m.body))) ∧ Hid (Below w.heap.size w W ∧ ∃ R, NetOk W s n R ∧ AllGood W n R)) (by kernel_rfl) HS0.out (fun hHeld => ?_)
  refine wpAnyH_take (i := 0) (v := ?_) rfl (by kernel_rfl) (by kernel_rfl) (by kernel_rfl) (fun _ _ _ h => (HP.out _ _ _ h).elim) (Or.inl ⟨by rfl, ?_⟩) (by assumption) ?_
  rotate_left
  · (intro W hSw; obtain ⟨⟨s1, s2, s4, s5, s6, s7, s8, s9, s10, s11, s12⟩, _⟩ := hSw; go_simp; try with_reducible rfl)
  try simp only [Act.put, List.getElem_toArray, List.getElem_cons_zero, List.setIfInBounds_toArray, List.set_cons_zero, List.set_cons_succ]
  refine wpAnyH_take (i := 1) (v := ?_) rfl (by kernel_rfl) (by kernel_rfl) (by kernel_rfl) (fun _ _ _ h => (HP.out _ _ _ h).elim) (Or.inl ⟨by rfl, ?_⟩) (by assumption) ?_
  rotate_left
  · (intro W hSw; obtain ⟨⟨s1, s2, s4, s5, s6, s7, s8, s9, s10, s11, s12⟩, _⟩ := hSw; go_simp; try with_reducible rfl)
  try simp only [Act.put, List.getElem_toArray, List.getElem_cons_zero, List.getElem_cons_succ, List.setIfInBounds_toArray, List.set_cons_zero, List.set_cons_succ]
  refine wpAnyH_take (i := 2) (v := ?_) rfl (by kernel_rfl) (by kernel_rfl) (by kernel_rfl) (fun _ _ _ h => (HP.out _ _ _ h).elim) (Or.inl ⟨by rfl, ?_⟩) (by assumption) ?_
  rotate_left
  · (intro W hSw; obtain ⟨⟨s1, s2, s4, s5, s6, s7, s8, s9, s10, s11, s12⟩, _⟩ := hSw; go_simp; try with_reducible rfl)
  try simp only [Act.put, List.getElem_toArray, List.getElem_cons_zero, List.getElem_cons_succ, List.setIfInBounds_toArray, List.set_cons_zero, List.set_cons_succ]
  refine wpAnyH_take (i := 3) (v := ?_) rfl (by kernel_rfl) (by kernel_rfl) (by kernel_rfl) (fun _ _ _ h => (HP.out _ _ _ h).elim) (Or.inl ⟨by rfl, ?_⟩) (by assumption) ?_
  rotate_left
  · (intro W hSw; obtain ⟨⟨s1, s2, s4, s5, s6, s7, s8, s9, s10, s11, s12⟩, _⟩ := hSw; go_simp; try with_reducible rfl)
  try simp only [Act.put, List.getElem_toArray, List.getElem_cons_zero, List.getElem_cons_succ, List.setIfInBounds_toArray, List.set_cons_zero, List.set_cons_succ]
  refine wpAnyH_take (i := 4) (v := ?_) rfl (by kernel_rfl) (by kernel_rfl) (by kernel_rfl) (fun _ _ _ h => (HP.out _ _ _ h).elim) (Or.inl ⟨by rfl, ?_⟩) (by assumption) ?_
  rotate_left
  · (intro W hSw; obtain ⟨⟨s1, s2, s4, s5, s6, s7, s8, s9, s10, s11, s12⟩, _⟩ := hSw; go_simp; try with_reducible rfl)
  try simp only [Act.put, List.getElem_toArray, List.getElem_cons_zero, List.getElem_cons_succ, List.setIfInBounds_toArray, List.set_cons_zero, List.set_cons_succ]
  refine wpAnyH_take (i := 5) (v := ?_) rfl (by kernel_rfl) (by kernel_rfl) (by kernel_rfl) (fun _ _ _ h => (HP.out _ _ _ h).elim) (Or.inl ⟨by rfl, ?_⟩) (by assumption) ?_
  rotate_left
  · (intro W hSw; obtain ⟨⟨s1, s2, s4, s5, s6, s7, s8, s9, s10, s11, s12⟩, _⟩ := hSw; go_simp; try with_reducible rfl)
  try simp only [Act.put, List.getElem_toArray, List.getElem_cons_zero, List.getElem_cons_succ, List.setIfInBounds_toArray, List.set_cons_zero, List.set_cons_succ]
  refine wpAnyH_take (i := 6) (v := ?_) rfl (by kernel_rfl) (by kernel_rfl) (by kernel_rfl) (fun _ _ _ h => (HP.out _ _ _ h).elim) (Or.inl ⟨by rfl, ?_⟩) (by assumption) ?_
  rotate_left
  · (intro W hSw; obtain ⟨⟨s1, s2, s4, s5, s6, s7, s8, s9, s10, s11, s12⟩, _⟩ := hSw; go_simp; try with_reducible rfl)
  try simp only [Act.put, List.getElem_toArray, List.getElem_cons_zero, List.getElem_cons_succ, List.setIfInBounds_toArray, List.set_cons_zero, List.set_cons_succ]
  refine wpAnyH_take (i := 7) (v := ?_) rfl (by kernel_rfl) (by kernel_rfl) (by kernel_rfl) (fun _ _ _ h => (HP.out _ _ _ h).elim) (Or.inl ⟨by rfl, ?_⟩) (by assumption) ?_
  rotate_left
  · (intro W hSw; obtain ⟨⟨s1, s2, s4, s5, s6, s7, s8, s9, s10, s11, s12⟩, _⟩ := hSw; go_simp; try with_reducible rfl)
  try simp only [Act.put, List.getElem_toArray, List.getElem_cons_zero, List.getElem_cons_succ, List.setIfInBounds_toArray, List.set_cons_zero, List.set_cons_succ]
  refine wpAnyH_take (i := 8) (v := ?_) rfl (by kernel_rfl) (by kernel_rfl) (by kernel_rfl) (fun _ _ _ h => (HP.out _ _ _ h).elim) (Or.inl ⟨by rfl, ?_⟩) (by assumption) ?_
  rotate_left
  · (intro W hSw; obtain ⟨⟨s1, s2, s4, s5, s6, s7, s8, s9, s10, s11, s12⟩, _⟩ := hSw; go_simp; try with_reducible rfl)
  try simp only [Act.put, List.getElem_toArray, List.getElem_cons_zero, List.getElem_cons_succ, List.setIfInBounds_toArray, List.set_cons_zero, List.set_cons_succ]
  refine wpAnyH_take (i := 9) (v := ?_) rfl (by kernel_rfl) (by kernel_rfl) (by kernel_rfl) (fun _ _ _ h => (HP.out _ _ _ h).elim) (Or.inl ⟨by rfl, ?_⟩) (by assumption) ?_
  rotate_left
  · (intro W hSw; obtain ⟨⟨s1, s2, s4, s5, s6, s7, s8, s9, s10, s11, s12⟩, _⟩ := hSw; go_simp; try with_reducible rfl)
  try simp only [Act.put, List.getElem_toArray, List.getElem_cons_zero, List.getElem_cons_succ, List.setIfInBounds_toArray, List.set_cons_zero, List.set_cons_succ]
  refine wpAnyH_take (i := 10) (v := ?_) rfl (by kernel_rfl) (by kernel_rfl) (by kernel_rfl) (fun _ _ _ h => (HP.out _ _ _ h).elim) (Or.inl ⟨by rfl, ?_⟩) (by assumption) ?_
  rotate_left
  · (intro W hSw; obtain ⟨⟨s1, s2, s4, s5, s6, s7, s8, s9, s10, s11, s12⟩, _⟩ := hSw; go_simp; try with_reducible rfl)
  try simp only [Act.put, List.getElem_toArray, List.getElem_cons_zero, List.getElem_cons_succ, List.setIfInBounds_toArray, List.set_cons_zero, List.set_cons_succ]
  refine wpAnyH_take (i := 11) (v := ?_) rfl (by kernel_rfl) (by kernel_rfl) (by kernel_rfl) (fun _ _ _ h => (HP.out _ _ _ h).elim) (Or.inl ⟨by rfl, ?_⟩) (by assumption) ?_
  rotate_left
  · (intro W hSw; obtain ⟨⟨s1, s2, s4, s5, s6, s7, s8, s9, s10, s11, s12⟩, _⟩ := hSw; go_simp; try with_reducible rfl)
  try simp only [Act.put, List.getElem_toArray, List.getElem_cons_zero, List.getElem_cons_succ, List.setIfInBounds_toArray, List.set_cons_zero, List.set_cons_succ]
  refine wpAnyH_take (i := 12) (v := ?_) rfl (by kernel_rfl) (by kernel_rfl) (by kernel_rfl) (fun _ _ _ h => (HP.out _ _ _ h).elim) (Or.inl ⟨by rfl, ?_⟩) (by assumption) ?_
  rotate_left
  · (intro W hSw; obtain ⟨⟨s1, s2, s4, s5, s6, s7, s8, s9, s10, s11, s12⟩, _⟩ := hSw; go_simp; try with_reducible rfl)
  try simp only [Act.put, List.getElem_toArray, List.getElem_cons_zero, List.getElem_cons_succ, List.setIfInBounds_toArray, List.set_cons_zero, List.set_cons_succ]
  refine wpAnyH_take (i := 13) (v := ?_) rfl (by kernel_rfl) (by kernel_rfl) (by kernel_rfl) (fun _ _ _ h => (HP.out _ _ _ h).elim) (Or.inl ⟨by rfl, ?_⟩) (by assumption) ?_
  rotate_left
  · (intro W hSw; obtain ⟨⟨s1, s2, s4, s5, s6, s7, s8, s9, s10, s11, s12⟩, _⟩ := hSw; go_simp; try with_reducible rfl)
  try simp only [Act.put, List.getElem_toArray, List.getElem_cons_zero, List.getElem_cons_succ, List.setIfInBounds_toArray, List.set_cons_zero, List.set_cons_succ]
  refine wpAnyH_take (i := 14) (v := ?_) rfl (by kernel_rfl) (by kernel_rfl) (by kernel_rfl) (fun _ _ _ h => (HP.out _ _ _ h).elim) (Or.inl ⟨by rfl, ?_⟩) (by assumption) ?_
  rotate_left
  · (intro W hSw; obtain ⟨⟨s1, s2, s4, s5, s6, s7, s8, s9, s10, s11, s12⟩, _⟩ := hSw; go_simp; try with_reducible rfl)
  try simp only [Act.put, List.getElem_toArray, List.getElem_cons_zero, List.getElem_cons_succ, List.setIfInBounds_toArray, List.set_cons_zero, List.set_cons_succ]
  refine wpAnyH_take (i := 15) (v := ?_) rfl (by kernel_rfl) (by kernel_rfl) (by kernel_rfl) (fun _ _ _ h => (HP.out _ _ _ h).elim) (Or.inl ⟨by rfl, ?_⟩) (by assumption) ?_
  rotate_left
  · (intro W hSw; obtain ⟨⟨s1, s2, s4, s5, s6, s7, s8, s9, s10, s11, s12⟩, _⟩ := hSw; go_simp; try with_reducible rfl)
  try simp only [Act.put, List.getElem_toArray, List.getElem_cons_zero, List.getElem_cons_succ, List.setIfInBounds_toArray, List.set_cons_zero, List.set_cons_succ]
  refine wpAnyH_ready (rs := [16]) (by kernel_rfl) (by simp) ?_
  refine AllReadyH.cons rfl (fun K hK => ?_) AllReadyH.nil
  obtain ⟨_, hb3', R3, hn3', hg3'⟩ := hHeld
  go_simp
  refine Calls.mono (copied23 x.m p _ (HM.out _ hb3') HL.out) ?_
  rintro e w4 ⟨p4, rfl, hO4, hB4⟩
  have HO4 := toHid hO4
  have HN4 := toHid (hn3'.below hB4)
  have HG4 := toHid (hg3'.keep (KeepC.below hB4))
  have HB4 := toHid (hb3'.trans (hB4.mono hb3'.size))
  clear hO4 hB4 hb3' hn3' hg3'
  try go_wp2_with fail
  refine hK.out _ _ (HSW.out w4 R3 HB4.out HN4.out HG4.out) (fun hHeld => ?_)
  clear hK K
  try simp only [Act.put, List.getElem_toArray, List.getElem_cons_zero, List.getElem_cons_succ, List.setIfInBounds_toArray, List.set_cons_zero, List.set_cons_succ]
  refine wpAnyH_ready (rs := [17]) (by kernel_rfl) (by simp) ?_
  refine AllReadyH.cons rfl (fun K hK => ?_) AllReadyH.nil
  clear hHeld
  go_simp
  refine Calls.mono (send_good HN4.out HG4.out x.frm x.tow x.m p4 HO4.out.mi HL.out) ?_
  rintro e w5 ⟨v5, R5, rfl, hN5, hG5, hT5⟩
  have HN5 := toHid hN5
  have HG5 := toHid hG5
  have HB5 := toHid (hT5.to HB4.out _hs HB4.out.size)
  clear hN5 hG5 hT5
  try go_wp2_with fail
  refine hK.out _ _ (HSW.out w5 R5 HB5.out HN5.out HG5.out) (fun hHeld => ?_)
  clear hK K hHeld
  try simp only [Act.put, List.getElem_toArray, List.getElem_cons_zero, List.getElem_cons_succ, List.setIfInBounds_toArray, List.set_cons_zero, List.set_cons_succ]
  refine wpAnyH_done (by kernel_rfl) ?_ _
  obtain ⟨s0, s1, s2, s3, s4, s5, s6, s7, s8, s9, s10, s11, s12⟩ := at13_cells (HA.out w5 HB5.out)
  simp only [Exit.then]
  go_wp2_with fail
  exact HF.out _ _ _ rfl rfl ⟨rfl, rfl, rfl, by show Value.int .i64 _ = _; simp⟩ HN5.out HG5.out HB5.out

set_option maxRecDepth 100000 in
set_option maxHeartbeats 3000000 in
theorem round8_take (w : World) (s n b o ln c : Nat) (inst : Int) (j : Nat) (u : Nat → Value) (wr : World) (x : Op1) (p : Pl) (R : Nat → List Nat) (hu : Sl8 s n (some ⟨b, o, none⟩) ln c inst j u) (hlt : j < ln) (h60 : j < 60) (_hs : w.heap.size ≤ s) (hA : ∀ W, Below w.heap.size w W → At13 W b (o + j * 13) x p) (hM : ∀ W, Below w.heap.size w W → MI W x.m p)
    (hN : NetOk wr s n R) (hG : AllGood wr n R) (hB : Below w.heap.size w wr) (hk : x.kind = 1) (Q0 : Exit → Act → World → Prop) (hP : ∀ c A W, ¬ Q0 (.panic c) A W) :
    Code.wp Try.prog loop8a (Exit.then (fun x w'' => I8 w s n (some ⟨b, o, none⟩) ln c inst (j + 1) x w'') Q0) (frameN 164 u) wr := by
  obtain ⟨h1, h2, h7, h9⟩ := hu
  rw [frame_open164, h1, h2, h7, h9]
  clear h1 h2 h7 h9
  have HA := toHid hA
  have HM := toHid hM
  have HN := toHid hN
  have HG := toHid hG
  have HB := toHid hB
  obtain ⟨s0, s1, s2, s3, s4, s5, s6, s7, s8, s9, s10, s11, s12⟩ := at13_cells (hA wr hB)
  have hj1 : (j : Int) < (ln : Int) := by omega
  have hj2 : (j : Int) < 60 := by omega
  have hj3 : 0 ≤ (j : Int) := by omega
  have z0 : (x.kind == 0) = false := by simp [hk]
  have z1 : (x.kind == 1) = true := by simp [hk]
  clear hk
  clear hA hM hN hB hG
  have HF : Hid (∀ (A : Act) (W : World) (R : Nat → List Nat), A.tmps.size = 164 → A.defers = [] → Sl8 s n (some ⟨b, o, none⟩) ln c inst (j + 1) (fun i => A.tmps.getD i undef) → NetOk W s n R → AllGood W n R → Below w.heap.size w W → Exit.then (fun x w'' => I8 w s n (some ⟨b, o, none⟩) ln c inst (j + 1) x w'') Q0 .normal A W) := by
    intro A W R hs hd hS hN hG hB
    exact ⟨_, R, frameN_lit 164 A hs hd, hS, hN, hG, hB⟩
  have HP : Hid (∀ ch A W, ¬ (Exit.then (fun x w'' => I8 w s n (some ⟨b, o, none⟩) ln c inst (j + 1) x w'') Q0) (.panic ch) A W) := fun ch A W h => hP ch A W h
  clear hP
  generalize (Exit.then (fun x w'' => I8 w s n (some ⟨b, o, none⟩) ln c inst (j + 1) x w'') Q0) = QA at HF HP ⊢
  conv => arg 2; whnf
  go_wp2_with fail
  refine wp_region_quiet_tail 11 Try.mixed (by kernel_rfl) ?_
  simp only [List.take_succ_cons, List.take_zero, List.drop_succ_cons, List.drop_zero]
  repeat (go_big_quiet_step (fail))
  refine wpQuiet_nil ?_
  go_wp2_with fail
  go_at_call 10
  refine Calls.mono (take_good (R := R) (HN.out.drew 1) (HG.out.keep (W' := wr.drew) (fun _ _ _ _ h => h)) x.frm x.tow) ?_
  rintro e w5 ⟨v5, R5, rfl, hN5, hG5, hT5⟩
  have HN5 := toHid hN5
  have HG5 := toHid hG5
  have HB5 := toHid (hT5.to HB.out.drew _hs HB.out.drew.size)
  clear hN5 hG5 hT5 s0 s1 s2 s3 s4 s5 s6 s7 s8 s9 s10 s11 s12
  go_wp2_with fail
  exact HF.out _ _ _ rfl rfl ⟨rfl, rfl, rfl, by show Value.int .i64 _ = _; simp⟩ HN5.out HG5.out HB5.out

set_option maxRecDepth 100000 in
set_option maxHeartbeats 3000000 in
theorem exit8a (s n : Nat) (a : Option Addr) (ln c : Nat) (inst : Int) (j : Nat) (hj : ¬ (j < ln ∧ j < 60)) (u : Nat → Value) (wr : World) (hu : Sl8 s n a ln c inst j u) (Q0 : Exit → Act → World → Prop) (R : Act → World → Prop)
    (hexit : ∀ u' : Nat → Value, u' 2 = .int .i64 inst → u' 7 = netP s n → Q0 (.exit 0) (frameN 164 u') wr) : Code.wp Try.prog loop8a (Exit.then R Q0) (frameN 164 u) wr := by
  obtain ⟨h1, h2, h7, h9⟩ := hu
  have HX := toHid hexit
  clear hexit
  rw [frame_open164, h1, h2, h7, h9]
  clear h1 h2 h7 h9
  conv => arg 2; whnf
  by_cases hlt : j < ln
  · have h60 : ¬ j < 60 := fun e => hj ⟨hlt, e⟩
    have e1 : (j : Int) < (ln : Int) := by omega
    have e2 : ¬ (j : Int) < 60 := by omega
    go_wp2_with fail
    rw [frameN_lit 164 ⟨_, _⟩ rfl rfl]
    exact HX.out _ rfl rfl
  · have e1 : ¬ (j : Int) < (ln : Int) := by omega
    go_wp2_with fail
    rw [frameN_lit 164 ⟨_, _⟩ rfl rfl]
    exact HX.out _ rfl rfl

theorem loop8a_wp (w : World) (s n : Nat) (a : Option Addr) (l : List Op1) (c : Nat) (inst : Int) (hops : SlO w a l) (hs : w.heap.size ≤ s) (u : Nat → Value) (W : World) (hu : Sl8 s n a l.length c inst 0 u) (R : Nat → List Nat) (hN : NetOk W s n R) (hG : AllGood W n R) (hB : Below w.heap.size w W)
    (Q0 : Exit → Act → World → Prop) (hP : ∀ c A W, ¬ Q0 (.panic c) A W) (hexit : ∀ (u' : Nat → Value) (W' : World) (R' : Nat → List Nat), u' 2 = .int .i64 inst → u' 7 = netP s n → NetOk W' s n R' → AllGood W' n R' → Below w.heap.size w W' → Q0 (.exit 0) (frameN 164 u') W') : Code.wp Try.prog (Code.loop loop8a) Q0 (frameN 164 u) W := by
  refine wp_loop (fun x w' => ∃ j, j ≤ l.length ∧ I8 w s n a l.length c inst j x w') (fun x _ => l.length - (intOf (x.tmps.getD 9 undef)).toNat) ⟨0, by omega, u, R, rfl, hu, hN, hG, hB⟩ ?_
  rintro x w' ⟨j, hjl, u', R', rfl, hu', hN', hG', hB'⟩
  by_cases hj : j < l.length ∧ j < 60
  · have key : Code.wp Try.prog loop8a (Exit.then (fun x w'' => I8 w s n a l.length c inst (j + 1) x w'') Q0) (frameN 164 u') w' := by
      obtain ⟨b, o, p, rfl, hb, hA, hM⟩ := hops.get j hj.1
      have hA' : ∀ W, Below w.heap.size w W → At13 W b (o + j * 13) l[j] p := fun W hW => at13_below hA hW hb
      have hM' : ∀ W, Below w.heap.size w W → MI W l[j].m p := fun W hW => hM.below hW
      by_cases hk : l[j].kind = 0
      · by_cases hS : Small l[j].m
        · exact round8_send w s n b o l.length c inst j u' w' l[j] p R' hu' hj.1 hj.2 hs hA' hM' hN' hG' hB' hk hS Q0 hP
        · exact round8_big w s n b o l.length c inst j u' w' l[j] p R' hu' hj.1 hj.2 hs hA' hM' hN' hG' hB' hk hS Q0 hP
      · by_cases hk1 : l[j].kind = 1
        · exact round8_take w s n b o l.length c inst j u' w' l[j] p R' hu' hj.1 hj.2 hs hA' hM' hN' hG' hB' hk1 Q0 hP
        · exact round8_no w s n b o l.length c inst j u' w' l[j] p R' hu' hj.1 hj.2 hs hA' hM' hN' hG' hB' hk hk1 Q0 hP
    refine Code.wp_mono ?_ key
    intro e x w'' h'
    cases e <;> first | exact h' | skip
    refine ⟨⟨j + 1, by omega, h'⟩, ?_⟩
    obtain ⟨u'', R'', rfl, hu'', _, _, _⟩ := h'
    show l.length - (intOf (u'' 9)).toNat < l.length - (intOf (u' 9)).toNat
    rw [hu''.h9, hu'.h9]
    simp only [intOf]
    omega
  · exact exit8a s n a l.length c inst j hj u' w' hu' Q0 _ (fun u'' k2 k7 => hexit u'' w' R' k2 k7 hN' hG' hB')

end Go.Proofs.Ytfdpmffoajjchaa
