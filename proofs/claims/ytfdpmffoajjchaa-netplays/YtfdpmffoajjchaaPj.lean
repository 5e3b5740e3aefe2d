/-
  NetPlays: a step that sends: one round of its loop.
-/
import Derived.Test.YtfdpmffoajjchaaPi
namespace Go.Proofs.Ytfdpmffoajjchaa
open Go.RowKit Go.Conc

set_option maxRecDepth 100000 in
set_option maxHeartbeats 4000000 in
theorem round20 (w : World) (s n : Nat) (D : Nat × Array Value) (B : Nat) (lim : Int) (x : Op1) (p : Pl) (Z : Array Value) (i : Nat) (u : Nat → Value) (wr : World) (R : Nat → List Nat) (MM : Nat → Ms) (PL : Nat → Pl) (v : Value) (its : List It) (hu : Sl20 s n B lim i u) (hlt : (i : Int) < lim) (h260 : i < 260) (hL : Lim x.m) (hM : ∀ W, Below w.heap.size w W → MI W x.m p) (hwB : w.heap.size ≤ B)
    (hS : Sim w wr s n R MM PL v its) (hX : BoxS D B wr #[.int .i64 n, v] (opA x p) Z) (Q0 : Exit → Act → World → Prop) (hP : ∀ ch A W, ¬ Q0 (.panic ch) A W) :
    Code.wp Try.prog loop20a (Exit.then (fun A W => I20 w s n D B lim x p Z (i + 1) A W) Q0) (frameN 149 u) wr := by
  obtain ⟨a, c, rfl⟩ := ownsRow_shape hS.row
  obtain ⟨h0, h4, h5, h6, h8, h9⟩ := hu
  rw [frame_open149, h0, h4, h5, h6, h8, h9]
  clear h0 h4 h5 h6 h8 h9
  have HP : Hid (∀ ch A W, ¬ (Exit.then (fun A W => I20 w s n D B lim x p Z (i + 1) A W) Q0) (.panic ch) A W) := fun ch A W h => hP ch A W h
  have HRest0 : Hid (∀ (w2 w3 : World) (p1 : Pl), Below wr.heap.size wr w2 → Own w2 wr.heap.size x.m p1 → Below w2.heap.size w2 w3 → w3.heap[w2.heap.size]? = some (.cells (msC (num x.m i) p1) 31) → ∀ (A : Act) (W5 : World) (A1 C : Nat) (v' : Value) (p3 : Pl), A.tmps.size = 149 → A.defers = [] → Sl20 s n B lim i (fun i => A.tmps.getD i undef) → A.tmps.getD 10 undef = .pointer (some ⟨w2.heap.size, 0, none⟩) → A.tmps.getD 11 undef = .pointer (some ⟨A1, 0, none⟩) → A.tmps.getD 12 undef = .int .i64 (ecd n R x.frm x.tow) →
      Below w3.heap.size w3 W5 → W5.heap[A1]? = some (.cells #[.int .i64 n, v'] 45) → RefP W5 w.heap.size (.slice a its.length c) v' its ⟨x.frm, x.tow, num x.m i, p3⟩ (ecd n R x.frm x.tow) → Own W5 C (num x.m i) p3 → w3.heap.size ≤ C →
      Code.wp Try.prog rest20 (Exit.inBlock 2 (Exit.then (fun A W => Code.wp Try.prog reg20 (Exit.then (fun A W => I20 w s n D B lim x p Z (i + 1) A W) Q0) A W) (Exit.then (fun A W => I20 w s n D B lim x p Z (i + 1) A W) Q0))) A W5) := by
    intro w2 w3 p1 hB2 hO1 hB3 hC3 A W5 A1 C v' p3 hs hd hu h10 h11 h12 hB5 hA1 hP5 hO3 hC
    have hz2 := hB2.size
    have hz3 := hB3.size
    have hbw3 : Below wr.heap.size wr w3 := hB2.trans (hB3.mono hz2)
    have hbw5 : Below wr.heap.size wr W5 := hbw3.trans (hB5.mono (by omega))
    have ho1 : Own W5 wr.heap.size (num x.m i) p1 := (((own_num hO1 i).keep (KeepC.below hB3)).keep (KeepC.below hB5))
    rw [frameN_lit 149 A hs hd]
    exact rest20_wp w s n D B lim x p Z i _ wr W5 R MM PL a c v' its p1 p3 w2.heap.size A1 C hu h10 h11 h12 h260 hL hwB hS hX hbw5 (KeepC.below hB5 _ _ _ _ hC3) hA1 ho1 hP5 hO3 (by omega) ((own_till hO1).mono (by omega)) Q0
  clear hP
  generalize (Exit.then (fun A W => I20 w s n D B lim x p Z (i + 1) A W) Q0) = QA at HP HRest0 ⊢
  have HS := toHid hS
  have HX := toHid hX
  have HM := toHid hM
  have HL := toHid hL
  have HLn := toHid (num_lim hL i)
  have hi2 : (i : Int) < 260 := by omega
  obtain ⟨o0, o1, o2, o3, o4, o5, o6, o7, o8, o9, o10, o11, o12⟩ := cell13 hX.h1
  clear hS hX hM hL
  unfold rest20 reg20 at HRest0
  unfold loop20a at HRest0 ⊢
  conv => arg 2; whnf
  refine wp_seq_k fun K8 hK8 => ?_
  have HK8 := toHid hK8
  clear hK8
  go_wp2_with fail
  refine HK8.out _ _ ?_
  clear HK8
  refine wp_seq_k fun K9 hK9 => ?_
  have HMono : Hid (∀ e A W, (Exit.inBlock 2 (Exit.then (fun A W => Code.wp Try.prog (tailOf 2 ((((Try.f20.body.map loopsOf).getD [])[0]?).getD .skip)) QA A W) QA)) e A W → (Exit.inBlock 2 (Exit.then K9 QA)) e A W) := by
    intro e A Wx hq
    cases e with
    | normal => exact hK9 _ _ hq
    | exit id =>
      simp only [Exit.inBlock] at hq ⊢
      split at hq
      · rename_i hid
        rw [if_pos hid]
        exact hK9 _ _ hq
      · rename_i hid
        rw [if_neg hid]
        exact hq
    | goto l => exact hq
    | ret => exact hq
    | panic ch => exact hq
    | outgrown => exact hq
  clear hK9
  refine wp_block ?_
  refine wp_seq_k fun K10 hK10 => ?_
  have HK10 := toHid hK10
  clear hK10
  go_wp2_with fail
  go_at_call 23
  refine Calls.mono (copied23 x.m p wr (HM.out _ HS.out.bel) HL.out) ?_
  rintro e w2 ⟨p1, rfl, hO1, hB2⟩
  have HO1 := toHid hO1
  have HB2 := toHid hB2
  clear hO1 hB2 o0 o1 o2 o3 o4 o5 o6 o7 o8 o9 o10 o11 o12
  go_wp2_with fail
  refine HK10.out _ _ ?_
  clear HK10
  have hcell : (w2.alloc (.cells (msC x.m p1) 31)).heap[w2.heap.size]? = some (.cells (msC x.m p1) 31) := heap_alloc_new _ _
  have hset : (w2.alloc (.cells #[.int .i64 x.m.kind, .int .i64 (i : Nat), .int .i64 x.m.page, .int .i64 x.m.to, .bool x.m.fast, .int .u64 (x.m.lsn : Int), .slice p1.wa x.m.wants.length p1.wc, .slice p1.pa x.m.pages.length p1.pc, .string (txt x.m.body)] 31)).heap[w2.heap.size]? = some (.cells (msC (num x.m i) p1) 31) := heap_alloc_new _ _
  have hb3 : Below w2.heap.size w2 (w2.alloc (.cells #[.int .i64 x.m.kind, .int .i64 (i : Nat), .int .i64 x.m.page, .int .i64 x.m.to, .bool x.m.fast, .int .u64 (x.m.lsn : Int), .slice p1.wa x.m.wants.length p1.wc, .slice p1.pa x.m.pages.length p1.pc, .string (txt x.m.body)] 31)) := (Below.refl _ _).alloc (Nat.le_refl _) _
  have HC3 := toHid hset
  have HB3 := toHid hb3
  obtain ⟨z0, z1, z2, z3, z4, z5, z6, z7, z8, zf⟩ := cell9 hcell
  clear hcell hset hb3
  refine wp_seq_k fun K11 hK11 => ?_
  have HK11 := toHid hK11
  clear hK11
  go_wp2_with fail
  refine HK11.out _ _ ?_
  clear HK11 z0 z1 z2 z3 z4 z5 z6 z7 z8 zf
  generalize hw3 : (w2.alloc (.cells #[.int .i64 x.m.kind, .int .i64 (i : Nat), .int .i64 x.m.page, .int .i64 x.m.to, .bool x.m.fast, .int .u64 (x.m.lsn : Int), .slice p1.wa x.m.wants.length p1.wc, .slice p1.pa x.m.pages.length p1.pc, .string (txt x.m.body)] 31)) = w3 at HC3 HB3 ⊢
  clear hw3
  have HRest := toHid (HRest0.out w2 w3 p1 HB2.out HO1.out HB3.out HC3.out)
  clear HRest0
  have hbw3 : Below wr.heap.size wr w3 := HB2.out.trans (HB3.out.mono HB2.out.size)
  have HSk : Hid (∀ W, Below w3.heap.size w3 W → Sim w W s n R MM PL (.slice a its.length c) its) := fun W hW => (HS.out.below hbw3).below hW
  have HOk : Hid (∀ W, Below w3.heap.size w3 W → Own W wr.heap.size (num x.m i) p1) := fun W hW => (((own_num HO1.out i).keep (KeepC.below HB3.out)).keep (KeepC.below hW))
  have HSW : Hid (∀ W, Below w3.heap.size w3 W → (fun W => (W.cell? ⟨B, 0, none⟩ = some (.int .i64 n) ∧ W.cell? ⟨B, 1, none⟩ = some (.slice a its.length c) ∧ W.cell? ⟨B + 1, 1, none⟩ = some (.int .i64 x.frm) ∧ W.cell? ⟨B + 1, 2, none⟩ = some (.int .i64 x.tow) ∧ W.cell? ⟨w2.heap.size, 0, none⟩ = some (.int .i64 x.m.kind) ∧ W.cell? ⟨w2.heap.size, 1, none⟩ = some (.int .i64 (i : Nat)) ∧ W.cell? ⟨w2.heap.size, 2, none⟩ = some (.int .i64 x.m.page) ∧ W.cell? ⟨w2.heap.size, 3, none⟩ = some (.int .i64 x.m.to) ∧ W.cell? ⟨w2.heap.size, 4, none⟩ = some (.bool x.m.fast) ∧ W.cell? ⟨w2.heap.size, 5, none⟩ = some (.int .u64 (x.m.lsn : Int)) ∧ W.cell? ⟨w2.heap.size, 6, none⟩ = some (.slice p1.wa x.m.wants.length p1.wc) ∧ W.cell? ⟨w2.heap.size, 7, none⟩ = some (.slice p1.pa x.m.pages.length p1.pc) ∧ W.cell? ⟨w2.heap.size, 8, none⟩ = some (.string (txt x.m.body))) ∧ Hid (Below w3.heap.size w3 W)) W) := by
    intro W hW
    have hx := (HX.out.keep (KeepC.below hbw3)).keep (KeepC.below hW)
    obtain ⟨x0, x1, xf⟩ := cell2 hx.h0
    obtain ⟨o0, o1, o2, o3, o4, o5, o6, o7, o8, o9, o10, o11, o12⟩ := cell13 hx.h1
    obtain ⟨m0, m1, m2, m3, m4, m5, m6, m7, m8, mf⟩ := cell9 (KeepC.below hW _ _ _ _ HC3.out)
    exact ⟨⟨x0, x1, o1, o2, m0, m1, m2, m3, m4, m5, m6, m7, m8⟩, hW⟩
  clear hbw3
  refine wp_seq_k fun K12 hK12 => ?_
  have HK12 := toHid hK12
  clear hK12
  refine wp_region_held_drew (S := fun W => (W.cell? ⟨B, 0, none⟩ = some (.int .i64 n) ∧ W.cell? ⟨B, 1, none⟩ = some (.slice a its.length c) ∧ W.cell? ⟨B + 1, 1, none⟩ = some (.int .i64 x.frm) ∧ W.cell? ⟨B + 1, 2, none⟩ = some (.int .i64 x.tow) ∧ W.cell? ⟨w2.heap.size, 0, none⟩ = some (.int .i64 x.m.kind) ∧ W.cell? ⟨w2.heap.size, 1, none⟩ = some (.int .i64 (i : Nat)) ∧ W.cell? ⟨w2.heap.size, 2, none⟩ = some (.int .i64 x.m.page) ∧ W.cell? ⟨w2.heap.size, 3, none⟩ = some (.int .i64 x.m.to) ∧ W.cell? ⟨w2.heap.size, 4, none⟩ = some (.bool x.m.fast) ∧ W.cell? ⟨w2.heap.size, 5, none⟩ = some (.int .u64 (x.m.lsn : Int)) ∧ W.cell? ⟨w2.heap.size, 6, none⟩ = some (.slice p1.wa x.m.wants.length p1.wc) ∧ W.cell? ⟨w2.heap.size, 7, none⟩ = some (.slice p1.pa x.m.pages.length p1.pc) ∧ W.cell? ⟨w2.heap.size, 8, none⟩ = some (.string (txt x.m.body))) ∧ Hid (Below w3.heap.size w3 W)) (by kernel_rfl) (HSW.out _ ((Below.refl _ w3).drew)) (fun hHeld => ?_)
  have HBd : Hid (Below w3.heap.size w3 w3.drew) := (Below.refl _ w3).drew
  generalize hwd : w3.drew = wd at HBd hHeld ⊢
  clear hwd
  refine wpAnyH_take (i := 0) (v := ?_) rfl (by kernel_rfl) (by kernel_rfl) (by kernel_rfl) (fun _ _ _ h => (HP.out _ _ _ h).elim) (Or.inl ⟨by rfl, ?_⟩) (by assumption) ?_
  rotate_left
  · (intro W hSw; obtain ⟨⟨x0, x1, o1, o2, m0, m1, m2, m3, m4, m5, m6, m7, m8⟩, _⟩ := hSw; go_simp; try with_reducible rfl)
  try simp only [Act.put, List.getElem_toArray, List.getElem_cons_zero, List.setIfInBounds_toArray, List.set_cons_zero, List.set_cons_succ]
  refine wpAnyH_take (i := 1) (v := ?_) rfl (by kernel_rfl) (by kernel_rfl) (by kernel_rfl) (fun _ _ _ h => (HP.out _ _ _ h).elim) (Or.inl ⟨by rfl, ?_⟩) (by assumption) ?_
  rotate_left
  · (intro W hSw; obtain ⟨⟨x0, x1, o1, o2, m0, m1, m2, m3, m4, m5, m6, m7, m8⟩, _⟩ := hSw; go_simp; try with_reducible rfl)
  try simp only [Act.put, List.getElem_toArray, List.getElem_cons_zero, List.getElem_cons_succ, List.setIfInBounds_toArray, List.set_cons_zero, List.set_cons_succ]
  refine wpAnyH_take (i := 2) (v := ?_) rfl (by kernel_rfl) (by kernel_rfl) (by kernel_rfl) (fun _ _ _ h => (HP.out _ _ _ h).elim) (Or.inl ⟨by rfl, ?_⟩) (by assumption) ?_
  rotate_left
  · (intro W hSw; obtain ⟨⟨x0, x1, o1, o2, m0, m1, m2, m3, m4, m5, m6, m7, m8⟩, _⟩ := hSw; go_simp; try with_reducible rfl)
  try simp only [Act.put, List.getElem_toArray, List.getElem_cons_zero, List.getElem_cons_succ, List.setIfInBounds_toArray, List.set_cons_zero, List.set_cons_succ]
  refine wpAnyH_take (i := 3) (v := ?_) rfl (by kernel_rfl) (by kernel_rfl) (by kernel_rfl) (fun _ _ _ h => (HP.out _ _ _ h).elim) (Or.inl ⟨by rfl, ?_⟩) (by assumption) ?_
  rotate_left
  · (intro W hSw; obtain ⟨⟨x0, x1, o1, o2, m0, m1, m2, m3, m4, m5, m6, m7, m8⟩, _⟩ := hSw; go_simp; try with_reducible rfl)
  try simp only [Act.put, List.getElem_toArray, List.getElem_cons_zero, List.getElem_cons_succ, List.setIfInBounds_toArray, List.set_cons_zero, List.set_cons_succ]
  refine wpAnyH_take (i := 4) (v := ?_) rfl (by kernel_rfl) (by kernel_rfl) (by kernel_rfl) (fun _ _ _ h => (HP.out _ _ _ h).elim) (Or.inl ⟨by rfl, ?_⟩) (by assumption) ?_
  rotate_left
  · (intro W hSw; obtain ⟨⟨x0, x1, o1, o2, m0, m1, m2, m3, m4, m5, m6, m7, m8⟩, _⟩ := hSw; go_simp; try with_reducible rfl)
  try simp only [Act.put, List.getElem_toArray, List.getElem_cons_zero, List.getElem_cons_succ, List.setIfInBounds_toArray, List.set_cons_zero, List.set_cons_succ]
  refine wpAnyH_take (i := 5) (v := ?_) rfl (by kernel_rfl) (by kernel_rfl) (by kernel_rfl) (fun _ _ _ h => (HP.out _ _ _ h).elim) (Or.inl ⟨by rfl, ?_⟩) (by assumption) ?_
  rotate_left
  · (intro W hSw; obtain ⟨⟨x0, x1, o1, o2, m0, m1, m2, m3, m4, m5, m6, m7, m8⟩, _⟩ := hSw; go_simp; try with_reducible rfl)
  try simp only [Act.put, List.getElem_toArray, List.getElem_cons_zero, List.getElem_cons_succ, List.setIfInBounds_toArray, List.set_cons_zero, List.set_cons_succ]
  refine wpAnyH_ready (rs := [6, 11]) (by kernel_rfl) (by simp) ?_
  refine AllReadyH.cons rfl (fun K hK => ?_) (AllReadyH.cons rfl (fun K hK => ?_) AllReadyH.nil)
  · clear hHeld
    go_simp
    refine Calls.mono (copied23 (num x.m i) p1 wd (HOk.out _ HBd.out).mi HLn.out) ?_
    rintro e wA ⟨p3, rfl, hO3, hBx⟩
    have HBA := toHid (Below.trans HBd.out (hBx.mono HBd.out.size))
    have HO3 := toHid hO3
    have HCx : Hid (w3.heap.size ≤ wd.heap.size) := HBd.out.size
    clear hO3 hBx
    try go_wp2_with fail
    refine hK.out _ wA (HSW.out wA HBA.out) (fun hHeld => ?_)
    clear hK K
    try simp only [Act.put, List.getElem_toArray, List.getElem_cons_zero, List.getElem_cons_succ, List.setIfInBounds_toArray, List.set_cons_zero, List.set_cons_succ]
    refine wpAnyH_ready (rs := [7, 11]) (by kernel_rfl) (by simp) ?_
    refine AllReadyH.cons rfl (fun K hK => ?_) (AllReadyH.cons rfl (fun K hK => ?_) AllReadyH.nil)
    · clear hHeld
      go_simp
      refine Calls.mono (refAny (HSk.out _ HBA.out) x.frm x.tow (num x.m i) p3) ?_
      rintro e wB ⟨v', rfl, hBx, hPx⟩
      obtain ⟨a', k', c', rfl⟩ : ∃ a' k' c', v' = .slice a' k' c' := by
        rcases hPx with ⟨_, e⟩ | ⟨_, e⟩
        · exact ⟨_, _, _, e⟩
        · obtain ⟨a', c', rfl⟩ := ownsRow_shape e
          exact ⟨_, _, _, rfl⟩
      have HBB := toHid (Below.trans HBA.out (hBx.mono HBA.out.size))
      have HPB := toHid hPx
      have HO3B := toHid (HO3.out.keep (KeepC.below hBx))
      clear hPx hBx
      try go_wp2_with fail
      refine hK.out _ wB (HSW.out wB HBB.out) (fun hHeld => ?_)
      clear hK K
      try simp only [Act.put, List.getElem_toArray, List.getElem_cons_zero, List.getElem_cons_succ, List.setIfInBounds_toArray, List.set_cons_zero, List.set_cons_succ]
      refine wpAnyH_take (i := 8) (v := ?_) rfl (by kernel_rfl) (by kernel_rfl) (by kernel_rfl) (fun _ _ _ h => (HP.out _ _ _ h).elim) (Or.inl ⟨by rfl, ?_⟩) (by assumption) ?_
      rotate_left
      · (intro W hSw; obtain ⟨⟨x0, x1, o1, o2, m0, m1, m2, m3, m4, m5, m6, m7, m8⟩, _⟩ := hSw; go_simp; try with_reducible rfl)
      try simp only [Act.put, List.getElem_toArray, List.getElem_cons_zero, List.getElem_cons_succ, List.setIfInBounds_toArray, List.set_cons_zero, List.set_cons_succ]
      refine wpAnyH_take (i := 9) (v := ?_) rfl (by kernel_rfl) (by kernel_rfl) (by kernel_rfl) (fun _ _ _ h => (HP.out _ _ _ h).elim) (Or.inl ⟨by rfl, ?_⟩) (by assumption) ?_
      rotate_left
      · (intro W hSw; obtain ⟨⟨x0, x1, o1, o2, m0, m1, m2, m3, m4, m5, m6, m7, m8⟩, _⟩ := hSw; go_simp; try with_reducible rfl)
      try simp only [Act.put, List.getElem_toArray, List.getElem_cons_zero, List.getElem_cons_succ, List.setIfInBounds_toArray, List.set_cons_zero, List.set_cons_succ]
      refine wpAnyH_take (i := 10) (v := ?_) rfl (by kernel_rfl) (by kernel_rfl) (by kernel_rfl) (fun _ _ _ h => (HP.out _ _ _ h).elim) (Or.inl ⟨by rfl, ?_⟩) (by assumption) ?_
      rotate_left
      · (intro W hSw; obtain ⟨⟨x0, x1, o1, o2, m0, m1, m2, m3, m4, m5, m6, m7, m8⟩, _⟩ := hSw; go_simp; try with_reducible rfl)
      try simp only [Act.put, List.getElem_toArray, List.getElem_cons_zero, List.getElem_cons_succ, List.setIfInBounds_toArray, List.set_cons_zero, List.set_cons_succ]
      refine wpAnyH_ready (rs := [11]) (by kernel_rfl) (by simp) ?_
      refine AllReadyH.cons rfl (fun K hK => ?_) AllReadyH.nil
      clear hHeld
      go_simp
      have hbz : Below wB.heap.size wB (wB.alloc (.cells #[.int .i64 0, .slice none 0 0] 45)) := (Below.refl _ _).alloc (Nat.le_refl _) _
      have HBC := toHid (Below.trans HBB.out (hbz.mono HBB.out.size))
      have HAx : Hid ((wB.alloc (.cells #[.int .i64 0, .slice none 0 0] 45)).heap[wB.heap.size]? = some (.cells #[.int .i64 0, .slice none 0 0] 45)) := heap_alloc_new _ _
      have HAz : Hid (w3.heap.size ≤ wB.heap.size) := HBB.out.size
      have HO3C := toHid (HO3B.out.keep (KeepC.below hbz))
      have HPC := toHid (HPB.out.keep (KeepC.below hbz))
      clear hbz
      refine hK.out _ (wB.alloc (.cells #[.int .i64 0, .slice none 0 0] 45)) (HSW.out _ HBC.out) (fun hHeld => ?_)
      clear hK K
      try simp only [Act.put, List.getElem_toArray, List.getElem_cons_zero, List.getElem_cons_succ, List.setIfInBounds_toArray, List.set_cons_zero, List.set_cons_succ]
      generalize hwC : wB.alloc (.cells #[.int .i64 0, .slice none 0 0] 45) = wC at HBC HAx HO3C HPC hHeld ⊢
      clear hwC
      refine wpAnyH_ready (rs := [12]) (by kernel_rfl) (by simp) ?_
      refine AllReadyH.cons rfl (fun K hK => ?_) AllReadyH.nil
      clear hHeld
      obtain ⟨y0, y1, yf⟩ := cell2 HAx.out
      go_simp
      have hk5 : ∀ k, k ≠ wB.heap.size → ((wC.setCell ⟨wB.heap.size, 0, none⟩ (.int .i64 (n : Int))).setCell ⟨wB.heap.size, 1, none⟩ (.slice a' k' c')).heap[k]? = wC.heap[k]? := fun k hk => by rw [heap_setCell_other _ _ _ _ hk, heap_setCell_other _ _ _ _ hk]
      have HB5 : Hid (Below w3.heap.size w3 ((wC.setCell ⟨wB.heap.size, 0, none⟩ (.int .i64 (n : Int))).setCell ⟨wB.heap.size, 1, none⟩ (.slice a' k' c'))) := (Below.setCell HBC.out (p := ⟨wB.heap.size, 0, none⟩) HAz.out _).setCell (p := ⟨wB.heap.size, 1, none⟩) HAz.out _
      have HA5 := toHid (put2_same (.int .i64 (n : Int)) (.slice a' k' c') HAx.out)
      have HO5 := toHid (own_box HAx.out hk5 HO3C.out)
      have HP5 : Hid (RefP ((wC.setCell ⟨wB.heap.size, 0, none⟩ (.int .i64 (n : Int))).setCell ⟨wB.heap.size, 1, none⟩ (.slice a' k' c')) w.heap.size (.slice a its.length c) (.slice a' k' c') its ⟨x.frm, x.tow, num x.m i, p3⟩ (ecd n R x.frm x.tow)) := by
        rcases HPC.out with q | ⟨q1, q2⟩
        · exact .inl q
        · exact .inr ⟨q1, own_stay q2 (fun k cc _ hc => by rw [hc]; exact keep_box HAx.out hk5 hc (by decide))⟩
      clear hk5 y0 y1 yf
      refine hK.out _ ((wC.setCell ⟨wB.heap.size, 0, none⟩ (.int .i64 (n : Int))).setCell ⟨wB.heap.size, 1, none⟩ (.slice a' k' c')) (HSW.out _ HB5.out) (fun hHeld => ?_)
      clear hK K
      try simp only [Act.put, List.getElem_toArray, List.getElem_cons_zero, List.getElem_cons_succ, List.setIfInBounds_toArray, List.set_cons_zero, List.set_cons_succ]
      refine wpAnyH_take (i := 13) (v := ?_) rfl (by kernel_rfl) (by kernel_rfl) (by kernel_rfl) (fun _ _ _ h => (HP.out _ _ _ h).elim) (Or.inl ⟨by rfl, ?_⟩) (by assumption) ?_
      rotate_left
      · (intro W hSw; obtain ⟨⟨x0, x1, o1, o2, m0, m1, m2, m3, m4, m5, m6, m7, m8⟩, _⟩ := hSw; go_simp; try with_reducible rfl)
      try simp only [Act.put, List.getElem_toArray, List.getElem_cons_zero, List.getElem_cons_succ, List.setIfInBounds_toArray, List.set_cons_zero, List.set_cons_succ]
      refine wpAnyH_done (by kernel_rfl) ?_ _
      clear hHeld
      refine HK12.out _ _ ?_
      refine wp_mono (HRest.out _ _ wB.heap.size wd.heap.size _ p3 rfl rfl ⟨rfl, rfl, rfl, rfl, rfl, rfl⟩ rfl rfl rfl HB5.out HA5.out HP5.out HO5.out HCx.out) ?_
      exact HMono.out
    · clear hHeld
      go_simp
      have hbz : Below wA.heap.size wA (wA.alloc (.cells #[.int .i64 0, .slice none 0 0] 45)) := (Below.refl _ _).alloc (Nat.le_refl _) _
      have HBC := toHid (Below.trans HBA.out (hbz.mono HBA.out.size))
      have HAx : Hid ((wA.alloc (.cells #[.int .i64 0, .slice none 0 0] 45)).heap[wA.heap.size]? = some (.cells #[.int .i64 0, .slice none 0 0] 45)) := heap_alloc_new _ _
      have HAz : Hid (w3.heap.size ≤ wA.heap.size) := HBA.out.size
      have HO3 := toHid (HO3.out.keep (KeepC.below hbz))
      clear hbz
      refine hK.out _ (wA.alloc (.cells #[.int .i64 0, .slice none 0 0] 45)) (HSW.out _ HBC.out) (fun hHeld => ?_)
      clear hK K
      try simp only [Act.put, List.getElem_toArray, List.getElem_cons_zero, List.getElem_cons_succ, List.setIfInBounds_toArray, List.set_cons_zero, List.set_cons_succ]
      refine wpAnyH_ready (rs := [7]) (by kernel_rfl) (by simp) ?_
      refine AllReadyH.cons rfl (fun K hK => ?_) AllReadyH.nil
      clear hHeld
      go_simp
      refine Calls.mono (refAny (HSk.out _ HBC.out) x.frm x.tow (num x.m i) p3) ?_
      rintro e wB ⟨v', rfl, hBx, hPx⟩
      obtain ⟨a', k', c', rfl⟩ : ∃ a' k' c', v' = .slice a' k' c' := by
        rcases hPx with ⟨_, e⟩ | ⟨_, e⟩
        · exact ⟨_, _, _, e⟩
        · obtain ⟨a', c', rfl⟩ := ownsRow_shape e
          exact ⟨_, _, _, rfl⟩
      have HBB := toHid (Below.trans HBC.out (hBx.mono HBC.out.size))
      have HPB := toHid hPx
      have HO3B := toHid (HO3.out.keep (KeepC.below hBx))
      have HAy := toHid ((KeepC.below hBx) _ _ _ _ HAx.out)
      clear hPx hBx
      try go_wp2_with fail
      refine hK.out _ wB (HSW.out wB HBB.out) (fun hHeld => ?_)
      clear hK K
      try simp only [Act.put, List.getElem_toArray, List.getElem_cons_zero, List.getElem_cons_succ, List.setIfInBounds_toArray, List.set_cons_zero, List.set_cons_succ]
      refine wpAnyH_take (i := 8) (v := ?_) rfl (by kernel_rfl) (by kernel_rfl) (by kernel_rfl) (fun _ _ _ h => (HP.out _ _ _ h).elim) (Or.inl ⟨by rfl, ?_⟩) (by assumption) ?_
      rotate_left
      · (intro W hSw; obtain ⟨⟨x0, x1, o1, o2, m0, m1, m2, m3, m4, m5, m6, m7, m8⟩, _⟩ := hSw; go_simp; try with_reducible rfl)
      try simp only [Act.put, List.getElem_toArray, List.getElem_cons_zero, List.getElem_cons_succ, List.setIfInBounds_toArray, List.set_cons_zero, List.set_cons_succ]
      refine wpAnyH_take (i := 9) (v := ?_) rfl (by kernel_rfl) (by kernel_rfl) (by kernel_rfl) (fun _ _ _ h => (HP.out _ _ _ h).elim) (Or.inl ⟨by rfl, ?_⟩) (by assumption) ?_
      rotate_left
      · (intro W hSw; obtain ⟨⟨x0, x1, o1, o2, m0, m1, m2, m3, m4, m5, m6, m7, m8⟩, _⟩ := hSw; go_simp; try with_reducible rfl)
      try simp only [Act.put, List.getElem_toArray, List.getElem_cons_zero, List.getElem_cons_succ, List.setIfInBounds_toArray, List.set_cons_zero, List.set_cons_succ]
      refine wpAnyH_take (i := 10) (v := ?_) rfl (by kernel_rfl) (by kernel_rfl) (by kernel_rfl) (fun _ _ _ h => (HP.out _ _ _ h).elim) (Or.inl ⟨by rfl, ?_⟩) (by assumption) ?_
      rotate_left
      · (intro W hSw; obtain ⟨⟨x0, x1, o1, o2, m0, m1, m2, m3, m4, m5, m6, m7, m8⟩, _⟩ := hSw; go_simp; try with_reducible rfl)
      try simp only [Act.put, List.getElem_toArray, List.getElem_cons_zero, List.getElem_cons_succ, List.setIfInBounds_toArray, List.set_cons_zero, List.set_cons_succ]
      refine wpAnyH_ready (rs := [12]) (by kernel_rfl) (by simp) ?_
      refine AllReadyH.cons rfl (fun K hK => ?_) AllReadyH.nil
      clear hHeld
      obtain ⟨y0, y1, yf⟩ := cell2 HAy.out
      go_simp
      have hk5 : ∀ k, k ≠ wA.heap.size → ((wB.setCell ⟨wA.heap.size, 0, none⟩ (.int .i64 (n : Int))).setCell ⟨wA.heap.size, 1, none⟩ (.slice a' k' c')).heap[k]? = wB.heap[k]? := fun k hk => by rw [heap_setCell_other _ _ _ _ hk, heap_setCell_other _ _ _ _ hk]
      have HB5 : Hid (Below w3.heap.size w3 ((wB.setCell ⟨wA.heap.size, 0, none⟩ (.int .i64 (n : Int))).setCell ⟨wA.heap.size, 1, none⟩ (.slice a' k' c'))) := (Below.setCell HBB.out (p := ⟨wA.heap.size, 0, none⟩) HAz.out _).setCell (p := ⟨wA.heap.size, 1, none⟩) HAz.out _
      have HA5 := toHid (put2_same (.int .i64 (n : Int)) (.slice a' k' c') HAy.out)
      have HO5 := toHid (own_box HAy.out hk5 HO3B.out)
      have HP5 : Hid (RefP ((wB.setCell ⟨wA.heap.size, 0, none⟩ (.int .i64 (n : Int))).setCell ⟨wA.heap.size, 1, none⟩ (.slice a' k' c')) w.heap.size (.slice a its.length c) (.slice a' k' c') its ⟨x.frm, x.tow, num x.m i, p3⟩ (ecd n R x.frm x.tow)) := by
        rcases HPB.out with q | ⟨q1, q2⟩
        · exact .inl q
        · exact .inr ⟨q1, own_stay q2 (fun k cc _ hc => by rw [hc]; exact keep_box HAy.out hk5 hc (by decide))⟩
      clear hk5 y0 y1 yf
      refine hK.out _ ((wB.setCell ⟨wA.heap.size, 0, none⟩ (.int .i64 (n : Int))).setCell ⟨wA.heap.size, 1, none⟩ (.slice a' k' c')) (HSW.out _ HB5.out) (fun hHeld => ?_)
      clear hK K
      try simp only [Act.put, List.getElem_toArray, List.getElem_cons_zero, List.getElem_cons_succ, List.setIfInBounds_toArray, List.set_cons_zero, List.set_cons_succ]
      refine wpAnyH_take (i := 13) (v := ?_) rfl (by kernel_rfl) (by kernel_rfl) (by kernel_rfl) (fun _ _ _ h => (HP.out _ _ _ h).elim) (Or.inl ⟨by rfl, ?_⟩) (by assumption) ?_
      rotate_left
      · (intro W hSw; obtain ⟨⟨x0, x1, o1, o2, m0, m1, m2, m3, m4, m5, m6, m7, m8⟩, _⟩ := hSw; go_simp; try with_reducible rfl)
      try simp only [Act.put, List.getElem_toArray, List.getElem_cons_zero, List.getElem_cons_succ, List.setIfInBounds_toArray, List.set_cons_zero, List.set_cons_succ]
      refine wpAnyH_done (by kernel_rfl) ?_ _
      clear hHeld
      refine HK12.out _ _ ?_
      refine wp_mono (HRest.out _ _ wA.heap.size wd.heap.size _ p3 rfl rfl ⟨rfl, rfl, rfl, rfl, rfl, rfl⟩ rfl rfl rfl HB5.out HA5.out HP5.out HO5.out HCx.out) ?_
      exact HMono.out
  · clear hHeld
    go_simp
    have hbz : Below wd.heap.size wd (wd.alloc (.cells #[.int .i64 0, .slice none 0 0] 45)) := (Below.refl _ _).alloc (Nat.le_refl _) _
    have HBC := toHid (Below.trans HBd.out (hbz.mono HBd.out.size))
    have HAx : Hid ((wd.alloc (.cells #[.int .i64 0, .slice none 0 0] 45)).heap[wd.heap.size]? = some (.cells #[.int .i64 0, .slice none 0 0] 45)) := heap_alloc_new _ _
    have HAz : Hid (w3.heap.size ≤ wd.heap.size) := HBd.out.size
    clear hbz
    refine hK.out _ (wd.alloc (.cells #[.int .i64 0, .slice none 0 0] 45)) (HSW.out _ HBC.out) (fun hHeld => ?_)
    clear hK K
    try simp only [Act.put, List.getElem_toArray, List.getElem_cons_zero, List.getElem_cons_succ, List.setIfInBounds_toArray, List.set_cons_zero, List.set_cons_succ]
    refine wpAnyH_ready (rs := [6]) (by kernel_rfl) (by simp) ?_
    refine AllReadyH.cons rfl (fun K hK => ?_) AllReadyH.nil
    clear hHeld
    go_simp
    refine Calls.mono (copied23 (num x.m i) p1 (wd.alloc (.cells #[.int .i64 0, .slice none 0 0] 45)) (HOk.out _ HBC.out).mi HLn.out) ?_
    rintro e wA ⟨p3, rfl, hO3, hBx⟩
    have HBA := toHid (Below.trans HBC.out (hBx.mono HBC.out.size))
    have HO3 := toHid hO3
    have HCx : Hid (w3.heap.size ≤ (wd.alloc (.cells #[.int .i64 0, .slice none 0 0] 45)).heap.size) := HBC.out.size
    have HAy := toHid ((KeepC.below hBx) _ _ _ _ HAx.out)
    clear hO3 hBx
    try go_wp2_with fail
    refine hK.out _ wA (HSW.out wA HBA.out) (fun hHeld => ?_)
    clear hK K
    try simp only [Act.put, List.getElem_toArray, List.getElem_cons_zero, List.getElem_cons_succ, List.setIfInBounds_toArray, List.set_cons_zero, List.set_cons_succ]
    refine wpAnyH_ready (rs := [7]) (by kernel_rfl) (by simp) ?_
    refine AllReadyH.cons rfl (fun K hK => ?_) AllReadyH.nil
    clear hHeld
    go_simp
    refine Calls.mono (refAny (HSk.out _ HBA.out) x.frm x.tow (num x.m i) p3) ?_
    rintro e wB ⟨v', rfl, hBx, hPx⟩
    obtain ⟨a', k', c', rfl⟩ : ∃ a' k' c', v' = .slice a' k' c' := by
      rcases hPx with ⟨_, e⟩ | ⟨_, e⟩
      · exact ⟨_, _, _, e⟩
      · obtain ⟨a', c', rfl⟩ := ownsRow_shape e
        exact ⟨_, _, _, rfl⟩
    have HBB := toHid (Below.trans HBA.out (hBx.mono HBA.out.size))
    have HPB := toHid hPx
    have HO3B := toHid (HO3.out.keep (KeepC.below hBx))
    have HAw := toHid ((KeepC.below hBx) _ _ _ _ HAy.out)
    clear hPx hBx
    try go_wp2_with fail
    refine hK.out _ wB (HSW.out wB HBB.out) (fun hHeld => ?_)
    clear hK K
    try simp only [Act.put, List.getElem_toArray, List.getElem_cons_zero, List.getElem_cons_succ, List.setIfInBounds_toArray, List.set_cons_zero, List.set_cons_succ]
    refine wpAnyH_take (i := 8) (v := ?_) rfl (by kernel_rfl) (by kernel_rfl) (by kernel_rfl) (fun _ _ _ h => (HP.out _ _ _ h).elim) (Or.inl ⟨by rfl, ?_⟩) (by assumption) ?_
    rotate_left
    · (intro W hSw; obtain ⟨⟨x0, x1, o1, o2, m0, m1, m2, m3, m4, m5, m6, m7, m8⟩, _⟩ := hSw; go_simp; try with_reducible rfl)
    try simp only [Act.put, List.getElem_toArray, List.getElem_cons_zero, List.getElem_cons_succ, List.setIfInBounds_toArray, List.set_cons_zero, List.set_cons_succ]
    refine wpAnyH_take (i := 9) (v := ?_) rfl (by kernel_rfl) (by kernel_rfl) (by kernel_rfl) (fun _ _ _ h => (HP.out _ _ _ h).elim) (Or.inl ⟨by rfl, ?_⟩) (by assumption) ?_
    rotate_left
    · (intro W hSw; obtain ⟨⟨x0, x1, o1, o2, m0, m1, m2, m3, m4, m5, m6, m7, m8⟩, _⟩ := hSw; go_simp; try with_reducible rfl)
    try simp only [Act.put, List.getElem_toArray, List.getElem_cons_zero, List.getElem_cons_succ, List.setIfInBounds_toArray, List.set_cons_zero, List.set_cons_succ]
    refine wpAnyH_take (i := 10) (v := ?_) rfl (by kernel_rfl) (by kernel_rfl) (by kernel_rfl) (fun _ _ _ h => (HP.out _ _ _ h).elim) (Or.inl ⟨by rfl, ?_⟩) (by assumption) ?_
    rotate_left
    · (intro W hSw; obtain ⟨⟨x0, x1, o1, o2, m0, m1, m2, m3, m4, m5, m6, m7, m8⟩, _⟩ := hSw; go_simp; try with_reducible rfl)
    try simp only [Act.put, List.getElem_toArray, List.getElem_cons_zero, List.getElem_cons_succ, List.setIfInBounds_toArray, List.set_cons_zero, List.set_cons_succ]
    refine wpAnyH_ready (rs := [12]) (by kernel_rfl) (by simp) ?_
    refine AllReadyH.cons rfl (fun K hK => ?_) AllReadyH.nil
    clear hHeld
    obtain ⟨y0, y1, yf⟩ := cell2 HAw.out
    go_simp
    have hk5 : ∀ k, k ≠ wd.heap.size → ((wB.setCell ⟨wd.heap.size, 0, none⟩ (.int .i64 (n : Int))).setCell ⟨wd.heap.size, 1, none⟩ (.slice a' k' c')).heap[k]? = wB.heap[k]? := fun k hk => by rw [heap_setCell_other _ _ _ _ hk, heap_setCell_other _ _ _ _ hk]
    have HB5 : Hid (Below w3.heap.size w3 ((wB.setCell ⟨wd.heap.size, 0, none⟩ (.int .i64 (n : Int))).setCell ⟨wd.heap.size, 1, none⟩ (.slice a' k' c'))) := (Below.setCell HBB.out (p := ⟨wd.heap.size, 0, none⟩) HAz.out _).setCell (p := ⟨wd.heap.size, 1, none⟩) HAz.out _
    have HA5 := toHid (put2_same (.int .i64 (n : Int)) (.slice a' k' c') HAw.out)
    have HO5 := toHid (own_box HAw.out hk5 HO3B.out)
    have HP5 : Hid (RefP ((wB.setCell ⟨wd.heap.size, 0, none⟩ (.int .i64 (n : Int))).setCell ⟨wd.heap.size, 1, none⟩ (.slice a' k' c')) w.heap.size (.slice a its.length c) (.slice a' k' c') its ⟨x.frm, x.tow, num x.m i, p3⟩ (ecd n R x.frm x.tow)) := by
      rcases HPB.out with q | ⟨q1, q2⟩
      · exact .inl q
      · exact .inr ⟨q1, own_stay q2 (fun k cc _ hc => by rw [hc]; exact keep_box HAw.out hk5 hc (by decide))⟩
    clear hk5 y0 y1 yf
    refine hK.out _ ((wB.setCell ⟨wd.heap.size, 0, none⟩ (.int .i64 (n : Int))).setCell ⟨wd.heap.size, 1, none⟩ (.slice a' k' c')) (HSW.out _ HB5.out) (fun hHeld => ?_)
    clear hK K
    try simp only [Act.put, List.getElem_toArray, List.getElem_cons_zero, List.getElem_cons_succ, List.setIfInBounds_toArray, List.set_cons_zero, List.set_cons_succ]
    refine wpAnyH_take (i := 13) (v := ?_) rfl (by kernel_rfl) (by kernel_rfl) (by kernel_rfl) (fun _ _ _ h => (HP.out _ _ _ h).elim) (Or.inl ⟨by rfl, ?_⟩) (by assumption) ?_
    rotate_left
    · (intro W hSw; obtain ⟨⟨x0, x1, o1, o2, m0, m1, m2, m3, m4, m5, m6, m7, m8⟩, _⟩ := hSw; go_simp; try with_reducible rfl)
    try simp only [Act.put, List.getElem_toArray, List.getElem_cons_zero, List.getElem_cons_succ, List.setIfInBounds_toArray, List.set_cons_zero, List.set_cons_succ]
    refine wpAnyH_done (by kernel_rfl) ?_ _
    clear hHeld
    refine HK12.out _ _ ?_
    refine wp_mono (HRest.out _ _ wd.heap.size (wd.alloc (.cells #[.int .i64 0, .slice none 0 0] 45)).heap.size _ p3 rfl rfl ⟨rfl, rfl, rfl, rfl, rfl, rfl⟩ rfl rfl rfl HB5.out HA5.out HP5.out HO5.out HCx.out) ?_
    exact HMono.out

end Go.Proofs.Ytfdpmffoajjchaa
