/-
  NetLooks: what is taken behind the looks; the walk.
-/
import Derived.Test.YtfdpmffoajjchaaLb
import Derived.Test.YtfdpmffoajjchaaCb
namespace Go.Proofs.Ytfdpmffoajjchaa
open Go.RowKit Go.Conc

structure Sl8b (s n : Nat) (inst : Int) (al : Nat) (a : Option Addr) (ln c : Nat) (i : Nat) (u : Nat → Value) : Prop where
  h2 : u 2 = .int .i64 inst
  h7 : u 7 = netP s n
  h10 : u 10 = .int .i64 (al : Nat)
  h11 : u 11 = .slice a ln c
  h13 : u 13 = .int .i64 (i : Nat)

/-- What is known of a row that was looked at. -/
structure Look (w W1 : World) (s n k B : Nat) (R : Nat → List Nat) (ms : List Ms) (ps : List Pl) (a : Option Addr) (c : Nat) : Prop where
  net : NetOk W1 s n R
  row : RowM W1 (R k) ms
  all : AllR W1 B (.slice a ms.length c) ms ps
  bel : Below w.heap.size w W1
  hs : w.heap.size ≤ s
  hk : k < 2 * n

def I8b (w W1 : World) (s n k : Nat) (inst : Int) (al : Nat) (R : Nat → List Nat) (ms : List Ms) (a : Option Addr) (c : Nat) (i : Nat) (x : Act) (W : World) : Prop :=
  ∃ (u : Nat → Value), x = frameN 164 u ∧ Sl8b s n inst al a ms.length c i u ∧ NetOk W s n (upd R k ((R k).drop i)) ∧ Tn s n W1 W ∧ Below w.heap.size w W

set_option maxRecDepth 100000 in
set_option maxHeartbeats 3000000 in
theorem round8b (w W1 : World) (s n k B : Nat) (inst : Int) (al : Nat) (R : Nat → List Nat) (ms : List Ms) (ps : List Pl) (a : Option Addr) (c i : Nat) (hL : Look w W1 s n k B R ms ps a c) (hr : rix n inst 0 = some k) (hi : i < ms.length) (h256 : ms.length ≤ 256) (u : Nat → Value) (wr : World) (hu : Sl8b s n inst al a ms.length c i u) (hN : NetOk wr s n (upd R k ((R k).drop i))) (hT : Tn s n W1 wr) (hB : Below w.heap.size w wr) (Q0 : Exit → Act → World → Prop) :
    Code.wp Try.prog loop8b (Exit.then (fun x w'' => I8b w W1 s n k inst al R ms a c (i + 1) x w'') Q0) (frameN 164 u) wr := by
  obtain ⟨h2, h7, h10, h11, h13⟩ := hu
  obtain ⟨g, p', rfl, hg, hO, hcell⟩ := (hL.all).at i hi
  rw [frame_open164, h2, h7, h10, h11, h13]
  clear h2 h7 h10 h11 h13
  have hkc := hT.keepC hL.net
  have hil : i < (R k).length := by rw [hL.row.len]; exact hi
  obtain ⟨b, hb⟩ : ∃ b, b = (R k)[i] := ⟨_, rfl⟩
  obtain ⟨m, hm⟩ : ∃ m, m = ms[i] := ⟨_, rfl⟩
  obtain ⟨hLm, p, hbk, hmi⟩ := hL.row.each i b m (by rw [hb]; exact List.getElem?_eq_getElem hil) (by rw [hm]; exact List.getElem?_eq_getElem hi)
  rw [← hm] at hO hcell
  have he : upd R k ((R k).drop i) k = b :: (R k).drop (i + 1) := by rw [upd_same, List.drop_eq_getElem_cons hil, hb]
  have HE := toHid he
  have HR := toHid hr
  have HL := toHid hL
  have HN := toHid hN
  have HT := toHid hT
  have HB := toHid hB
  have HBK := toHid (hkc _ _ _ _ hbk)
  have HMI := toHid (hmi.keep hkc)
  have HLM := toHid hLm
  have HO := toHid (hO.keep hkc)
  have HC : Hid (∀ (W : World), KeepC wr W → ∀ (j : Nat) (v : Value), (msL m p')[j]? = some v → W.cell? ⟨g, i * 9 + j, none⟩ = some v) := by
    intro W hW j v hj
    have hr1 : Rd W1 (some ⟨g, i * 9, none⟩) (msL m p') := ⟨fun e => by simp at e, fun x hx j u hj => by simp at hx; subst hx; exact ⟨rfl, hcell j u hj⟩⟩
    exact ((hr1.keep hkc).keep hW).cells _ rfl j v hj |>.2
  have e1 : (i : Int) < (ms.length : Int) := by omega
  have e2 : 0 ≤ (i : Int) := by omega
  clear he hr hL hN hT hB hbk hmi hLm hO hcell hkc hb hm hil
  have HF : Hid (∀ (A : Act) (W : World), A.tmps.size = 164 → A.defers = [] → Sl8b s n inst al (some ⟨g, 0, none⟩) ms.length c (i + 1) (fun i => A.tmps.getD i undef) → NetOk W s n (upd R k ((R k).drop (i + 1))) → Tn s n W1 W → Below w.heap.size w W → Exit.then (fun x w'' => I8b w W1 s n k inst al R ms (some ⟨g, 0, none⟩) c (i + 1) x w'') Q0 .normal A W) := by
    intro A W hs hd hS hN hT hB
    exact ⟨_, frameN_lit 164 A hs hd, hS, hN, hT, hB⟩
  generalize (Exit.then (fun x w'' => I8b w W1 s n k inst al R ms (some ⟨g, 0, none⟩) c (i + 1) x w'') Q0) = QA at HF ⊢
  conv => arg 2; whnf
  obtain ⟨wa, wc, pa, pc⟩ := p
  obtain ⟨wa', wc', pa', pc'⟩ := p'
  go_wp2_with fail
  go_at_call 10
  refine Calls.mono (take_c HN.out inst 0 HR.out HE.out m ⟨wa, wc, pa, pc⟩ HBK.out) ?_
  rintro e w3 ⟨rfl, hN3, hT3⟩
  have hb3 : Below w3.heap.size w3 (w3.alloc (.cells (msC m ⟨wa, wc, pa, pc⟩) 31)) := (Below.refl _ _).alloc (Nat.le_refl _) _
  have hk3 : KeepC wr (w3.alloc (.cells (msC m ⟨wa, wc, pa, pc⟩) 31)) := (hT3.keepC HN.out).trans (KeepC.below hb3)
  have HK3 := toHid hk3
  rw [upd_upd] at hN3
  have HN3 := toHid (hN3.below hb3)
  have HT3 := toHid ((HT.out.trans hT3).low (hb3.mono (HT.out.trans hT3).size))
  have HB3 := toHid ((hT3.to HB.out HL.out.hs HB.out.size).alloc (hT3.to HB.out HL.out.hs HB.out.size).size (.cells (msC m ⟨wa, wc, pa, pc⟩) 31))
  obtain ⟨c0, c1, c2, c3, c4, c5, c6, c7, c8⟩ := nine (HC.out _ hk3)
  obtain ⟨q0, q1, q2, q3, q4, q5, q6, q7, q8, qf⟩ := cell9 (heap_alloc_new w3 (.cells (msC m ⟨wa, wc, pa, pc⟩) 31))
  clear hN3 hT3 hb3 hk3
  simp only at c6 c7
  go_wp2_with fail
  refine wp_region_quiet_tail 8 Try.mixed (by kernel_rfl) ?_
  simp only [List.take_succ_cons, List.take_zero, List.drop_succ_cons, List.drop_zero]
  repeat (go_big_quiet_step (fail))
  refine wpQuiet_nil ?_
  go_wp2_with fail
  go_at_call 11
  refine Calls.mono (same11 m ⟨wa, wc, pa, pc⟩ ⟨wa', wc', pa', pc'⟩ _ (HMI.out.keep (w' := (w3.alloc (.cells (msC m ⟨wa, wc, pa, pc⟩) 31)).drew) HK3.out) (HO.out.mi.keep (w' := (w3.alloc (.cells (msC m ⟨wa, wc, pa, pc⟩) 31)).drew) HK3.out) HLM.out) ?_
  rintro e w4 ⟨rfl, hB4⟩
  have HN4 := toHid ((HN3.out.drew 1).below hB4)
  have HT4 := toHid ((HT3.out.drew 1).low (hB4.mono (HT3.out.drew 1).size))
  have HB4 := toHid (HB3.out.drew.trans (hB4.mono HB3.out.drew.size))
  clear hB4 c0 c1 c2 c3 c4 c5 c6 c7 c8 q0 q1 q2 q3 q4 q5 q6 q7 q8 qf
  go_wp2_with fail
  exact HF.out _ _ rfl rfl ⟨rfl, rfl, rfl, rfl, by show Value.int .i64 _ = _; simp⟩ HN4.out HT4.out HB4.out

set_option maxRecDepth 100000 in
set_option maxHeartbeats 3000000 in
theorem exit8b (s n : Nat) (inst : Int) (al : Nat) (a : Option Addr) (ln c : Nat) (i : Nat) (hj : ¬ i < ln) (u : Nat → Value) (wr : World) (hu : Sl8b s n inst al a ln c i u) (Q0 : Exit → Act → World → Prop) (R : Act → World → Prop)
    (hexit : ∀ u' : Nat → Value, Sl8b s n inst al a ln c i u' → Q0 (.exit 2) (frameN 164 u') wr) : Code.wp Try.prog loop8b (Exit.then R Q0) (frameN 164 u) wr := by
  obtain ⟨h2, h7, h10, h11, h13⟩ := hu
  have HX := toHid hexit
  clear hexit
  rw [frame_open164, h2, h7, h10, h11, h13]
  clear h2 h7 h10 h11 h13
  conv => arg 2; whnf
  have e1 : ¬ (i : Int) < (ln : Int) := by omega
  go_wp2_with fail
  rw [frameN_lit 164 ⟨_, _⟩ rfl rfl]
  exact HX.out _ ⟨rfl, rfl, rfl, rfl, rfl⟩

theorem loop8b_wp (w W1 : World) (s n k B : Nat) (inst : Int) (al : Nat) (R : Nat → List Nat) (ms : List Ms) (ps : List Pl) (a : Option Addr) (c : Nat) (hL : Look w W1 s n k B R ms ps a c) (hr : rix n inst 0 = some k) (u : Nat → Value) (W : World) (hu : Sl8b s n inst al a ms.length c 0 u) (hN : NetOk W s n R) (hT : Tn s n W1 W) (hB : Below w.heap.size w W)
    (Q0 : Exit → Act → World → Prop) (hexit : ∀ (u' : Nat → Value) (W' : World), Sl8b s n inst al a ms.length c ms.length u' → NetOk W' s n (upd R k []) → Below w.heap.size w W' → Q0 (.exit 2) (frameN 164 u') W') : Code.wp Try.prog (Code.loop loop8b) Q0 (frameN 164 u) W := by
  have h256 : ms.length ≤ 256 := by rw [← hL.row.len]; exact hL.net.len k hL.hk
  refine wp_loop (fun x w' => ∃ j, j ≤ ms.length ∧ I8b w W1 s n k inst al R ms a c j x w') (fun x _ => ms.length - (intOf (x.tmps.getD 13 undef)).toNat) ⟨0, by omega, u, rfl, hu, by rw [List.drop_zero, upd_self]; exact hN, hT, hB⟩ ?_
  rintro x w' ⟨j, hjl, u', rfl, hu', hN', hT', hB'⟩
  by_cases hj : j < ms.length
  · refine Code.wp_mono ?_ (round8b w W1 s n k B inst al R ms ps a c j hL hr hj h256 u' w' hu' hN' hT' hB' Q0)
    intro e x w'' h'
    cases e <;> first | exact h' | skip
    refine ⟨⟨j + 1, by omega, h'⟩, ?_⟩
    obtain ⟨u'', rfl, hu'', _, _, _⟩ := h'
    show ms.length - (intOf (u'' 13)).toNat < ms.length - (intOf (u' 13)).toNat
    rw [hu''.h13, hu'.h13]
    simp only [intOf]
    omega
  · obtain rfl : j = ms.length := by omega
    refine exit8b s n inst al a ms.length c _ hj u' w' hu' Q0 _ (fun u'' k2 => hexit u'' w' k2 ?_ hB')
    have e : (R k).drop ms.length = [] := List.drop_eq_nil_of_le (by rw [hL.row.len]; exact Nat.le_refl _)
    rw [e] at hN'
    exact hN'

end Go.Proofs.Ytfdpmffoajjchaa
