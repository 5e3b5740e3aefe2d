/-
  A graph of numbers: a set is asked; a thing is joined to another one, and parted from it; is there an edge?
-/
import Derived.Test.YtclppfljengnbaaGreatGGa
import Derived.Lib.Strings
namespace Go.Proofs.YtclppfljengnbaaGreat.Gr
open Go.RowKit Go.Maps

theorem lawI : Keyed Tryz.prog 3 := int_keyed Tryz.underlying3
theorem keyI {x : Int} (hx : (Lit.int .i64 x).wf = true) : keyOf Tryz.prog 3 (.int .i64 x) = some (.int .i64 x) := keyOf_int_mk Tryz.underlying3 hx
theorem shapeI {key : Value} {kl : Lit} (h : keyOf Tryz.prog 3 key = some kl) : ∃ x, key = .int .i64 x ∧ kl = .int .i64 x ∧ (Lit.int .i64 x).wf = true := Maps.keyOf_int_inv Tryz.underlying3 h
theorem zero81 (w : World) : (zeroValue 133).run Tryz.prog w = .ok (.agg #[]) w := by kernel_rfl
theorem zero64 (w : World) : (zeroValue 157).run Tryz.prog w = .ok (.map none) w := by kernel_rfl
theorem nilI (w : World) (r : Option Nat) : (binOp .eql 157 (.map r) (.map none)).run Tryz.prog w = .ok (.bool r.isNone) w := run_eql_map_nil w _ _ _ r Tryz.underlying157

set_option maxRecDepth 100000 in
set_option maxHeartbeats 4000000 in
theorem hasI {w : World} {b N : Nat} {g : Lit → Bool} {key : Value} {kl : Lit} (h : SetF Tryz.prog 3 w b N g) (hk : keyOf Tryz.prog 3 key = some kl) :
    Calls Tryz.prog 91 #[.map (some b), key] w fun e w' => e = .returned (.bool (g kl)) ∧ Below w.heap.size w w' := by
  have h1 := h.look lawI Tryz.underlying157 zero81 hk
  go_enter Tryz.func91, Tryz.ntmps91
  go_wp2
  go_ret
  exact ⟨rfl, (Below.refl _ _).alloc (Nat.le_refl _) _⟩

set_option maxRecDepth 100000 in
set_option maxHeartbeats 4000000 in
theorem hasNilI (w : World) {key : Value} {kl : Lit} (hk : keyOf Tryz.prog 3 key = some kl) :
    Calls Tryz.prog 91 #[.map none, key] w fun e w' => e = .returned (.bool false) ∧ Below w.heap.size w w' := by
  have h1 := Maps.look_nil (w := w) true lawI Tryz.underlying157 (zero81 w) hk
  simp only [if_true] at h1
  go_enter Tryz.func91, Tryz.ntmps91
  go_wp2
  go_ret
  exact ⟨rfl, (Below.refl _ _).alloc (Nat.le_refl _) _⟩

set_option maxRecDepth 100000 in
set_option maxHeartbeats 4000000 in
theorem joinI {w : World} {A N : Nat} {f : Lit → Option Nat} {F : Lit → Lit → Bool} {k1 k2 : Value} {x y : Lit} (h : Lk 3 w A N f F) (hx : keyOf Tryz.prog 3 k1 = some x) (hy : keyOf Tryz.prog 3 k2 = some y) (hN : N + 1 < maxLen) :
    Calls Tryz.prog 113 #[.map (some A), k1, k2] w fun e w' => ∃ f', e = .returned (.tuple #[]) ∧ Lk 3 w' A (N + 1) f' (upF F x y true) ∧ Turn (FootL A f) w w' ∧ ∀ i, FootL A f' i → FootL A f i ∨ w.heap.size ≤ i := by
  have h1 := h.map.look lawI Tryz.underlying152 zero64 hx
  have hn := nilI
  cases hf : f x with
  | some b =>
    obtain ⟨hs, hbA⟩ := h.set x b hf
    obtain ⟨w', r1, r2, r3⟩ := hs.store lawI Tryz.underlying157 (by omega) hy
    have ht := Turn.of_map r3
    rw [hf] at h1
    have HQ := toHid (⟨h.map.turn' ht (Ne.symm hbA), fun x' b' hx' => ?_, fun x' hx' y' => ?_, h.inj⟩ : Lk 3 w' A (N + 1) f (upF F x y true))
    · go_enter Tryz.func113, Tryz.ntmps113
      go_wp2
      go_end0
      exact ⟨f, rfl, HQ.out, ht.mono fun i hi => .inl (.inr ⟨x, by rw [hf, hi]⟩), fun i hi => .inl hi⟩
    · by_cases e : x' = x
      · subst e
        rw [hf] at hx'
        cases hx'
        exact ⟨by unfold upF; rw [upd_same]; exact r2, hbA⟩
      · obtain ⟨q1, q2⟩ := h.set x' b' hx'
        refine ⟨?_, q2⟩
        unfold upF
        rw [upd_other _ _ e]
        exact (q1.at (ht.block b' q1.lt (fun e1 => e (h.inj x' x b (by rw [hx', e1]) hf)))).mono (Nat.le_succ _)
    · have e : x' ≠ x := fun e => by subst e; rw [hf] at hx'; cases hx'
      unfold upF
      rw [upd_other _ _ e]
      exact h.no x' hx' y'
  | none =>
    rw [hf] at h1
    have hm := @run_makeMap Tryz.prog
    have ht0 := Turn.alloc (FootL A f) w (.map #[] 0)
    have hA0 : (w.alloc (.map #[] 0)).heap[A]? = w.heap[A]? := heap_alloc_old h.map.lt
    obtain ⟨w1, r1, r2, r3⟩ := (h.map.at hA0).store lawI Tryz.underlying152 (by omega) hx w.heap.size
    have ht1 := Turn.of_map r3
    have hlt := h.map.lt
    have hs0 : SetF Tryz.prog 3 w1 w.heap.size N fun _ => false := (SetF.made w).at (ht1.block _ (by simp) (fun e => by have e : w.heap.size = A := e; omega))
    obtain ⟨w2, q1, q2, q3⟩ := hs0.store lawI Tryz.underlying157 (by omega) hy
    have ht2 := Turn.of_map q3
    have hT : Turn (FootL A f) w w2 := (ht0.trans ht1 (fun i hi => .inl (.inl hi))).trans ht2 (fun i hi => .inr (by omega))
    have hold : ∀ i, i < w.heap.size → i ≠ A → w2.heap[i]? = w.heap[i]? := fun i hi hn => (ht2.block i (by have := ht1.size; simp at this; omega) (by omega)).trans ((ht1.block i (by simp; omega) hn).trans (heap_alloc_old hi))
    have hne : ∀ x b', f x = some b' → b' < w.heap.size := fun x b' hx' => (h.set x b' hx').1.lt
    have HQ := toHid (⟨(r2.at (ht2.block A (by have := ht1.size; simp at this; omega) (by omega))), fun x' b' hx' => ?_, fun x' hx' y' => ?_, fun x1 x2 b' g1 g2 => ?_⟩ : Lk 3 w2 A (N + 1) (upd f x (some w.heap.size)) (upF F x y true))
    · go_enter Tryz.func113, Tryz.ntmps113
      go_wp2
      go_end0
      refine ⟨_, rfl, HQ.out, hT, fun i hi => ?_⟩
      rcases hi with rfl | ⟨x', hx'⟩
      · exact .inl (.inl rfl)
      · by_cases e : x' = x
        · subst e
          rw [upd_same] at hx'
          cases hx'
          exact .inr (Nat.le_refl _)
        · rw [upd_other _ _ e] at hx'
          exact .inl (.inr ⟨x', hx'⟩)
    · unfold upF
      by_cases e : x' = x
      · subst e
        rw [upd_same] at hx' ⊢
        cases hx'
        refine ⟨q2.congr fun z => ?_, by omega⟩
        unfold upd
        rw [h.no x' hf]
      · rw [upd_other _ _ e] at hx' ⊢
        obtain ⟨g1, g2⟩ := h.set x' b' hx'
        exact ⟨(g1.at (hold b' g1.lt g2)).mono (Nat.le_succ _), g2⟩
    · have e : x' ≠ x := fun e => by subst e; rw [upd_same] at hx'; cases hx'
      unfold upF
      rw [upd_other _ _ e] at hx' ⊢
      exact h.no x' hx' y'
    · by_cases e1 : x1 = x
      · by_cases e2 : x2 = x
        · rw [e1, e2]
        · subst e1
          rw [upd_same] at g1
          cases g1
          rw [upd_other _ _ e2] at g2
          exact absurd (hne _ _ g2) (Nat.lt_irrefl _)
      · by_cases e2 : x2 = x
        · subst e2
          rw [upd_same] at g2
          cases g2
          rw [upd_other _ _ e1] at g1
          exact absurd (hne _ _ g1) (Nat.lt_irrefl _)
        · rw [upd_other _ _ e1] at g1
          rw [upd_other _ _ e2] at g2
          exact h.inj _ _ _ g1 g2

set_option maxRecDepth 100000 in
set_option maxHeartbeats 4000000 in
theorem plainI (w : World) {key : Value} {kl : Lit} (hk : keyOf Tryz.prog 3 key = some kl) : Calls Tryz.prog 112 #[key] w fun e w' => e = .returned key ∧ w' = w := by
  obtain ⟨x, rfl, _, _⟩ := shapeI hk
  by_cases h0 : x = 0
  · subst h0
    go_enter Tryz.func112, Tryz.ntmps112
    go_wp2
    go_ret
    exact ⟨rfl, rfl⟩
  · go_enter Tryz.func112, Tryz.ntmps112
    go_wp2
    go_ret
    exact ⟨rfl, rfl⟩

/-- An edge is asked for. -/
theorem ghasI {w : World} {p A B N : Nat} {E : List (Lit × Lit)} {f h : Lit → Option Nat} {k1 k2 : Value} {x y : Lit} (g : GrA 3 154 w p A B N E f h) (hx : keyOf Tryz.prog 3 k1 = some x) (hy : keyOf Tryz.prog 3 k2 = some y) :
    Calls Tryz.prog 111 #[.pointer (some ⟨p, 0, none⟩), k1, k2] w fun e w' => e = .returned (.bool (outE E x y)) ∧ Below w.heap.size w w' := by
  obtain ⟨c0, _, _, _⟩ := cells3 g.blk
  have h1 := g.out.map.look lawI Tryz.underlying152 zero64 hx
  cases hf : f x with
  | none =>
    rw [hf] at h1
    rw [g.out.no x hf y]
    clear g
    go_enter Tryz.func111, Tryz.ntmps111
    go_wp2_with (go_at_call 91; refine (hasNilI _ hy).mono ?_; rintro e w' ⟨rfl, hb⟩)
    go_ret
    exact ⟨rfl, hb⟩
  | some b =>
    rw [hf] at h1
    have hs := (g.out.set x b hf).1
    clear g
    go_enter Tryz.func111, Tryz.ntmps111
    go_wp2_with (go_at_call 91; refine (hasI hs hy).mono ?_; rintro e w' ⟨rfl, hb⟩)
    go_ret
    exact ⟨rfl, hb⟩

theorem ghasNilI (w : World) (k1 k2 : Value) : Calls Tryz.prog 111 #[.pointer none, k1, k2] w fun e w' => e = .returned (.bool false) ∧ w' = w := by
  go_enter Tryz.func111, Tryz.ntmps111
  go_wp2
  go_ret
  exact ⟨rfl, rfl⟩

theorem newI (w : World) : Calls Tryz.prog 65 #[] w fun e w' => ∃ p S, e = .returned (.pointer (some ⟨p, 0, none⟩)) ∧ Gr 3 154 w' p 0 [] S ∧ Below w.heap.size w w' ∧ ∀ i, S i → w.heap.size ≤ i := by
  have hm := @run_makeMap Tryz.prog
  go_enter Tryz.func65, Tryz.ntmps65
  go_wp2
  go_ret
  refine ⟨w.heap.size + 2, _, by simp, ⟨w.heap.size, w.heap.size + 1, fun _ => none, fun _ => none, ⟨?_, ⟨?_, fun x b hx => (by cases hx), fun x _ y => (by simp [outE]), fun x x' b hx => (by cases hx)⟩, ⟨?_, fun x b hx => (by cases hx), fun x _ y => (by simp [inE]), fun x x' b hx => (by cases hx)⟩, ?_, List.nodup_nil⟩, rfl⟩, ?_, ?_⟩
  · have := (MapKept.heap_alloc ((w.alloc (.map #[] 0)).alloc (.map #[] 0)) (.cells #[.map (some w.heap.size), .map (some (w.heap.size + 1)), .int .i64 0] 154)).1
    simpa using this
  · exact (MapF.made w).at ((heap_alloc_old (by simp; omega)).trans (heap_alloc_old (by simp)))
  · have := (MapF.made (P := Tryz.prog) (k := 3) (N := 0) (w.alloc (.map #[] 0))).at (heap_alloc_old (o := .cells #[.map (some w.heap.size), .map (some (w.heap.size + 1)), .int .i64 0] 154) (by simp))
    simpa using this
  · rintro i (rfl | ⟨x, hx⟩) (h2 | ⟨y, hy⟩)
    · omega
    · cases hy
    · cases hx
    · cases hx
  · exact (((Below.refl _ _).alloc (Nat.le_refl _) _).alloc (by simp) _).alloc (by simp; omega) _
  · rintro i (rfl | (rfl | ⟨x, hx⟩) | (rfl | ⟨x, hx⟩)) <;> first | omega | cases hx

set_option maxRecDepth 100000 in
set_option maxHeartbeats 4000000 in
theorem addI {w : World} {p N : Nat} {E : List (Lit × Lit)} {S : Nat → Prop} {k1 k2 : Value} {x y : Lit} (g : Gr 3 154 w p N E S) (hx : keyOf Tryz.prog 3 k1 = some x) (hy : keyOf Tryz.prog 3 k2 = some y) (hN : N + 1 < maxLen) (hE : E.length < 1000000) :
    Calls Tryz.prog 89 #[.pointer (some ⟨p, 0, none⟩), k1, k2] w fun e w' => ∃ S', e = .returned (.bool (!outE E x y)) ∧ Gr 3 154 w' p (N + 1) (addE E (x, y)) S' ∧ Turn S w w' ∧ ∀ i, S' i → S i ∨ w.heap.size ≤ i := by
  obtain ⟨A, B, f, h, g, rfl⟩ := g
  have HG := toHid g
  obtain ⟨ho, hoe⟩ : ∃ o, outE E x y = o := ⟨_, rfl⟩
  have HOE := toHid hoe
  rw [hoe]
  clear g hoe
  go_enter Tryz.func89, Tryz.ntmps89
  cases ho
  · go_wp2_with (first
      | (go_at_call 111; refine (ghasI HG.out hx hy).mono ?_; rintro e w1 ⟨rfl, hb1⟩; rw [HOE.out]; have HB1 := toHid hb1; clear hb1; have HG1 := toHid (HG.out.at fun i hi => HB1.out.block i (HG.out.lt hi)); obtain ⟨c0, c1, _, _⟩ := cells3 HG1.out.blk)
      | (go_at_call 112; refine (plainI _ ‹_›).mono ?_; rintro e w2 ⟨rfl, hw2⟩; subst w2)
      | fail)
    refine (joinI HG1.out.out hx hy hN).mono ?_
    rintro e w2 ⟨f', rfl, hL2, hT2, hF2⟩
    have HI2 := toHid ((HG1.out.inn.turn hT2 fun i hi hj => HG1.out.apart i hj hi))
    have hp2 : w2.heap[p]? = w1.heap[p]? := hT2.block p (HG1.out.lt (.inl rfl)) HG1.out.p_out
    have hpb := hp2.trans HG1.out.blk
    obtain ⟨_, d1, d2, d3⟩ := cells3 hpb
    have HL2 := toHid hL2
    have HT2 := toHid hT2
    have HF2 := toHid hF2
    have HPB := toHid hpb
    clear hL2 hT2 hF2 hp2 hpb c0 c1
    go_wp2_with fail
    refine (joinI HI2.out hy hx hN).mono ?_
    rintro e w3 ⟨h', rfl, hL3, hT3, hF3⟩
    have hap : ∀ i, FootL A f' i → ¬ FootL B h i := fun i hi hj => by
      rcases HF2.out i hi with h1 | h1
      · exact HG1.out.apart i h1 hj
      · have := HG1.out.inn.foot_lt hj; omega
    have hp3 : w3.heap[p]? = w2.heap[p]? := hT3.block p (Array.getElem?_eq_some_iff.1 HPB.out).1 HG1.out.p_inn
    have hpb3 := hp3.trans HPB.out
    obtain ⟨_, _, e2, e3⟩ := cells3 hpb3
    have hO3 := HL2.out.turn hT3 hap
    have hTA := hT3
    have HX := toHid (show True ∧ Lk 3 w3 B (N + 1) h' _ ∧ Turn (FootL B h) w2 w3 ∧ (∀ i, FootL B h' i → FootL B h i ∨ w2.heap.size ≤ i) ∧ (∀ i, FootL A f' i → ¬ FootL B h i) ∧ w3.heap[p]? = _ ∧ Lk 3 w3 A (N + 1) f' _ from ⟨trivial, hL3, hT3, hF3, hap, hpb3, hO3⟩)
    clear hL3 hT3 hF3 hap hp3 hpb3 hO3 hTA d1 d2 d3
    go_wp2_with fail
    go_ret
    obtain ⟨_, hL3, hT3, hF3, hap, hpb3, hO3⟩ := HX.out
    have hno : (x, y) ∉ E := fun e => by have := HOE.out; simp [outE, e] at this
    have hTs := Turn.setCell w3 ⟨p, 2, none⟩ (.int .i64 (E.length + 1))
    have hpf' : ¬ FootL A f' p := fun hi => by obtain ⟨_, _, e⟩ := hO3.foot_map hi; rw [hpb3] at e; cases e
    have hph' : ¬ FootL B h' p := fun hi => by obtain ⟨_, _, e⟩ := hL3.foot_map hi; rw [hpb3] at e; cases e
    have hs12 := HT2.out.size
    refine ⟨Foot p A B f' h', rfl, ⟨A, B, f', h', ⟨?_, ?_, ?_, ?_, ?_⟩, rfl⟩, ?_, ?_⟩
    · rw [addE, if_neg hno]
      have := heap_set2 hpb3 (.int .i64 (E.length + 1))
      simpa using this
    · rw [addE, if_neg hno, outE_add]
      exact hO3.turn hTs fun i hi e => hpf' (by rw [← show i = p from e]; exact hi)
    · rw [addE, if_neg hno, inE_add]
      exact hL3.turn hTs fun i hi e => hph' (by rw [← show i = p from e]; exact hi)
    · intro i hi hj
      rcases hF3 i hj with h1 | h1
      · exact hap i hi h1
      · have := HL2.out.foot_lt hi; omega
    · rw [addE, if_neg hno]
      exact List.nodup_append.2 ⟨HG1.out.nd, by simp, fun a ha b hb e => by simp at hb; rw [e, hb] at ha; exact hno ha⟩
    · have hb1 := HB1.out.size
      refine (((Turn.of_below HB1.out (Foot p A B f h)).trans HT2.out (fun i hi => .inl (.inr (.inl hi)))).trans hT3 (fun i hi => .inl (.inr (.inr hi)))).trans hTs (fun i hi => .inl (.inl hi))
    · have hb1 := HB1.out.size
      rintro i (rfl | hi | hi)
      · exact .inl (.inl rfl)
      · rcases HF2.out i hi with h1 | h1
        · exact .inl (.inr (.inl h1))
        · exact .inr (by omega)
      · rcases hF3 i hi with h1 | h1
        · exact .inl (.inr (.inr h1))
        · exact .inr (by omega)
  · go_wp2_with (first
      | (go_at_call 111; refine (ghasI HG.out hx hy).mono ?_; rintro e w1 ⟨rfl, hb1⟩; rw [HOE.out])
      | fail)
    go_ret
    have hin : (x, y) ∈ E := by have := HOE.out; simpa [outE] using this
    refine ⟨Foot p A B f h, rfl, ?_, Turn.of_below hb1 _, fun i hi => .inl hi⟩
    rw [addE, if_pos hin]
    exact (Gr.below ⟨A, B, f, h, HG.out, rfl⟩ hb1).mono (Nat.le_succ _)

end Go.Proofs.YtclppfljengnbaaGreat.Gr
