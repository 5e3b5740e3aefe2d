/-
  Gone: all edges of a thing are taken away.
-/
import Derived.Test.YtoihjkpjijncdaaDr
namespace Go.Proofs.Ytoihjkpjijncdaa
open Go.RowKit Go.Maps

noncomputable def fromE (E : List (Lit × Lit)) (x : Lit) : List (Lit × Lit) := E.filter fun e => decide (e.1 ≠ x)
noncomputable def toE (E : List (Lit × Lit)) (x : Lit) : List (Lit × Lit) := E.filter fun e => decide (e.2 ≠ x)
noncomputable def goneE (E : List (Lit × Lit)) (x : Lit) : List (Lit × Lit) := toE (fromE E x) x

/-- Where Gone stands. -/
structure Gn (w : World) (p A B N : Nat) (f h : Lit → Option Nat) (E1 : List (Lit × Lit)) (f1 h1 : Lit → Option Nat) (W : World) : Prop where
  gr : GrA 3 61 W p A B N E1 f1 h1
  turn : Turn (Foot p A B f h) w W
  foot : ∀ i, Foot p A B f1 h1 i → Foot p A B f h i

section
variable {w W W' : World} {p A B N : Nat} {f h f1 h1 : Lit → Option Nat} {E1 : List (Lit × Lit)}
theorem GrA.kind {k G : TypeId} {E : List (Lit × Lit)} (g : GrA k G W p A B N E f h) {i : Nat} (hi : Foot p A B f h i) : (∃ es c, W.heap[i]? = some (.map es c)) ∨ ∃ cs, W.heap[i]? = some (.cells cs G) := Gr.kind ⟨A, B, f, h, g, rfl⟩ hi
theorem Gn.new (g : Gn w p A B N f h E1 f1 h1 W) (hg : W.grownBy W' none) : Gn w p A B N f h E1 f1 h1 W' :=
  ⟨g.gr.at fun i hi => hg.block i (g.gr.lt hi) (by simp), g.turn.trans (Turn.of_grown hg) (fun i hi => by cases hi), g.foot⟩
theorem Gn.iter (g : Gn w p A B N f h E1 f1 h1 W) {r : Nat} (hg : W.grownBy W' (some r)) (hr : ∃ b c d e, W.heap[r]? = some (.mapIter b c d e)) (hl : w.heap.size ≤ r) : Gn w p A B N f h E1 f1 h1 W' := by
  obtain ⟨b, c, d, e, h1⟩ := hr
  refine ⟨g.gr.at fun i hi => hg.block i (g.gr.lt hi) (fun e => ?_), g.turn.trans (Turn.of_grown hg) (fun i hi => by cases hi; exact .inr hl), g.foot⟩
  obtain rfl := Option.some.inj e
  rcases g.gr.kind hi with ⟨es, c', h2⟩ | ⟨cs, h2⟩
  · rw [h1] at h2; cases h2
  · rw [h1] at h2; cases h2
theorem Gn.drop (g : Gn w p A B N f h E1 f1 h1 W) {x y : Lit} {f2 h2 : Lit → Option Nat} (d : Dropped W W' p A B N E1 f1 h1 x y f2 h2) : Gn w p A B N f h (dropE E1 (x, y)) f2 h2 W' :=
  ⟨d.gr, g.turn.trans d.turn (fun i hi => .inl (g.foot i hi)), fun i hi => g.foot i (d.foot i hi)⟩
end

/-- Of the edges from a thing some are gone, and no others. -/
def Sub1 (E : List (Lit × Lit)) (x : Lit) (E1 : List (Lit × Lit)) : Prop := ∃ q : Lit × Lit → Bool, E1 = E.filter q ∧ ∀ e, e.1 ≠ x → q e = true
def Sub2 (E : List (Lit × Lit)) (x : Lit) (E1 : List (Lit × Lit)) : Prop := ∃ q : Lit × Lit → Bool, E1 = E.filter q ∧ ∀ e, e.2 ≠ x → q e = true
theorem Sub1.refl (E : List (Lit × Lit)) (x : Lit) : Sub1 E x E := ⟨fun _ => true, (List.filter_eq_self.2 fun _ _ => rfl).symm, fun _ _ => rfl⟩
theorem Sub2.refl (E : List (Lit × Lit)) (x : Lit) : Sub2 E x E := ⟨fun _ => true, (List.filter_eq_self.2 fun _ _ => rfl).symm, fun _ _ => rfl⟩
theorem Sub1.drop {E E1 : List (Lit × Lit)} {x y : Lit} (h : Sub1 E x E1) : Sub1 E x (dropE E1 (x, y)) := by
  obtain ⟨q, rfl, hq⟩ := h
  refine ⟨fun e => decide (e ≠ (x, y)) && q e, by rw [dropE, List.filter_filter], fun e he => ?_⟩
  show (decide (e ≠ (x, y)) && q e) = true
  rw [hq e he, Bool.and_true]
  exact decide_eq_true (fun e1 => he (by rw [e1]))
theorem Sub2.drop {E E1 : List (Lit × Lit)} {x y : Lit} (h : Sub2 E x E1) : Sub2 E x (dropE E1 (y, x)) := by
  obtain ⟨q, rfl, hq⟩ := h
  refine ⟨fun e => decide (e ≠ (y, x)) && q e, by rw [dropE, List.filter_filter], fun e he => ?_⟩
  show (decide (e ≠ (y, x)) && q e) = true
  rw [hq e he, Bool.and_true]
  exact decide_eq_true (fun e1 => he (by rw [e1]))
theorem Sub1.done {E E1 : List (Lit × Lit)} {x : Lit} (h : Sub1 E x E1) (hn : ∀ y, outE E1 x y = false) : E1 = fromE E x := by
  obtain ⟨q, rfl, hq⟩ := h
  refine List.filter_congr fun e he => ?_
  by_cases h1 : e.1 = x
  · subst h1
    have := hn e.2
    simp [outE, he] at this
    simp [this]
  · simp [hq e h1, h1]
theorem Sub2.done {E E1 : List (Lit × Lit)} {x : Lit} (h : Sub2 E x E1) (hn : ∀ y, inE E1 x y = false) : E1 = toE E x := by
  obtain ⟨q, rfl, hq⟩ := h
  refine List.filter_congr fun e he => ?_
  by_cases h1 : e.2 = x
  · subst h1
    have := hn e.1
    simp [inE, he] at this
    simp [this]
  · simp [hq e h1, h1]
theorem Sub1.le {E E1 : List (Lit × Lit)} {x : Lit} (h : Sub1 E x E1) : E1.length ≤ E.length := by obtain ⟨q, rfl, _⟩ := h; exact List.length_filter_le _ _
theorem Sub2.le {E E1 : List (Lit × Lit)} {x : Lit} (h : Sub2 E x E1) : E1.length ≤ E.length := by obtain ⟨q, rfl, _⟩ := h; exact List.length_filter_le _ _
theorem upd_eq {E : List (Lit × Lit)} {x y : Lit} : upd (outE E x) y false = outE (dropE E (x, y)) x := by rw [outE_drop]; unfold upF; rw [upd_same]
theorem upd_eq2 {E : List (Lit × Lit)} {x y : Lit} : upd (inE E x) y false = inE (dropE E (y, x)) x := by rw [inE_drop]; unfold upF; rw [upd_same]

set_option maxRecDepth 100000 in
set_option maxHeartbeats 4000000 in
theorem gone15 {w : World} {p N : Nat} {E : List (Lit × Lit)} {S : Nat → Prop} {z : Int} {x : Lit} (g : Gr 3 61 w p N E S) (hz : keyOf Try.prog 3 (.int .i64 z) = some x) (hE : E.length < 1000000) :
    Calls Try.prog 15 #[.pointer (some ⟨p, 0, none⟩), .int .i64 z] w fun e w' => ∃ S', e = .returned (.int .i64 ((E.length : Int) - ((goneE E x).length : Int))) ∧ Gr 3 61 w' p N (goneE E x) S' ∧ Turn S w w' ∧ ∀ i, S' i → S i := by
  obtain ⟨A, B, f, h, g, rfl⟩ := g
  obtain ⟨c0, c1, c2, _⟩ := cells3 g.blk
  have h1 := g.out.map.look lawI Try.underlying59 zero64 hz
  have HG := toHid (show Gn w p A B N f h E f h w from ⟨g, Turn.refl _ _, fun i hi => hi⟩)
  clear g
  have hfl : (fromE E x).length ≤ E.length := List.length_filter_le _ _
  have hgl : (goneE E x).length ≤ (fromE E x).length := List.length_filter_le _ _
  cases hf : f x with
  | none =>
    rw [hf] at h1
    have hrg := run_range_nilMap (P := Try.prog) w 64 3 81 Try.underlying64
    have hnx : ∀ ty, (Instr.next (.pointer (some ⟨w.heap.size, 0, none⟩)) false ty).run Try.prog (w.alloc (.mapIter none 0 #[] 0)) = _ := fun ty => run_next_nilMap _ ty 0 0 #[]
    have HG1 := toHid (HG.out.new (World.grownBy_alloc w (.mapIter none 0 #[] 0) none))
    have hE1 : Hid (fromE E x = E) := ((Sub1.refl E x).done (HG.out.gr.out.no x hf)).symm
    obtain ⟨d0, d1, d2, _⟩ := cells3 HG1.out.gr.blk
    obtain ⟨W1, hW1⟩ : ∃ W1, W1 = w.alloc (.mapIter none 0 #[] 0) := ⟨_, rfl⟩
    have hl1 : w.heap.size ≤ W1.heap.size := by rw [hW1]; simp
    rw [← hW1] at HG1 d0 d1 d2 hrg hnx
    clear hW1
    rw [← hE1.out] at HG1
    have hh1 := HG1.out.gr.inn.map.look lawI Try.underlying59 zero64 hz
    go_enter Try.func15, Try.ntmps15
    cases hh : h x with
    | none =>
      rw [hh] at hh1
      have hrg2 := run_range_nilMap (P := Try.prog) W1 64 3 81 Try.underlying64
      have hnx2 : ∀ ty, (Instr.next (.pointer (some ⟨W1.heap.size, 0, none⟩)) false ty).run Try.prog (W1.alloc (.mapIter none 0 #[] 0)) = _ := fun ty => run_next_nilMap _ ty 0 0 #[]
      have HG7 := toHid (HG1.out.new (World.grownBy_alloc W1 (.mapIter none 0 #[] 0) none))
      have hE2 : Hid (goneE E x = fromE E x) := ((Sub2.refl (fromE E x) x).done (HG1.out.gr.inn.no x hh)).symm
      obtain ⟨e0, e1, e2, _⟩ := cells3 HG7.out.gr.blk
      go_wp2_with fail
      refine wp_loop_rounds 1 ?_
      rw [rounds_succ]
      go_wp2_with fail
      refine wp_loop_rounds 1 ?_
      rw [rounds_succ]
      go_wp2_with fail
      go_ret
      refine ⟨_, ?_, ⟨A, B, _, _, by rw [hE2.out]; exact HG7.out.gr, rfl⟩, HG7.out.turn, HG7.out.foot⟩
      rw [hE2.out]
      rfl
    | some b2 =>
      rw [hh] at hh1
      obtain ⟨w7, cnt7, hrg7, hR7, _, hg7, hs7⟩ := (HG1.out.gr.inn.set x b2 hh).1.range lawI Try.underlying64
      have HG7 := toHid (HG1.out.new hg7)
      have HR7 := toHid hR7
      clear hR7 hg7 hs7
      go_wp2_with fail
      refine wp_loop_rounds 1 ?_
      rw [rounds_succ]
      go_wp2_with fail
      go_loopw [7] (fun _ W => ∃ (E2 : List (Lit × Lit)) (f2 h2 : Lit → Option Nat) (cnt : Nat), Hid (Gn w p A B N f h E2 f2 h2 W) ∧ Hid (Sub2 (fromE E x) x E2) ∧ Hid (h2 x = some b2 ∨ h2 x = none) ∧ Hid (RngF Try.prog 3 W b2 W1.heap.size N (inE E2 x) (inE E2 x) cnt)) (fun _ W => W.rangeLeft b2 W1.heap.size)
      case atStart => exact ⟨fromE E x, _, _, cnt7, HG7, toHid (Sub2.refl _ _), toHid (.inl hh), HR7⟩
      case round =>
        obtain ⟨E2, f2, h2, cnt8, HG8, HS8, HF8, HR8⟩ := hrel
        clear HG7 HR7
        go_wp2_with (first
          | (at_next; refine wpList_next_set _ rfl _ rfl lawI rfl HR8.out ?_ ?_)
          | fail)
        · intro hc0 hl0
          have hE2 : Hid (E2 = goneE E x) := HS8.out.done hl0
          obtain rfl := hE2.out
          clear HS8 HF8 HR8 hl0 hE2
          obtain ⟨e0, e1, e2, _⟩ := cells3 HG8.out.gr.blk
          go_wp2_with fail
          go_ret
          exact ⟨_, rfl, ⟨A, B, _, _, HG8.out.gr, rfl⟩, HG8.out.turn, HG8.out.foot⟩
        · intro key kl w9 cnt9 hk hgk hrg9 hlt9 hg9 hs9 hen
          obtain ⟨zk, rfl, -⟩ := shapeI hk
          have HG9 := toHid (HG8.out.iter hg9 HR8.out.iter hl1)
          have HR9 := toHid hrg9
          have hfx : h2 x = some b2 := by
            rcases HF8.out with e | e
            · exact e
            · rw [HG8.out.gr.inn.no x e] at hgk; cases hgk
          have hin : (kl, x) ∈ E2 := by simpa [inE] using hgk
          have hEl := HS8.out.le
          have HIN := toHid hin
          have HFX := toHid hfx
          clear hrg9 hg9 hin hfx
          go_wp2_with fail
          refine (drop_yes HG9.out.gr hk hz HIN.out (by omega)).mono ?_
          rintro e w10 ⟨f10, h10, rfl, hD⟩
          obtain ⟨cnt10, hle10, hR10⟩ := hD.rng2 b2 _ _ _ _ HFX.out HR9.out
          have hR11 : RngF Try.prog 3 w10 b2 W1.heap.size N (inE (dropE E2 (kl, x)) x) (inE (dropE E2 (kl, x)) x) cnt10 := by
            have e2 : upd (upd (inE E2 x) kl false) kl false = inE (dropE E2 (kl, x)) x := by
              rw [← upd_eq2]
              funext z
              unfold upd
              split <;> rfl
            rw [e2] at hR10
            exact hR10
          have HR11 := toHid hR11
          have HG11 := toHid (HG9.out.drop hD)
          have HF11 := toHid (hD.at2 b2 HFX.out)
          have HS11 := toHid (HS8.out.drop (y := kl))
          clear hR10 hR11 hD
          go_wp2_with fail
          go_roundw
          case rel => exact ⟨dropE E2 (kl, x), f10, h10, cnt10, HG11, HS11, HF11, HR11⟩
          case measure => rw [HR11.out.left_eq, HR8.out.left_eq]; omega
  | some b =>
    rw [hf] at h1
    obtain ⟨w1, cnt, hrg, hR, _, hg1, hs1⟩ := (HG.out.gr.out.set x b hf).1.range lawI Try.underlying64
    have HG1 := toHid (HG.out.new hg1)
    have HR1 := toHid hR
    have hws : w.heap.size ≤ w.heap.size := Nat.le_refl _
    clear hR hg1 hs1
    go_enter Try.func15, Try.ntmps15
    go_wp2_with fail
    go_loopw [6] (fun _ W => ∃ (E1 : List (Lit × Lit)) (f1 h1 : Lit → Option Nat) (cnt : Nat), Hid (Gn w p A B N f h E1 f1 h1 W) ∧ Hid (Sub1 E x E1) ∧ Hid (f1 x = some b ∨ f1 x = none) ∧ Hid (RngF Try.prog 3 W b w.heap.size N (outE E1 x) (outE E1 x) cnt)) (fun _ W => W.rangeLeft b w.heap.size)
    case atStart => exact ⟨E, f, h, cnt, HG1, toHid (Sub1.refl _ _), toHid (.inl hf), HR1⟩
    case round =>
      obtain ⟨E1, f1, h1', cnt1, HG2, HS2, HF2, HR2⟩ := hrel
      clear HG1 HR1
      go_wp2_with (first
        | (at_next; refine wpList_next_set _ rfl _ rfl lawI rfl HR2.out ?_ ?_)
        | fail)
      · intro hc0 hl0
        have hE1 : Hid (E1 = fromE E x) := HS2.out.done hl0
        obtain rfl := hE1.out
        clear HS2 HF2 HR2 hl0 hE1
        generalize wr = W9 at *
        obtain ⟨d0, d1, d2, _⟩ := cells3 HG2.out.gr.blk
        have hh1 := HG2.out.gr.inn.map.look lawI Try.underlying59 zero64 hz
        have hl1 : w.heap.size ≤ W9.heap.size := HG2.out.turn.size
        cases hh : h1' x with
        | none =>
          rw [hh] at hh1
          have hrg2 := run_range_nilMap (P := Try.prog) W9 64 3 81 Try.underlying64
          have hnx2 : ∀ ty, (Instr.next (.pointer (some ⟨W9.heap.size, 0, none⟩)) false ty).run Try.prog (W9.alloc (.mapIter none 0 #[] 0)) = _ := fun ty => run_next_nilMap _ ty 0 0 #[]
          have HG7 := toHid (HG2.out.new (World.grownBy_alloc W9 (.mapIter none 0 #[] 0) none))
          have hE2 : Hid (goneE E x = fromE E x) := ((Sub2.refl (fromE E x) x).done (HG2.out.gr.inn.no x hh)).symm
          obtain ⟨e0, e1, e2, _⟩ := cells3 HG7.out.gr.blk
          go_wp2_with fail
          refine wp_loop_rounds 1 ?_
          rw [rounds_succ]
          go_wp2_with fail
          go_ret
          refine ⟨_, ?_, ⟨A, B, _, _, by rw [hE2.out]; exact HG7.out.gr, rfl⟩, HG7.out.turn, HG7.out.foot⟩
          rw [hE2.out]
          rfl
        | some b2 =>
          rw [hh] at hh1
          obtain ⟨w7, cnt7, hrg7, hR7, _, hg7, hs7⟩ := (HG2.out.gr.inn.set x b2 hh).1.range lawI Try.underlying64
          have HG7 := toHid (HG2.out.new hg7)
          have HR7 := toHid hR7
          clear hR7 hg7 hs7
          go_wp2_with fail
          go_loopw [7] (fun _ W => ∃ (E2 : List (Lit × Lit)) (f2 h2 : Lit → Option Nat) (cnt : Nat), Hid (Gn w p A B N f h E2 f2 h2 W) ∧ Hid (Sub2 (fromE E x) x E2) ∧ Hid (h2 x = some b2 ∨ h2 x = none) ∧ Hid (RngF Try.prog 3 W b2 W9.heap.size N (inE E2 x) (inE E2 x) cnt)) (fun _ W => W.rangeLeft b2 W9.heap.size)
          case atStart => exact ⟨fromE E x, _, _, cnt7, HG7, toHid (Sub2.refl _ _), toHid (.inl hh), HR7⟩
          case round =>
            obtain ⟨E2, f2, h2, cnt8, HG8, HS8, HF8, HR8⟩ := hrel
            clear HG7 HR7
            go_wp2_with (first
              | (at_next; refine wpList_next_set _ rfl _ rfl lawI rfl HR8.out ?_ ?_)
              | fail)
            · intro hc0 hl0
              have hE2 : Hid (E2 = goneE E x) := HS8.out.done hl0
              obtain rfl := hE2.out
              clear HS8 HF8 HR8 hl0 hE2
              obtain ⟨e0, e1, e2, _⟩ := cells3 HG8.out.gr.blk
              go_wp2_with fail
              go_ret
              exact ⟨_, rfl, ⟨A, B, _, _, HG8.out.gr, rfl⟩, HG8.out.turn, HG8.out.foot⟩
            · intro key kl w9 cnt9 hk hgk hrg9 hlt9 hg9 hs9 hen
              obtain ⟨zk, rfl, -⟩ := shapeI hk
              have HG9 := toHid (HG8.out.iter hg9 HR8.out.iter hl1)
              have HR9 := toHid hrg9
              have hfx : h2 x = some b2 := by
                rcases HF8.out with e | e
                · exact e
                · rw [HG8.out.gr.inn.no x e] at hgk; cases hgk
              have hin : (kl, x) ∈ E2 := by simpa [inE] using hgk
              have hEl := HS8.out.le
              have HIN := toHid hin
              have HFX := toHid hfx
              clear hrg9 hg9 hin hfx
              go_wp2_with fail
              refine (drop_yes HG9.out.gr hk hz HIN.out (by omega)).mono ?_
              rintro e w10 ⟨f10, h10, rfl, hD⟩
              obtain ⟨cnt10, hle10, hR10⟩ := hD.rng2 b2 _ _ _ _ HFX.out HR9.out
              have hR11 : RngF Try.prog 3 w10 b2 W9.heap.size N (inE (dropE E2 (kl, x)) x) (inE (dropE E2 (kl, x)) x) cnt10 := by
                have e2 : upd (upd (inE E2 x) kl false) kl false = inE (dropE E2 (kl, x)) x := by
                  rw [← upd_eq2]
                  funext z
                  unfold upd
                  split <;> rfl
                rw [e2] at hR10
                exact hR10
              have HR11 := toHid hR11
              have HG11 := toHid (HG9.out.drop hD)
              have HF11 := toHid (hD.at2 b2 HFX.out)
              have HS11 := toHid (HS8.out.drop (y := kl))
              clear hR10 hR11 hD
              go_wp2_with fail
              go_roundw
              case rel => exact ⟨dropE E2 (kl, x), f10, h10, cnt10, HG11, HS11, HF11, HR11⟩
              case measure => rw [HR11.out.left_eq, HR8.out.left_eq]; omega
      · intro key kl w4 cnt4 hk hgk hrg4 hlt4 hg4 hs4 hen
        obtain ⟨zk, rfl, -⟩ := shapeI hk
        have HG4 := toHid (HG2.out.iter hg4 HR2.out.iter (Nat.le_refl _))
        have HR4 := toHid hrg4
        have hfx : f1 x = some b := by
          rcases HF2.out with e | e
          · exact e
          · rw [HG2.out.gr.out.no x e] at hgk; cases hgk
        have hin : (x, kl) ∈ E1 := by simpa [outE] using hgk
        have hEl := HS2.out.le
        have HIN := toHid hin
        have HFX := toHid hfx
        clear hrg4 hg4 hin hfx
        go_wp2_with fail
        refine (drop_yes HG4.out.gr hz hk HIN.out (by omega)).mono ?_
        rintro e w5 ⟨f5, h5, rfl, hD⟩
        obtain ⟨cnt5, hle5, hR5⟩ := hD.rng1 b _ _ _ _ HFX.out HR4.out
        have hR6 : RngF Try.prog 3 w5 b w.heap.size N (outE (dropE E1 (x, kl)) x) (outE (dropE E1 (x, kl)) x) cnt5 := by
          have e2 : upd (upd (outE E1 x) kl false) kl false = outE (dropE E1 (x, kl)) x := by
            rw [← upd_eq]
            funext z
            unfold upd
            split <;> rfl
          rw [e2] at hR5
          exact hR5
        have HR6 := toHid hR6
        have HG6 := toHid (HG4.out.drop hD)
        have HF6 := toHid (hD.at1 b HFX.out)
        have HS6 := toHid (HS2.out.drop (y := kl))
        clear hR5 hR6 hD
        go_wp2_with fail
        go_roundw
        case rel => exact ⟨dropE E1 (x, kl), f5, h5, cnt5, HG6, HS6, HF6, HR6⟩
        case measure => rw [HR6.out.left_eq, HR2.out.left_eq]; omega

end Go.Proofs.Ytoihjkpjijncdaa
