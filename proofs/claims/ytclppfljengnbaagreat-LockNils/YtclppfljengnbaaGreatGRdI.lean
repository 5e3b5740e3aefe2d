/-
  Ring: all that a thing leads to and that lead to it, sorted; Leads.
-/
import Derived.Test.YtclppfljengnbaaGreatGSo
import Derived.Test.YtclppfljengnbaaGreatGRbI
namespace Go.Proofs.YtclppfljengnbaaGreat.Gr
open Go.RowKit Go.Maps Go.Sort

def enI (z : Int) : Value := .int .i64 z
def liI (z : Int) : Lit := .int .i64 z
theorem liI_inj {x y : Int} (h : liI x = liI y) : x = y := by cases h; rfl
theorem shpI {key : Value} {kl : Lit} (h : keyOf Tryz.prog 3 key = some kl) : ∃ s z, key = (.int .i64 s) ∧ key = enI z ∧ kl = liI z := by
  obtain ⟨x, rfl, rfl, _⟩ := shapeI h
  exact ⟨x, x, rfl, rfl, rfl⟩

/-- Where Ring stands. -/
structure RwI (w : World) (c1 c2 r N cnt : Nat) (C1 : List Lit) (g left : Lit → Bool) (zs : List Int) (v : Value) (W : World) : Prop where
  low : Below w.heap.size w W
  set : SetL Tryz.prog 3 W c1 C1
  rng : RngF Tryz.prog 3 W c2 r N g left cnt
  row : W.ownsRow w.heap.size 3 1 v zs.length (zs.map enI)
  rl : w.heap.size ≤ r

theorem RwI.at {w : World} {c1 c2 r N cnt cnt' : Nat} {C1 : List Lit} {g left left' : Lit → Bool} {zs : List Int} {v : Value} {W W' : World} (h : RwI w c1 c2 r N cnt C1 g left zs v W) (hg : W.grownBy W' (some r)) (hr : RngF Tryz.prog 3 W' c2 r N g left' cnt') : RwI w c1 c2 r N cnt' C1 g left' zs v W' := by
  obtain ⟨b, c, d, e, h1⟩ := h.rng.iter
  refine ⟨h.low.grown hg h.low.size fun j hj => by cases hj; exact h.rl, h.set.at (hg.block _ h.set.lt fun e => ?_), hr, row_at h.row fun i hi => ?_, h.rl⟩
  · obtain rfl := Option.some.inj e
    obtain ⟨es, c', h2⟩ := h.set.set.blk
    rw [h2] at h1
    cases h1
  · obtain ⟨cur, h2, h3⟩ := row_kind h.row hi
    refine hg.block i (Array.getElem?_eq_some_iff.1 h2).1 fun e => ?_
    obtain rfl := Option.some.inj e
    rw [h1] at h2
    cases h2
theorem RwI.below {w : World} {c1 c2 r N cnt : Nat} {C1 : List Lit} {g left : Lit → Bool} {zs : List Int} {v : Value} {W W' : World} (h : RwI w c1 c2 r N cnt C1 g left zs v W) (hb : Below W.heap.size W W') : RwI w c1 c2 r N cnt C1 g left zs v W' := by
  have hs := h.low.size
  refine ⟨⟨hb.os.trans h.low.os, hb.tape.trans h.low.tape, hb.output.trans h.low.output, Nat.le_trans hs hb.size, fun i hi => (hb.block i (by omega)).trans (h.low.block i hi)⟩, h.set.at (hb.block _ h.set.lt), h.rng.at (hb.block _ h.rng.set.lt) (hb.block _ h.rng.lt), row_at h.row fun i hi => ?_, h.rl⟩
  obtain ⟨cur, h1, h2⟩ := row_kind h.row hi
  exact hb.block i (Array.getElem?_eq_some_iff.1 h1).1
theorem RwI.push {w : World} {c1 c2 r N cnt : Nat} {C1 : List Lit} {g left : Lit → Bool} {zs : List Int} {v v' : Value} {W W' : World} {z : Int} (h : RwI w c1 c2 r N cnt C1 g left zs v W) (hg : W.grownBy W' v.ownBlock) (hr : W'.ownsRow w.heap.size 3 1 v' (zs.length + 1) (zs.map enI ++ [enI z])) : RwI w c1 c2 r N cnt C1 g left (zs ++ [z]) v' W' := by
  refine ⟨h.low.grown hg h.low.size fun j hj => (row_kind h.row hj).choose_spec.2, h.set.at (hg.block _ h.set.lt fun e => ?_), h.rng.row h.row hg, by simpa using hr, h.rl⟩
  obtain ⟨cur, h1, _⟩ := row_kind h.row e.symm
  obtain ⟨es, c', h3⟩ := h.set.set.blk
  rw [h1] at h3
  cases h3

/-- Who has been met. -/
structure MetI (C1 C2 : List Lit) (left : Lit → Bool) (zs : List Int) : Prop where
  nd : zs.Nodup
  mem : ∀ z, z ∈ zs ↔ liI z ∈ C2 ∧ left (liI z) = false ∧ liI z ∈ C1
  key : ∀ x, left x = true → x ∈ C2

theorem MetI.skip {C1 C2 : List Lit} {left : Lit → Bool} {zs : List Int} (h : MetI C1 C2 left zs) {kl : Lit} (hk : kl ∉ C1) : MetI C1 C2 (upd left kl false) zs := by
  refine ⟨h.nd, fun z => ?_, fun x hx => ?_⟩
  · rw [h.mem]
    by_cases e : liI z = kl
    · rw [e]; simp [hk]
    · rw [upd_other _ _ e]
  · by_cases e : x = kl
    · subst e; rw [upd_same] at hx; cases hx
    · rw [upd_other _ _ e] at hx; exact h.key x hx
theorem MetI.push {C1 C2 : List Lit} {left : Lit → Bool} {zs : List Int} (h : MetI C1 C2 left zs) {z : Int} (hk : liI z ∈ C1) (hl : left (liI z) = true) : MetI C1 C2 (upd left (liI z) false) (zs ++ [z]) := by
  have hn : z ∉ zs := fun e => by have := ((h.mem z).1 e).2.1; rw [hl] at this; cases this
  refine ⟨List.nodup_append.2 ⟨h.nd, by simp, fun u hu v hv e1 => by simp at hv; rw [e1, hv] at hu; exact hn hu⟩, fun y => ?_, fun x hx => ?_⟩
  · rw [List.mem_append, h.mem]
    by_cases e : y = z
    · subst e; simp [upd_same, hk, h.key _ hl]
    · rw [upd_other _ _ (fun e1 => e (liI_inj e1))]; simp [e]
  · by_cases e : x = liI z
    · subst e; rw [upd_same] at hx; cases hx
    · rw [upd_other _ _ e] at hx; exact h.key x hx
theorem MetI.few {C1 C2 : List Lit} {left : Lit → Bool} {zs : List Int} (h : MetI C1 C2 left zs) : zs.length ≤ C2.length := by
  have := nodup_le (l := zs.map liI) (T := C2) (List.Pairwise.map liI (fun x y hne e => hne (liI_inj e)) h.nd) (fun x hx => by
    obtain ⟨z, hz, rfl⟩ := List.mem_map.1 hx
    exact ((h.mem z).1 hz).1)
  simpa using this

theorem lds_in {E : List (Lit × Lit)} {a b : Lit} (h : Lds (inE E) a b) : Lds (outE E) b a := by
  induction h with
  | one e => exact .one (by simpa [inE, outE] using e)
  | more _ e ih => exact Lds.trans (.one (by simpa [inE, outE] using e)) ih
theorem lds_out {E : List (Lit × Lit)} {a b : Lit} (h : Lds (outE E) a b) : Lds (inE E) b a := by
  induction h with
  | one e => exact .one (by simpa [inE, outE] using e)
  | more _ e ih => exact Lds.trans (.one (by simpa [inE, outE] using e)) ih

/-- The ring of a thing. -/
structure IsRingI (E : List (Lit × Lit)) (a : Lit) (R : List Int) : Prop where
  nd : R.Nodup
  srt : R.Pairwise (· ≤ ·)
  mem : ∀ z, z ∈ R ↔ Lds (outE E) a (liI z) ∧ Lds (outE E) (liI z) a

theorem ring_sortI {E : List (Lit × Lit)} {a : Lit} {C1 C2 : List Lit} {left : Lit → Bool} {zs : List Int} (h : MetI C1 C2 left zs) (hl : ∀ x, left x = false) (h1 : ∀ y, y ∈ C1 ↔ Lds (inE E) a y) (h2 : ∀ y, y ∈ C2 ↔ Lds (outE E) a y) : IsRingI E a (srtI zs) := by
  refine ⟨?_, ?_, fun z => ?_⟩
  · exact ((List.mergeSort_perm zs _).nodup_iff).2 h.nd
  · have := List.pairwise_mergeSort (le := fun x y : Int => decide (x ≤ y)) (fun a b c h1 h2 => by simp at *; exact Int.le_trans h1 h2) (fun a b => by simp; exact Int.le_total _ _) zs
    exact this.imp (fun h => by simpa using h)
  · rw [srtI, List.mem_mergeSort, h.mem, h1, h2, hl]
    exact ⟨fun ⟨x, _, y⟩ => ⟨x, lds_in y⟩, fun ⟨x, y⟩ => ⟨x, rfl, lds_out y⟩⟩

theorem heads_le (E : List (Lit × Lit)) : (∀ x y, outE E x y = true → y ∈ E.map Prod.snd) ∧ ∀ x y, inE E x y = true → y ∈ E.map Prod.fst := by
  constructor
  · intro x y h
    exact List.mem_map.2 ⟨(x, y), by simpa [outE] using h, rfl⟩
  · intro x y h
    exact List.mem_map.2 ⟨(y, x), by simpa [inE] using h, rfl⟩

set_option maxRecDepth 100000 in
set_option maxHeartbeats 1000000 in
theorem ringI {w : World} {p N : Nat} {E : List (Lit × Lit)} {S : Nat → Prop} {z : Int} {a : Lit} (g : Gr 3 154 w p N E S) (hz : keyOf Tryz.prog 3 (.int .i64 z) = some a) (hE : E.length ≤ 100000) :
    Calls Tryz.prog 68 #[.pointer (some ⟨p, 0, none⟩), (.int .i64 z)] w fun e w' => ∃ (va : Option Addr) (vc : Nat) (R : List Int), e = .returned (.slice va R.length vc) ∧ w'.ownsRow w.heap.size 3 1 (.slice va R.length vc) R.length (R.map enI) ∧ Below w.heap.size w w' ∧ IsRingI E a R ∧ R.length ≤ 100000 := by
  obtain ⟨i0, hi0, hz0, hz1, hz2⟩ := info_parts infI
  obtain ⟨A, B, f, h, g, rfl⟩ := g
  have HG := toHid g
  obtain ⟨c0, c1, _, _⟩ := cells3 g.blk
  clear g
  go_enter Tryz.func68, Tryz.ntmps68
  go_wp2_with fail
  refine (reachI HG.out.inn hz (E.map Prod.fst) (heads_le E).2 (by simpa using hE)).mono ?_
  rintro e w1 ⟨b1, C1, rfl, hb1, hl1, hS1, hn1, hm1, hc1⟩
  have HG1 := toHid (HG.out.at fun i hi => hb1.block i (HG.out.lt hi))
  have HB1 := toHid hb1
  have HS1 := toHid hS1
  have HM1 := toHid hm1
  obtain ⟨d0, _, _, _⟩ := cells3 HG1.out.blk
  clear hb1 hS1 hm1 hn1 hc1 c0 c1
  go_wp2_with fail
  refine (reachI HG1.out.out hz (E.map Prod.snd) (heads_le E).1 (by simpa using hE)).mono ?_
  rintro e w2 ⟨b2, C2, rfl, hb2, hl2, hS2, hn2, hm2, hc2⟩
  have hws := HB1.out.size
  obtain ⟨w3, cnt, hrg, hR, _, hg3, hs3⟩ := hS2.set.range lawI Tryz.underlying157
  have HR0 := toHid (show RwI w b1 b2 w2.heap.size C2.length cnt C1 (fun x => decide (x ∈ C2)) (fun x => decide (x ∈ C2)) [] (.slice none 0 0) w3 from
    ⟨(⟨hb2.os.trans HB1.out.os, hb2.tape.trans HB1.out.tape, hb2.output.trans HB1.out.output, Nat.le_trans hws hb2.size, fun i hi => (hb2.block i (by omega)).trans (HB1.out.block i hi)⟩ : Below w.heap.size w w2).grown hg3 (by have := hb2.size; omega) (fun j hj => by cases hj), (HS1.out.at (hb2.block _ HS1.out.lt)).at (hg3.block _ (by have := hb2.size; have := HS1.out.lt; omega) (by simp)), hR, World.ownsRow_nil _ _ _ _, by have := hb2.size; omega⟩)
  have HM0 := toHid (show MetI C1 C2 (fun x => decide (x ∈ C2)) [] from ⟨List.nodup_nil, fun y => by simp; intro h1 h2; exact absurd h1 h2, fun x hx => by simpa using hx⟩)
  have HM2 := toHid hm2
  clear hS2 hR hm2 hn2 hb2 hg3 d0
  go_wp2_with fail
  go_loopw [6] (fun s W => ∃ (zs : List Int) (va : Option Addr) (vc : Nat) (left : Lit → Bool) (cnt : Nat), s = .slice va zs.length vc ∧ Hid (RwI w b1 b2 w2.heap.size C2.length cnt C1 (fun x => decide (x ∈ C2)) left zs s W) ∧ Hid (MetI C1 C2 left zs)) (fun _ W => W.rangeLeft b2 w2.heap.size)
  case atStart => exact ⟨[], _, _, _, cnt, rfl, HR0, HM0⟩
  case round =>
    obtain ⟨zs, va, vc, left, cnt, rfl, HR, HM⟩ := hrel
    clear HR0 HM0
    have hzl := HM.out.few
    go_wp2_with (first
      | (at_next; refine wpList_next_set _ rfl _ rfl lawI rfl HR.out.rng ?_ ?_)
      | fail)
    · intro hc0 hl0
      have HL0 := toHid hl0
      clear hl0
      go_wp2_with (first
        | (go_at_call 60; refine (sortI HR.out.row (by omega)).mono ?_; rintro e w4 ⟨rfl, hrow4, hg4⟩; have HX := toHid (show Below w.heap.size w w4 ∧ w4.ownsRow w.heap.size 3 1 (.slice va zs.length vc) zs.length ((srtI zs).map enI) from ⟨HR.out.low.grown hg4 HR.out.low.size (fun j hj => (row_kind HR.out.row hj).choose_spec.2), hrow4⟩); clear hrow4 hg4)
        | fail)
      go_ret
      have hln : (srtI zs).length = zs.length := by simp [srtI]
      exact ⟨va, vc, srtI zs, by rw [hln]; rfl, by rw [hln]; exact HX.out.2, HX.out.1, ring_sortI HM.out HL0.out HM1.out HM2.out, by omega⟩
    · intro key kl w4 cnt4 hk hlk hgk hrg4 hlt4 hg4 hs4 hen
      obtain ⟨s, y, rfl, hen2, rfl⟩ := shpI hk
      have HEN := toHid hen2
      clear hen2
      have HR4 := toHid (HR.out.at hg4 hrg4)
      clear hrg4 hg4
      by_cases hin : liI y ∈ C1
      · go_wp2_with (first
          | (go_at_call 91; refine (hasI HR4.out.set.set hk).mono ?_; rintro e w5 ⟨rfl, hb5⟩; rw [decide_eq_true hin]; have HR5 := toHid ((HR4.out.below hb5).below ((Below.refl _ _).alloc (Nat.le_refl _) (.cells #[(.int .i64 s)] 3))); clear hb5)
          | (at_builtin; refine wpList_append_own _ rfl _ _ 44 rfl w.heap.size 3 i0 _ 1 8 Tryz.underlying44 hi0 hz0 hz1 hz2 rfl (by decide) _ zs.length _ rfl HR5.out.row ⟨w5.heap.size, 0, none⟩ 1 1 [(.int .i64 s)] rfl rfl (cell_one w5 _ _) (by intro u hu; simp at hu; subst hu; rfl) (by unfold maxLen; omega) (by omega) HR5.out.low.size ?_; intro v7 w7 hown7 hgrow7 _)
          | fail)
        have HR7 := toHid (HR5.out.push hgrow7 (by rw [← HEN.out]; exact hown7))
        obtain ⟨va7, vc7, hv7⟩ : ∃ a c, v7 = .slice a (zs.length + 1) c := by
          rcases hown7.2 with ⟨_, h0⟩ | ⟨g, cap, cur, rfl, _⟩
          · cases h0
          · exact ⟨_, _, rfl⟩
        subst hv7
        have HM7 := toHid (HM.out.push hin hlk)
        go_roundw
        case rel => exact ⟨zs ++ [y], va7, vc7, _, cnt4, by simp, HR7, HM7⟩
        case measure => rw [HR7.out.rng.left_eq, HR.out.rng.left_eq]; exact hlt4
      · go_wp2_with (first
          | (go_at_call 91; refine (hasI HR4.out.set.set hk).mono ?_; rintro e w5 ⟨rfl, hb5⟩; rw [decide_eq_false hin]; have HR5 := toHid (HR4.out.below hb5); clear hb5)
          | fail)
        have HM5 := toHid (HM.out.skip hin)
        go_roundw
        case rel => exact ⟨zs, _, _, _, cnt4, rfl, HR5, HM5⟩
        case measure => rw [HR5.out.rng.left_eq, HR.out.rng.left_eq]; exact hlt4

end Go.Proofs.YtclppfljengnbaaGreat.Gr
