/-
  A row: a new one; somebody joins it, and goes from it.
-/
import Derived.Test.YtclppfljengnbaaGreatCc
import Derived.BigRegion
namespace Go.Proofs.YtclppfljengnbaaGreat
open Go.RowKit Go.Maps

section
variable {KT KN : List Lit} {w : World} {σ : Sg} {n : Name} {b z a y : Nat}

/-- z has gone in between a and y. -/
noncomputable def putS (σ : Sg) (n : Name) (z a y : Nat) : Sg :=
  { σ with ls := if (σ.nd z).had = 0 then σ.ls else upd σ.ls n z, ah := upd (upd σ.ah z (some a)) y (some z), bh := upd (upd σ.bh z (some y)) a (some z) }

theorem drew_mem (h : Mem KT KN w σ) : Mem KT KN w.drew σ := h.below (Below.refl _ _).drew
theorem IsW.no {x : Tag} (h : IsW x) : x ≠ .no := fun e => by rw [e] at h; exact h

set_option maxRecDepth 100000 in
set_option maxHeartbeats 4000000 in
/-- The last two steps: those beside z get to know it. -/
theorem put_end (h : Mem KT KN w σ) (hwa : IsW (σ.own a)) (hwy : IsW (σ.own y)) :
    Mem KT KN ((w.setCell ⟨a, 5, none⟩ (ptr (some z))).setCell ⟨y, 4, none⟩ (ptr (some z))) { σ with ah := upd σ.ah y (some z), bh := upd σ.bh a (some z) } ∧ Step w σ ((w.setCell ⟨a, 5, none⟩ (ptr (some z))).setCell ⟨y, 4, none⟩ (ptr (some z))) { σ with ah := upd σ.ah y (some z), bh := upd σ.bh a (some z) } :=
  ⟨(h.setBh hwa (some z)).setAh hwy (some z), (Step.set hwa.no (σ' := { σ with bh := upd σ.bh a (some z) }) rfl rfl).trans (Step.set (σ := { σ with bh := upd σ.bh a (some z) }) hwy.no rfl rfl)⟩

set_option maxRecDepth 100000 in
set_option maxHeartbeats 4000000 in
theorem put46 (h : Mem KT KN w σ) (hb : σ.lb n = some b) (hz : IsW (σ.own z)) (hE : IsW (σ.own (σ.eb n))) {u : Nat} (hu : σ.ah (σ.eb n) = some u) (ha : a = if (σ.nd z).had = 0 then u else σ.ls n) (hwa : IsW (σ.own a)) (hy : σ.bh a = some y) (hwy : IsW (σ.own y)) (hza : z ≠ a) :
    Calls Tryz.prog 78 #[.pointer (some ⟨b, 7, none⟩), .pointer (some ⟨z, 0, none⟩)] w fun e w' => e = .returned (.tuple #[]) ∧ Mem KT KN w' (putS σ n z a y) ∧ Step w σ w' (putS σ n z a y) := by
  have hl := h.hL n b hb
  obtain ⟨_, _, _, _, _, _, _, c7, c8⟩ := hl.cells
  have f8 := hl.free 8
  have hcv := conv43 (h.hW z hz)
  obtain ⟨_, _, _, _, e4, _⟩ := (h.hW _ hE).cells
  rw [hu, ptr_some] at e4
  rw [ptr_some] at c7 c8
  have hltag : σ.own b ≠ .no := by rw [hl.tag]; simp
  -- behind what is said of the last conversion: σ1, w1
  have key : ∀ (w1 : World) (σ1 : Sg), Mem KT KN w1 σ1 → Step w σ w1 σ1 → σ1.own = σ.own → σ1.ah = σ.ah → σ1.bh = σ.bh → σ1.nd = σ.nd →
      (w1.cell? ⟨z, 4, none⟩).isSome = true ∧ (w1.cell? ⟨z, 5, none⟩).isSome = true ∧ w1.frozen? ⟨z, 4, none⟩ = false ∧ w1.frozen? ⟨z, 5, none⟩ = false ∧ w1.cell? ⟨a, 5, none⟩ = some (.pointer (some ⟨y, 0, none⟩)) ∧
      ∀ w2, w2 = ((w1.setCell ⟨z, 4, none⟩ (.pointer (some ⟨a, 0, none⟩))).setCell ⟨z, 5, none⟩ (.pointer (some ⟨y, 0, none⟩))) →
        Mem KT KN w2 { σ1 with ah := upd σ1.ah z (some a), bh := upd σ1.bh z (some y) } ∧ Step w σ w2 { σ1 with ah := upd σ1.ah z (some a), bh := upd σ1.bh z (some y) } := by
    intro w1 σ1 h1 s1 o1 o2 o3 o4
    have hz1 : IsW (σ1.own z) := by rw [o1]; exact hz
    have hwa1 : IsW (σ1.own a) := by rw [o1]; exact hwa
    obtain ⟨_, _, _, _, z4, z5, zf4, zf5⟩ := (h1.hW z hz1).cells
    obtain ⟨_, _, _, _, _, a5, _, _⟩ := (h1.hW a hwa1).cells
    rw [o3, hy] at a5
    refine ⟨by rw [z4]; rfl, by rw [z5]; rfl, zf4, zf5, a5, ?_⟩
    rintro w2 rfl
    exact ⟨(h1.setAh hz1 (some a)).setBh (σ := { σ1 with ah := upd σ1.ah z (some a) }) hz1 (some y), s1.trans ((Step.set (σ' := { σ1 with ah := upd σ1.ah z (some a) }) hz1.no rfl rfl).trans (Step.set (σ := { σ1 with ah := upd σ1.ah z (some a) }) hz1.no rfl rfl))⟩
  have fin : ∀ (w2 : World) (σ2 : Sg), Mem KT KN w2 σ2 → Step w σ w2 σ2 → σ2.own = σ.own → σ2.ah z = some a → σ2.bh z = some y →
      w2.cell? ⟨z, 4, none⟩ = some (.pointer (some ⟨a, 0, none⟩)) ∧ w2.cell? ⟨z, 5, none⟩ = some (.pointer (some ⟨y, 0, none⟩)) ∧ (∃ v, w2.cell? ⟨a, 5, none⟩ = some v) ∧ (∃ v, w2.cell? ⟨y, 4, none⟩ = some v) ∧ w2.frozen? ⟨a, 5, none⟩ = false ∧ w2.frozen? ⟨y, 4, none⟩ = false := by
    intro w2 σ2 h2 s2 o1 o2 o3
    have hz1 : IsW (σ2.own z) := by rw [o1]; exact hz
    have hwa1 : IsW (σ2.own a) := by rw [o1]; exact hwa
    have hwy1 : IsW (σ2.own y) := by rw [o1]; exact hwy
    obtain ⟨_, _, _, _, z4, z5, _, _⟩ := (h2.hW z hz1).cells
    obtain ⟨_, _, _, _, _, a5, _, af5⟩ := (h2.hW a hwa1).cells
    obtain ⟨_, _, _, _, y4, _, yf4, _⟩ := (h2.hW y hwy1).cells
    rw [o2] at z4
    rw [o3] at z5
    exact ⟨z4, z5, ⟨_, a5⟩, ⟨_, y4⟩, af5, yf4⟩
  have S1 := toHid (show ∀ W σ2, Mem KT KN W σ2 → Step w σ W σ2 → σ2.own = σ.own → σ2 = { σ with ls := σ2.ls, ah := upd σ.ah z (some a), bh := upd σ.bh z (some y) } → σ2.ls = (if (σ.nd z).had = 0 then σ.ls else upd σ.ls n z) →
      Mem KT KN (((W.drew).setCell ⟨a, 5, none⟩ (.pointer (some ⟨z, 0, none⟩))).setCell ⟨y, 4, none⟩ (.pointer (some ⟨z, 0, none⟩))) (putS σ n z a y) ∧ Step w σ (((W.drew).setCell ⟨a, 5, none⟩ (.pointer (some ⟨z, 0, none⟩))).setCell ⟨y, 4, none⟩ (.pointer (some ⟨z, 0, none⟩))) (putS σ n z a y) from fun W σ2 h2 s2 o1 o2 o3 => by
    have hd : Below W.heap.size W W.drew := (Below.refl _ _).drew
    obtain ⟨g1, g2⟩ := put_end (z := z) (h2.below hd) (a := a) (y := y) (by rw [o1]; exact hwa) (by rw [o1]; exact hwy)
    have e : ({ σ2 with ah := upd σ2.ah y (some z), bh := upd σ2.bh a (some z) } : Sg) = putS σ n z a y := by
      rw [o2]
      unfold putS
      rw [← o3]
    rw [e] at g1 g2
    exact ⟨g1, s2.trans ((Step.quiet hd).trans g2)⟩)
  by_cases h0 : (σ.nd z).had = 0
  · rw [if_pos h0] at ha
    subst ha
    rw [show decide ((σ.nd z).had ≠ 0) = false from by simp [h0]] at hcv
    obtain ⟨k1, k2, k3, k4, k5, k6⟩ := key w σ h (Step.refl _ _) rfl rfl rfl rfl
    obtain ⟨v1, k1⟩ := Option.isSome_iff_exists.1 k1
    obtain ⟨v2, k2⟩ := Option.isSome_iff_exists.1 k2
    have HK := toHid k6
    have HF := toHid fin
    clear key fin k6 hl h hltag
    go_enter Tryz.func78, Tryz.ntmps78
    go_wp2_with (first | (go_at_call 75; refine hcv.mono ?_; rintro e w2 ⟨rfl, hw⟩; obtain rfl := hw.symm))
    generalize hW : ((w.setCell ⟨z, 4, none⟩ (.pointer (some ⟨a, 0, none⟩))).setCell ⟨z, 5, none⟩ (.pointer (some ⟨y, 0, none⟩))) = W
    obtain ⟨h2, s2⟩ := HK.out W hW.symm
    obtain ⟨f1, f2, ⟨v3, f3⟩, ⟨v4, f4⟩, f5, f6⟩ := HF.out W _ h2 s2 rfl (upd_same _ _ _) (upd_same _ _ _)
    have HQ := toHid (S1.out W _ h2 s2 rfl rfl (by simp [h0]))
    clear hW h2 s2 HK HF S1 k1 k2 k3 k4 k5 hcv c7 c8 f8 e4
    go_region
    all_goals
      go_wp2_with fail
      go_end0
      exact ⟨rfl, HQ.out⟩
  · rw [if_neg h0] at ha
    subst ha
    rw [show decide ((σ.nd z).had ≠ 0) = true from by simp [h0]] at hcv
    have h1 := h.setLs hb z
    have s1 : Step w σ (w.setCell ⟨b, 8, none⟩ (ptr (some z))) { σ with ls := upd σ.ls n z } := Step.set hltag rfl rfl
    rw [ptr_some] at h1 s1
    obtain ⟨k1, k2, k3, k4, k5, k6⟩ := key _ _ h1 s1 rfl rfl rfl rfl
    obtain ⟨v1, k1⟩ := Option.isSome_iff_exists.1 k1
    obtain ⟨v2, k2⟩ := Option.isSome_iff_exists.1 k2
    have HK := toHid k6
    have HF := toHid fin
    clear key fin k6 hl h hltag h1 s1
    go_enter Tryz.func78, Tryz.ntmps78
    go_wp2_with (first | (go_at_call 75; refine hcv.mono ?_; rintro e w2 ⟨rfl, hw⟩; obtain rfl := hw.symm))
    generalize hW : (((w.setCell ⟨b, 8, none⟩ (.pointer (some ⟨z, 0, none⟩))).setCell ⟨z, 4, none⟩ (.pointer (some ⟨σ.ls n, 0, none⟩))).setCell ⟨z, 5, none⟩ (.pointer (some ⟨y, 0, none⟩))) = W
    obtain ⟨h2, s2⟩ := HK.out W hW.symm
    obtain ⟨f1, f2, ⟨v3, f3⟩, ⟨v4, f4⟩, f5, f6⟩ := HF.out W _ h2 s2 rfl (upd_same _ _ _) (upd_same _ _ _)
    have HQ := toHid (S1.out W _ h2 s2 rfl rfl (by simp [h0]))
    clear hW h2 s2 HK HF S1 k1 k2 k3 k4 k5 hcv c7 c8 f8 e4
    go_region
    all_goals
      go_wp2_with fail
      go_end0
      exact ⟨rfl, HQ.out⟩

/-- z has gone from between x and y. -/
noncomputable def takeS (σ : Sg) (n : Name) (z x y : Nat) : Sg :=
  { σ with ls := if σ.ls n = z then upd σ.ls n x else σ.ls, ah := upd σ.ah y (some x), bh := upd σ.bh x (some y) }

set_option maxRecDepth 100000 in
set_option maxHeartbeats 4000000 in
theorem take51 {x : Nat} (h : Mem KT KN w σ) (hb : σ.lb n = some b) (hz : IsW (σ.own z)) (hx : σ.ah z = some x) (hy : σ.bh z = some y) (hwx : IsW (σ.own x)) (hwy : IsW (σ.own y)) (hls : IsW (σ.own (σ.ls n))) :
    Calls Tryz.prog 69 #[.pointer (some ⟨b, 7, none⟩), .pointer (some ⟨z, 0, none⟩)] w fun e w' => e = .returned (.tuple #[]) ∧ Mem KT KN w' (takeS σ n z x y) ∧ Step w σ w' (takeS σ n z x y) := by
  have hl := h.hL n b hb
  obtain ⟨_, _, _, _, _, _, _, c7, c8⟩ := hl.cells
  have f8 := hl.free 8
  rw [ptr_some] at c7 c8
  have hltag : σ.own b ≠ .no := by rw [hl.tag]; simp
  have fin : ∀ (w2 : World) (σ2 : Sg), Mem KT KN w2 σ2 → σ2.own = σ.own → σ2.ah = σ.ah → σ2.bh = σ.bh →
      w2.cell? ⟨z, 4, none⟩ = some (.pointer (some ⟨x, 0, none⟩)) ∧ w2.cell? ⟨z, 5, none⟩ = some (.pointer (some ⟨y, 0, none⟩)) ∧ (∃ v, w2.cell? ⟨x, 5, none⟩ = some v) ∧ (∃ v, w2.cell? ⟨y, 4, none⟩ = some v) ∧ w2.frozen? ⟨x, 5, none⟩ = false ∧ w2.frozen? ⟨y, 4, none⟩ = false := by
    intro w2 σ2 h2 o1 o2 o3
    have hz1 : IsW (σ2.own z) := by rw [o1]; exact hz
    have hwa1 : IsW (σ2.own x) := by rw [o1]; exact hwx
    have hwy1 : IsW (σ2.own y) := by rw [o1]; exact hwy
    obtain ⟨_, _, _, _, z4, z5, _, _⟩ := (h2.hW z hz1).cells
    obtain ⟨_, _, _, _, _, a5, _, af5⟩ := (h2.hW x hwa1).cells
    obtain ⟨_, _, _, _, y4, _, yf4, _⟩ := (h2.hW y hwy1).cells
    rw [o2, hx] at z4
    rw [o3, hy] at z5
    exact ⟨z4, z5, ⟨_, a5⟩, ⟨_, y4⟩, af5, yf4⟩
  have S1 := toHid (show ∀ W σ2, Mem KT KN W σ2 → Step w σ W σ2 → σ2 = { σ with ls := σ2.ls } → σ2.ls = (if σ.ls n = z then upd σ.ls n x else σ.ls) →
      Mem KT KN (((W.drew).setCell ⟨x, 5, none⟩ (.pointer (some ⟨y, 0, none⟩))).setCell ⟨y, 4, none⟩ (.pointer (some ⟨x, 0, none⟩))) (takeS σ n z x y) ∧ Step w σ (((W.drew).setCell ⟨x, 5, none⟩ (.pointer (some ⟨y, 0, none⟩))).setCell ⟨y, 4, none⟩ (.pointer (some ⟨x, 0, none⟩))) (takeS σ n z x y) from fun W σ2 h2 s2 o2 o3 => by
    have hd : Below W.heap.size W W.drew := (Below.refl _ _).drew
    have o1 : σ2.own = σ.own := by rw [o2]
    have hwx2 : IsW (σ2.own x) := by rw [o1]; exact hwx
    have hwy2 : IsW (σ2.own y) := by rw [o1]; exact hwy
    have g1 := ((h2.below hd).setBh hwx2 (some y)).setAh (σ := { σ2 with bh := upd σ2.bh x (some y) }) hwy2 (some x)
    have g2 := (Step.set (w := W.drew) (i := x) (k := 5) (v := ptr (some y)) (σ' := { σ2 with bh := upd σ2.bh x (some y) }) hwx2.no rfl rfl).trans (Step.set (σ := { σ2 with bh := upd σ2.bh x (some y) }) (i := y) (k := 4) (v := ptr (some x)) (σ' := { σ2 with ah := upd σ2.ah y (some x), bh := upd σ2.bh x (some y) }) hwy2.no rfl rfl)
    have e : ({ σ2 with ah := upd σ2.ah y (some x), bh := upd σ2.bh x (some y) } : Sg) = takeS σ n z x y := by
      rw [o2]
      unfold takeS
      rw [← o3]
    have g1 : Mem KT KN _ ({ σ2 with ah := upd σ2.ah y (some x), bh := upd σ2.bh x (some y) } : Sg) := g1
    rw [e] at g1 g2
    exact ⟨g1, s2.trans ((Step.quiet hd).trans g2)⟩)
  by_cases h0 : σ.ls n = z
  · have h1 := h.setLs hb x
    have s1 : Step w σ (w.setCell ⟨b, 8, none⟩ (ptr (some x))) { σ with ls := upd σ.ls n x } := Step.set hltag rfl rfl
    rw [ptr_some] at h1 s1
    have he := eqW_same w ⟨z, 0, none⟩
    rw [h0] at c8
    obtain ⟨_, _, _, _, z4, _, _, _⟩ := (h.hW z hz).cells
    rw [hx, ptr_some] at z4
    have HF := toHid (fin _ _ h1 rfl rfl rfl)
    have HQ := toHid (S1.out _ _ h1 s1 rfl (by simp [h0]))
    clear fin hl h hltag h1 s1 S1
    go_enter Tryz.func69, Tryz.ntmps69
    go_wp2_with fail
    obtain ⟨f1, f2, ⟨v3, f3⟩, ⟨v4, f4⟩, f5, f6⟩ := HF.out
    generalize (w.setCell ⟨b, 8, none⟩ (.pointer (some ⟨x, 0, none⟩))) = W at *
    clear c7 c8 f8
    go_region
    all_goals
      go_wp2_with fail
      go_end0
      exact ⟨rfl, HQ.out⟩
  · have he := eqW_other (W := w) h0 (h.hW _ hls) (h.hW z hz)
    have HF := toHid (fin w σ h rfl rfl rfl)
    have HQ := toHid (S1.out w σ h (Step.refl _ _) rfl (by simp [h0]))
    clear fin hl h hltag S1
    go_enter Tryz.func69, Tryz.ntmps69
    go_wp2_with fail
    obtain ⟨f1, f2, ⟨v3, f3⟩, ⟨v4, f4⟩, f5, f6⟩ := HF.out
    clear c7 c8 f8
    go_region
    all_goals
      go_wp2_with fail
      go_end0
      exact ⟨rfl, HQ.out⟩
end

end Go.Proofs.YtclppfljengnbaaGreat
