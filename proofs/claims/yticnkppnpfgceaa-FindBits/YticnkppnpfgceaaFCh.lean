/-
  The walk of left.
-/
import Derived.Test.YticnkppnpfgceaaFCg
namespace Go.Proofs.Yticnkppnpfgceaa.Mg
open Go.RowKit Go.Maps Go.Shelf Go.Sort

section
variable {w : World} {A D : Nat} {K : List Lit} {x : Lf}
theorem ris_nodup {β : Type} {l : List (Int × β)} (h : Ris l) : (l.map fun p => Lit.int .i64 p.1).Nodup := by
  rw [List.Nodup, List.pairwise_map]
  exact (List.pairwise_map.1 h).imp fun hlt e => by injection e with _ e; omega
theorem Wk.lenT (h : Wk w A D K x) : x.t.length ≤ 1000 := by
  obtain ⟨D0, _, hT⟩ := h.t
  have := nodup_le' (T := K) (ris_nodup h.ok.t) fun y hy => hT.keys y (by
    obtain ⟨p, hp, rfl⟩ := List.mem_map.1 hy
    simp [gF, look_mem h.ok.t (x := p.1) (v := p.2) hp])
  have hk := h.kl
  simp at this
  omega
theorem Wk.lenD (h : Wk w A D K x) : x.d.length ≤ 1000 := by
  obtain ⟨D0, _, hT⟩ := h.d
  have := nodup_le' (T := K) (ris_nodup h.ok.d) fun y hy => hT.keys y (by
    obtain ⟨p, hp, rfl⟩ := List.mem_map.1 hy
    simp [dF, look_mem h.ok.d (x := p.1) (v := p.2) hp])
  have hk := h.kl
  simp at this
  omega
theorem Wk.wiT (h : Wk w A D K x) : ∀ p, p ∈ x.t → Wi p.1 := fun p hp => by
  obtain ⟨D0, ho, hT⟩ := h.t
  have h1 := hT.has (.int .i64 p.1)
  obtain ⟨es, hE, hko⟩ := ho.keysOf
  rw [hE, has_eq, show gF x.t (.int .i64 p.1) = some (gtV p.2) by simp [gF, look_mem h.ok.t (x := p.1) (v := p.2) hp]] at h1
  obtain ⟨q, hq, hs⟩ := List.any_eq_true.1 (h1.trans rfl)
  obtain ⟨v, hv⟩ := hko q hq
  obtain ⟨z, _, hz, hwf⟩ := Maps.keyOf_int_inv Try.underlying3 hv
  have e := WideAt.sameKey_eq hs
  rw [hz] at e
  exact (congrArg Lit.wf e).symm.trans hwf
theorem Wk.wiD (h : Wk w A D K x) : ∀ p, p ∈ x.d → Wi p.1 := fun p hp => by
  obtain ⟨D0, ho, hT⟩ := h.d
  have h1 := hT.has (.int .i64 p.1)
  obtain ⟨es, hE, hko⟩ := ho.keysOf
  rw [hE, has_eq, show dF x.d (.int .i64 p.1) = some (nV p.2) by simp [dF, look_mem h.ok.d (x := p.1) (v := p.2) hp]] at h1
  obtain ⟨q, hq, hs⟩ := List.any_eq_true.1 (h1.trans rfl)
  obtain ⟨v, hv⟩ := hko q hq
  obtain ⟨z, _, hz, hwf⟩ := Maps.keyOf_int_inv Try.underlying3 hv
  have e := WideAt.sameKey_eq hs
  rw [hz] at e
  exact (congrArg Lit.wf e).symm.trans hwf
theorem cell_three_at (w : World) (a b c : Value) (t : TypeId) : ∀ j u, [a, b, c][j]? = some u → (w.alloc (.cells #[a, b, c] t)).cell? ((⟨w.heap.size, 0, none⟩ : Addr).add j) = some u := by
  intro j u hu
  rw [addr_add]
  have hk : (w.alloc (.cells #[a, b, c] t)).heap[w.heap.size]? = some (.cells #[a, b, c] t) := heap_alloc_new w _
  obtain ⟨q0, q1, q2, _⟩ := cellsT hk
  match j, hu with
  | 0, hu => simp at hu; rw [← hu]; exact q0
  | 1, hu => simp at hu; rw [← hu]; exact q1
  | 2, hu => simp at hu; rw [← hu]; exact q2
  | j + 3, hu => simp at hu
theorem cell_two_at (w : World) (a b : Value) (t : TypeId) : ∀ j u, [a, b][j]? = some u → (w.alloc (.cells #[a, b] t)).cell? ((⟨w.heap.size, 0, none⟩ : Addr).add j) = some u := by
  intro j u hu
  rw [addr_add]
  have hk : (w.alloc (.cells #[a, b] t)).heap[w.heap.size]? = some (.cells #[a, b] t) := heap_alloc_new w _
  obtain ⟨q0, q1⟩ := cellsW hk
  match j, hu with
  | 0, hu => simp at hu; rw [← hu]; exact q0
  | 1, hu => simp at hu; rw [← hu]; exact q1
  | j + 2, hu => simp at hu
theorem cell_one_at (w : World) (a : Value) (t : TypeId) : ∀ j u, [a][j]? = some u → (w.alloc (.cells #[a] t)).cell? ((⟨w.heap.size, 0, none⟩ : Addr).add j) = some u := by
  intro j u hu
  rw [addr_add]
  have hk : (w.alloc (.cells #[a] t)).heap[w.heap.size]? = some (.cells #[a] t) := heap_alloc_new w _
  match j, hu with
  | 0, hu => simp at hu; rw [← hu]; exact cell_of_one hk
  | j + 1, hu => simp at hu
theorem key_cell {W : World} {B : Nat} {va : Option Addr} {vc n : Nat} {ks : List Int} (h : W.ownsRow B 3 1 (.slice va n vc) n (ks.map (Value.int .i64))) (hn : n = ks.length) {k : Nat} (hk : k < ks.length) : ∃ g, va = some ⟨g, 0, none⟩ ∧ W.cell? ⟨g, k, none⟩ = some (.int .i64 ks[k]) := by
  rcases h.2 with ⟨h0, h1⟩ | ⟨g, cap, cur, e, _⟩
  · omega
  · injection e with e1 e2 e3
    subst e1
    refine ⟨g, rfl, ?_⟩
    have := h.cells (g := g) rfl k (.int .i64 ks[k]) (by simp [hk])
    rw [addr_add] at this
    exact this

set_option maxRecDepth 100000 in
set_option maxHeartbeats 8000000 in
theorem left29 (h : Wk w A D K x) : Calls Try.prog 29 #[wkV A D] w fun e w' => ∃ vt vn vd, e = .returned (.agg #[vt, vn, vd, .int .u64 (redoL x.d : Int)]) ∧ LfR w' w.heap.size vt vn vd x ∧ Below w.heap.size w w' := by
  obtain ⟨i7, hi7, hz70, hz71, hz72⟩ := info_parts Try.info57
  obtain ⟨i3, hi3, hz30, hz31, hz32⟩ := info_parts Try.info30
  obtain ⟨i6, hi6, hz60, hz61, hz62⟩ := info_parts Try.info60
  obtain ⟨W0, hW0⟩ : ∃ W0, W0 = ((w.alloc (.cells (wkC A D) 65)).alloc (.cells #[.slice none 0 0, .slice none 0 0, .slice none 0 0, .int .u64 0] 32)).alloc (.cells #[.slice none 0 0, .slice none 0 0, .slice none 0 0, .int .u64 0] 32) := ⟨_, rfl⟩
  have hb0 : Below w.heap.size w W0 := hW0 ▸ below3
  obtain ⟨k0, k1, k2, _⟩ := kept3 (w := w) (W := W0) (by rw [hW0]; exact Below.refl _ _)
  have HM0 := toHid (show Lm w W0 A D K x [] [] [] (.slice none 0 0) (.slice none 0 0) (.slice none 0 0) 0 from ⟨hb0, k0, k1, k2, World.ownsRow_nil _ _ _ _, World.ownsRow_nil _ _ _ _, World.ownsRow_nil _ _ _ _, h.below hb0, h.t.lt, h.d.lt⟩)
  obtain ⟨hK1, hK2⟩ := h.keysT
  have HKT := toHid hK1
  have HKS := toHid hK2
  have HB0 := toHid hb0
  have hlt := h.lenT
  have hld := h.lenD
  have HW0 := toHid hW0
  have HWT := toHid h.wiT
  have HWD := toHid h.wiD
  have HOk := toHid h.ok
  clear hK1 hK2 hb0 k0 k1 k2 hW0 h
  go_enter Try.func29, Try.ntmps29
  go_wp2_with fail
  rw [← HW0.out]
  refine Calls.mono (HKT.out W0 HB0.out) ?_
  rintro e w1 ⟨rfl, hw1⟩
  obtain rfl := hw1.symm
  clear hw1
  go_wp2_with fail
  refine Calls.mono (HKS.out W0 HB0.out) ?_
  rintro e w2 ⟨va, vc, rfl, hown, hb2⟩
  have HK2 := toHid (ownsRow_base hown HB0.out.size)
  have HM2 := toHid (HM0.out.next hb2)
  clear hown hb2 HKT HKS HM0
  go_wp2_with fail
  go_loopw [15] (fun i W => ∃ (k : Nat) (vt vn : Value), k ≤ x.t.length ∧ i = .int .i64 k ∧ Lm w W A D K x (x.t.take k) (x.t.take k) [] vt vn (.slice none 0 0) 0 ∧ W.ownsRow w.heap.size 3 1 (.slice va x.t.length vc) x.t.length ((x.t.map Prod.fst).map (Value.int .i64))) (fun i _ => x.t.length - (intOf i).toNat)
  case atStart => exact ⟨0, _, _, Nat.zero_le _, rfl, HM2.out, HK2.out⟩
  case round =>
    obtain ⟨k, vt, vn, hk, rfl, hm, hko⟩ := hrel
    have HM := toHid hm
    have HKo := toHid hko
    clear hm hko HM2 HK2
    by_cases hkl : k < x.t.length
    · have hk1 : (k : Int) < (x.t.length : Int) := by omega
      have hk2 : 0 ≤ (k : Int) := by omega
      obtain ⟨kg, rfl, hkc⟩ := key_cell HKo.out (by simp) (k := k) (by simpa using hkl)
      obtain ⟨⟨id, g⟩, hp⟩ : ∃ p, x.t[k] = p := ⟨_, rfl⟩
      have hmem : (id, g) ∈ x.t := by rw [← hp]; exact List.getElem_mem hkl
      have hwi := HWT.out _ hmem
      have hl := HM.out.wk.lookT hwi
      rw [look_mem HOk.out.t hmem] at hl
      rw [List.getElem_map, hp] at hkc
      have HTk := toHid (show x.t.take (k + 1) = x.t.take k ++ [(id, g)] by rw [List.take_succ_eq_append_getElem hkl, hp])
      have hyl : (x.t.take k).length ≤ 1000 := by simp; omega
      obtain ⟨Y, hY⟩ : ∃ Y, x.t.take k = Y := ⟨_, rfl⟩
      rw [hY] at HM HTk hyl
      obtain ⟨b0, b1⟩ := cellsW HM.out.box
      obtain ⟨v0, v1, v2, v3, vf0, vf1, vf2, vf3⟩ := cellsF HM.out.var
      have hs1 := some_lt HM.out.var
      have hs2 := HM.out.low.size
      obtain ⟨ya, yc, rfl⟩ := ownsRow_shape2 HM.out.t
      obtain ⟨za, zc, rfl⟩ := ownsRow_shape2 HM.out.n
      clear hmem hwi hp hY
      go_upto_region 6 with fail
      obtain ⟨W3, hW3⟩ : ∃ W3, W3 = wr.alloc (.cells (gtC g) 91) := ⟨_, rfl⟩
      have hb3 : Below wr.heap.size wr W3 := hW3 ▸ (Below.refl _ _).alloc (Nat.le_refl _) _
      have hg3 : W3.heap[wr.heap.size]? = some (.cells (gtC g) 91) := hW3 ▸ heap_alloc_new _ _
      have HM3 := toHid (HM.out.next hb3)
      have HK3 := toHid (own_below HKo.out hb3)
      simp only [gtC] at hW3 hg3
      rw [← hW3]
      clear hW3 b0 b1 v0 v1 v2 v3 vf0 vf1 vf2 vf3 hl hkc hb3
      have HG3 := toHid hg3
      obtain ⟨v0, v1, v2, v3, vf0, vf1, vf2, vf3⟩ := cellsF HM3.out.var
      obtain ⟨g0, g1, g2, _, _, _⟩ := cellsT hg3
      clear hg3
      have hs3 := some_lt HM3.out.var
      have hs4 := HM3.out.low.size
      have hs5 := some_lt HG3.out
      go_upto_region 7 with (at_builtin; refine wpList_append_own _ rfl _ _ 26 rfl w.heap.size 57 i7 _ 3 24 Try.underlying26 hi7 hz70 hz71 hz72 rfl (by decide) _ Y.length _ rfl (HM3.out.t.alloc _) ⟨W3.heap.size, 0, none⟩ 1 1 [_, _, _] rfl rfl (cell_three_at _ _ _ _ _) (by intro u hu; simp at hu; rcases hu with rfl | rfl | rfl <;> rfl) (by unfold maxLen; omega) (by omega) (by simp; omega) ?_; intro v7 w7 o1 o2 _; have ha7 := (HM3.out.next (W' := W3.alloc (.cells #[.int .i64 id, .int .i64 g.st, .int .u64 (g.last : Int)] 57)) ((Below.refl _ _).alloc (Nat.le_refl _) _)).addT (p := (id, g)) o1 o2; obtain ⟨a7, c7, rfl⟩ := ownsRow_shape2 o1; obtain ⟨t0, t1, t2, t3, tf0, tf1, tf2, tf3⟩ := cellsF ha7.2.2; have HA7 := toHid ha7; clear ha7 o1 o2)
      have hg7 := HA7.out.2.1 _ _ _ ((heap_alloc_old (some_lt HG3.out)).trans HG3.out) (by decide) (by decide)
      have HK7 := toHid (HA7.out.2.1.row (HK3.out.alloc _) (by decide) (by decide))
      have HM7 := toHid HA7.out.1
      clear t0 t1 t2 t3 tf0 tf1 tf2 tf3 v0 v1 v2 v3 vf0 vf1 vf2 vf3 g0 g1 g2 HA7 HK3 HM3 HG3 hs3 hs4 hs5
      generalize w7.setCell ⟨w.heap.size + 1 + 1, 0, none⟩ (.slice a7 (Y.length + 1) c7) = W8 at *
      obtain ⟨v0, v1, v2, v3, vf0, vf1, vf2, vf3⟩ := cellsF HM7.out.var
      obtain ⟨g0, g1, g2, _, _, _⟩ := cellsT hg7
      have hs3 := some_lt HM7.out.var
      have hs4 := HM7.out.low.size
      clear hg7
      go_wp2_with (at_builtin; refine wpList_append_own _ rfl _ _ 27 rfl w.heap.size 30 i3 _ 1 8 Try.underlying27 hi3 hz30 hz31 hz32 rfl (by decide) _ Y.length _ rfl (HM7.out.n.alloc _) ⟨W8.heap.size, 0, none⟩ 1 1 [_] rfl rfl (cell_one_at _ _ _) (by intro u hu; simp at hu; rcases hu with rfl; rfl) (by unfold maxLen; omega) (by omega) (by simp; omega) ?_; intro v9 w9 o1 o2 _; have ha9 := (HM7.out.next (W' := W8.alloc (.cells #[.int .u64 (g.next : Int)] 30)) ((Below.refl _ _).alloc (Nat.le_refl _) _)).addN (p := (id, g)) o1 o2; obtain ⟨a9, c9, rfl⟩ := ownsRow_shape2 o1; obtain ⟨t0, t1, t2, t3, tf0, tf1, tf2, tf3⟩ := cellsF ha9.2.2; have HA9 := toHid ha9; clear ha9 o1 o2)
      go_roundw
      case rel => exact ⟨k + 1, _, _, by omega, by go_num, by rw [HTk.out]; exact HA9.out.1, HA9.out.2.1.row (HK7.out.alloc _) (by decide) (by decide)⟩
      case measure => simp [intOf]; omega
    · obtain rfl : k = x.t.length := by omega
      rw [List.take_length] at HM
      obtain ⟨b0, b1⟩ := cellsW HM.out.box
      obtain ⟨hK1, hK2⟩ := HM.out.wk.keysD
      have HKT := toHid (hK1 wr (Below.refl _ _))
      have HKS := toHid (hK2 wr (Below.refl _ _))
      clear hK1 hK2 HKo hkl
      go_wp2_with fail
      refine Calls.mono HKT.out ?_
      rintro e w1 ⟨rfl, hw1⟩
      obtain rfl := hw1.symm
      clear hw1 b0 b1
      go_wp2_with fail
      refine Calls.mono HKS.out ?_
      rintro e w2 ⟨da, dc, rfl, hown, hb2⟩
      have HK2 := toHid (ownsRow_base hown HM.out.low.size)
      have HM2 := toHid (HM.out.next hb2)
      clear hown hb2 HKT HKS HM
      go_wp2_with fail
      go_loopw [47] (fun i W => ∃ (k : Nat) (vd : Value), k ≤ x.d.length ∧ i = .int .i64 k ∧ Lm w W A D K x x.t x.t (x.d.take k) vt vn vd (redoL (x.d.take k)) ∧ W.ownsRow w.heap.size 3 1 (.slice da x.d.length dc) x.d.length ((x.d.map Prod.fst).map (Value.int .i64))) (fun i _ => x.d.length - (intOf i).toNat)
      case atStart => exact ⟨0, _, Nat.zero_le _, rfl, HM2.out, HK2.out⟩
      case round =>
        obtain ⟨k, vd, hk, rfl, hm, hko⟩ := hrel
        have HM := toHid hm
        have HKo := toHid hko
        clear hm hko HM2 HK2
        by_cases hkl : k < x.d.length
        · have hk1 : (k : Int) < (x.d.length : Int) := by omega
          have hk2 : 0 ≤ (k : Int) := by omega
          obtain ⟨kg, rfl, hkc⟩ := key_cell HKo.out (by simp) (k := k) (by simpa using hkl)
          obtain ⟨⟨id, g⟩, hp⟩ : ∃ p, x.d[k] = p := ⟨_, rfl⟩
          have hmem : (id, g) ∈ x.d := by rw [← hp]; exact List.getElem_mem hkl
          have hwi := HWD.out _ hmem
          have hl := HM.out.wk.lookD hwi
          rw [look_mem HOk.out.d hmem] at hl
          rw [List.getElem_map, hp] at hkc
          have HTk := toHid (show x.d.take (k + 1) = x.d.take k ++ [(id, g)] by rw [List.take_succ_eq_append_getElem hkl, hp])
          have hyl : (x.d.take k).length ≤ 1000 := by simp; omega
          obtain ⟨Y, hY⟩ : ∃ Y, x.d.take k = Y := ⟨_, rfl⟩
          rw [hY] at HM HTk hyl
          have HRe := toHid (redo_snoc Y (id, g))
          obtain ⟨R, hR⟩ : ∃ R, redoL Y = R := ⟨_, rfl⟩
          rw [hR] at HM HRe
          obtain ⟨b0, b1⟩ := cellsW HM.out.box
          obtain ⟨v0, v1, v2, v3, vf0, vf1, vf2, vf3⟩ := cellsF HM.out.var
          have hs1 := some_lt HM.out.var
          have hs2 := HM.out.low.size
          obtain ⟨ya, yc, rfl⟩ := ownsRow_shape2 HM.out.d
          clear hmem hwi hp hY hR
          simp only [Option.getD_some] at hl
          go_upto_region 14 with (at_builtin; refine wpList_append_own _ rfl _ _ 28 rfl w.heap.size 60 i6 _ 2 16 Try.underlying28 hi6 hz60 hz61 hz62 rfl (by decide) _ Y.length _ rfl (HM.out.d.alloc _) ⟨wr.heap.size, 0, none⟩ 1 1 [_, _] rfl rfl (cell_two_at _ _ _ _) (by intro u hu; simp at hu; rcases hu with rfl | rfl <;> rfl) (by unfold maxLen; omega) (by omega) (by simp; omega) ?_; intro v9 w9 o1 o2 _; have ha9 := (HM.out.next (W' := wr.alloc (.cells #[.int .i64 id, .int .u64 (g : Int)] 60)) ((Below.refl _ _).alloc (Nat.le_refl _) _)).addD (p := (id, g)) o1 o2; obtain ⟨a9, c9, rfl⟩ := ownsRow_shape2 o1; obtain ⟨t0, t1, t2, t3, tf0, tf1, tf2, tf3⟩ := cellsF ha9.2.2; have HA9 := toHid ha9; clear ha9 o1 o2)
          have HK9 := toHid (HA9.out.2.1.row (HKo.out.alloc _) (by decide) (by decide))
          have HM9 := toHid HA9.out.1
          clear t0 t1 t2 t3 tf0 tf1 tf2 tf3 v0 v1 v2 v3 vf0 vf1 vf2 vf3 HA9 b0 b1 hl hkc HM
          generalize w9.setCell ⟨w.heap.size + 1 + 1, 2, none⟩ (.slice a9 (Y.length + 1) c9) = W8 at *
          obtain ⟨v0, v1, v2, v3, vf0, vf1, vf2, vf3⟩ := cellsF HM9.out.var
          have HSR := toHid (HM9.out.setR g)
          by_cases hR0 : R = 0
          · have q0 : ((R : Int) == 0) = true := by simp [hR0]
            have q0' : (R == 0) = true := by simp [hR0]
            rw [if_pos (.inl hR0)] at HRe
            clear hR0
            go_wp2_with fail
            go_roundw
            case rel => exact ⟨k + 1, _, by omega, by go_num, by rw [HTk.out, HRe.out]; exact HSR.out.1, HSR.out.2.row HK9.out (by decide) (by decide)⟩
            case measure => simp [intOf]; omega
          · have q0 : ((R : Int) == 0) = false := by simp [hR0]
            have q0' : (R == 0) = false := by simp [hR0]
            by_cases hRl : g < R
            · have q1 : (g : Int) < (R : Int) := by omega
              rw [if_pos (.inr hRl)] at HRe
              clear hR0
              go_wp2_with fail
              go_roundw
              case rel => exact ⟨k + 1, _, by omega, by go_num, by rw [HTk.out, HRe.out]; exact HSR.out.1, HSR.out.2.row HK9.out (by decide) (by decide)⟩
              case measure => simp [intOf]; omega
            · have q1 : ¬ (g : Int) < (R : Int) := by omega
              rw [if_neg (by rintro (h | h) <;> contradiction)] at HRe
              clear hR0
              go_wp2_with fail
              go_roundw
              case rel => exact ⟨k + 1, _, by omega, by go_num, by rw [HTk.out, HRe.out]; exact HM9.out, HK9.out⟩
              case measure => simp [intOf]; omega
        · obtain rfl : k = x.d.length := by omega
          rw [List.take_length] at HM
          obtain ⟨v0, v1, v2, v3, vf0, vf1, vf2, vf3⟩ := cellsF HM.out.var
          obtain ⟨r0, r1, r2, r3, rf0, rf1, rf2, rf3⟩ := cellsF HM.out.res
          have hs1 := some_lt HM.out.res
          obtain ⟨ya, yc, rfl⟩ := ownsRow_shape2 HM.out.t
          obtain ⟨za, zc, rfl⟩ := ownsRow_shape2 HM.out.n
          obtain ⟨da, dc, rfl⟩ := ownsRow_shape2 HM.out.d
          go_wp2
          refine bodyPost_ret (results_cell_row (P := Try.prog) Try.results29 _ _ (w.heap.size + 1) 32 _ (0, 0) _ rfl (put4_same HM.out.res _ _ _ _) Try.underlying32 rfl (by kernel_rfl)) rfl ⟨_, _, _, rfl, ⟨?_, ?_, ?_⟩, put4_below HM.out.low (by omega) _ _ _ _⟩
          · exact row_set (row_set (row_set (row_set HM.out.t HM.out.res (by decide)) (set4_0 HM.out.res _) (by decide)) (set4_1 (set4_0 HM.out.res _) _) (by decide)) (set4_2 (set4_1 (set4_0 HM.out.res _) _) _) (by decide)
          · exact row_set (row_set (row_set (row_set HM.out.n HM.out.res (by decide)) (set4_0 HM.out.res _) (by decide)) (set4_1 (set4_0 HM.out.res _) _) (by decide)) (set4_2 (set4_1 (set4_0 HM.out.res _) _) _) (by decide)
          · exact row_set (row_set (row_set (row_set HM.out.d HM.out.res (by decide)) (set4_0 HM.out.res _) (by decide)) (set4_1 (set4_0 HM.out.res _) _) (by decide)) (set4_2 (set4_1 (set4_0 HM.out.res _) _) _) (by decide)
end
end Go.Proofs.Yticnkppnpfgceaa.Mg
