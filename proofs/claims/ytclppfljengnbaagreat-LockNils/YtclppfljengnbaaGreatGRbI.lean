/-
  reach: all that a thing leads to.
-/
import Derived.Test.YtclppfljengnbaaGreatGRa
import Derived.Test.YtclppfljengnbaaGreatGGbI
namespace Go.Proofs.YtclppfljengnbaaGreat.Gr
open Go.RowKit Go.Maps

theorem valI {key : Value} {kl : Lit} (h : keyOf Tryz.prog 3 key = some kl) : key = kl.value := by
  obtain ⟨x, rfl, rfl, _⟩ := shapeI h
  rfl
theorem infI : (Tryz.prog.info? 3).map (fun i => (i.zero, i.size, i.bytes)) = some (some (.int .i64 0), 1, 8) := by kernel_rfl
theorem oneI {x : Lit} (h : keyOf Tryz.prog 3 x.value = some x) : x.value.oneCell' = true := by
  obtain ⟨u, hu, _⟩ := shapeI h
  rw [hu]
  rfl

theorem clI {x : Lit} (h : keyOf Tryz.prog 3 x.value = some x) : x.value.cells = #[x.value] := by
  obtain ⟨u, hu, _⟩ := shapeI h
  rw [hu]
  rfl

/-- The world's side of a search: the set in block s, the open ones in a row. -/
structure RsI (w : World) (C O : List Lit) (v : Value) (W : World) : Prop where
  low : Below w.heap.size w W
  set : SetL Tryz.prog 3 W w.heap.size C
  row : W.ownsRow w.heap.size 3 1 v O.length (O.map Lit.value)
  key : ∀ o, o ∈ O → keyOf Tryz.prog 3 o.value = some o
  few : O.length ≤ C.length + 1

theorem RsI.grow {w W W' : World} {C O : List Lit} {v : Value} (h : RsI w C O v W) {r : Nat} (hg : W.grownBy W' (some r)) (hr : (∃ b c d e, W.heap[r]? = some (.mapIter b c d e)) ∨ r = W.heap.size) (hrl : w.heap.size ≤ r) : RsI w C O v W' := by
  have hs := h.low.size
  refine ⟨h.low.grown hg hs fun j hj => by cases hj; exact hrl, h.set.at (hg.block _ h.set.lt fun e => ?_), row_at h.row fun i hi => ?_, h.key, h.few⟩
  · obtain rfl := Option.some.inj e
    rcases hr with ⟨b, c, d, e, h1⟩ | h1
    · obtain ⟨es, c', h2⟩ := h.set.set.blk
      rw [h2] at h1
      cases h1
    · have := h.set.lt; omega
  · obtain ⟨cur, h1, h2⟩ := row_kind h.row hi
    refine hg.block i (Array.getElem?_eq_some_iff.1 h1).1 fun e => ?_
    obtain rfl := Option.some.inj e
    rcases hr with ⟨b, c, d, e, h3⟩ | h3
    · rw [h1] at h3
      cases h3
    · have := (Array.getElem?_eq_some_iff.1 h1).1; omega
theorem RsI.below {w W W' : World} {C O : List Lit} {v : Value} (h : RsI w C O v W) (hb : Below W.heap.size W W') : RsI w C O v W' := by
  have hs := h.low.size
  refine ⟨⟨hb.os.trans h.low.os, hb.tape.trans h.low.tape, hb.output.trans h.low.output, Nat.le_trans hs hb.size, fun i hi => (hb.block i (by omega)).trans (h.low.block i hi)⟩, h.set.at (hb.block _ h.set.lt), row_at h.row fun i hi => ?_, h.key, h.few⟩
  obtain ⟨cur, h1, h2⟩ := row_kind h.row hi
  exact hb.block i (Array.getElem?_eq_some_iff.1 h1).1
theorem RsI.new {w W W' : World} {C O : List Lit} {v : Value} (h : RsI w C O v W) (hg : W.grownBy W' none) : RsI w C O v W' :=
  h.grow (r := W.heap.size) ⟨hg.os, hg.tape, hg.output, hg.size, fun i hi _ => hg.block i hi (by simp)⟩ (.inr rfl) h.low.size

theorem RsI.put {w W W' : World} {C O : List Lit} {v : Value} {y : Lit} (h : RsI w C O v W) (hs : SetL Tryz.prog 3 W' w.heap.size (C ++ [y])) (hm : W.mapTurned W' w.heap.size) : RsI w (C ++ [y]) O v W' := by
  have hg := hm.grown
  refine ⟨h.low.grown hg h.low.size fun j hj => by cases hj; exact Nat.le_refl _, hs, row_at h.row fun i hi => ?_, h.key, by have := h.few; simp; omega⟩
  obtain ⟨cur, h1, h2⟩ := row_kind h.row hi
  refine hg.block i (Array.getElem?_eq_some_iff.1 h1).1 fun e => ?_
  obtain rfl := Option.some.inj e
  obtain ⟨es, c', h3⟩ := h.set.set.blk
  rw [h1] at h3
  cases h3
theorem RsI.push {w W W' : World} {C O : List Lit} {v v' : Value} {y : Lit} (h : RsI w C O v W) (hg : W.grownBy W' v.ownBlock) (hr : W'.ownsRow w.heap.size 3 1 v' (O.length + 1) (O.map Lit.value ++ [y.value])) (hk : keyOf Tryz.prog 3 y.value = some y) (hf : O.length + 1 ≤ C.length + 1) : RsI w C (O ++ [y]) v' W' := by
  refine ⟨h.low.grown hg h.low.size fun j hj => (row_kind h.row hj).choose_spec.2, h.set.at (hg.block _ h.set.lt fun e => ?_), by simpa using hr, fun o ho => ?_, by simpa using hf⟩
  · obtain ⟨cur, h1, _⟩ := row_kind h.row e.symm
    obtain ⟨es, c', h3⟩ := h.set.set.blk
    rw [h1] at h3
    cases h3
  · rcases List.mem_append.1 ho with h1 | h1
    · exact h.key o h1
    · obtain rfl : o = y := by simpa using h1
      exact hk
set_option maxRecDepth 100000 in
set_option maxHeartbeats 8000000 in
theorem reachI {w : World} {A N : Nat} {f : Lit → Option Nat} {F : Lit → Lit → Bool} {z : Int} {a : Lit} (h : Lk 3 w A N f F) (hz : keyOf Tryz.prog 3 (.int .i64 z) = some a) (T : List Lit) (hT : ∀ x y, F x y = true → y ∈ T) (hTl : T.length ≤ 100000) :
    Calls Tryz.prog 90 #[.map (some A), (.int .i64 z)] w fun e w' => ∃ c C, e = .returned (.map (some c)) ∧ Below w.heap.size w w' ∧ w.heap.size ≤ c ∧ SetL Tryz.prog 3 w' c C ∧ C.Nodup ∧ (∀ y, y ∈ C ↔ Lds F a y) ∧ C.length ≤ 100000 := by
  obtain ⟨i0, hi0, hz0, hz1, hz2⟩ := info_parts infI
  have hm := @run_makeMap Tryz.prog
  have HL := toHid h
  have HT := toHid hT
  clear hT h
  have hav := valI hz
  have hs1 : (w.alloc (.map #[] 0)).heap.size = w.heap.size + 1 := by simp
  have HR0 := toHid (show RsI w [] [a] (.slice (some ⟨w.heap.size + 1, 0, none⟩) 1 1) ((w.alloc (.map #[] 0)).alloc (.cells #[(.int .i64 z)] 3)) from
    ⟨((Below.refl _ _).alloc (Nat.le_refl _) _).alloc (by simp) _, (SetL.made w).at (heap_alloc_old (by simp)), ⟨by simp, .inr ⟨w.heap.size + 1, 1, #[(.int .i64 z)], rfl, by omega, by rw [← hs1]; exact (MapKept.heap_alloc _ _).1, Nat.le_refl _, by unfold maxLen; omega, by simp, by simp [hav]⟩⟩, fun o ho => by simp at ho; rw [ho, ← hav]; exact hz, by simp⟩)
  clear hav
  have HS0 := toHid (Srch.start F a)
  go_enter Tryz.func90, Tryz.ntmps90
  go_wp2_with fail
  go_loopw [6] (fun s W => ∃ (C O : List Lit) (va : Option Addr) (vc : Nat), s = .slice va O.length vc ∧ Hid (RsI w C O s W) ∧ Hid (Srch F a C O fun _ _ => False)) (fun s W => 2 * (T.length - setSize W w.heap.size) + lenOf s)
  case atStart => exact ⟨[], [a], _, _, rfl, HR0, HS0⟩
  case round =>
    obtain ⟨C, O, va, vc, rfl, HR, HS⟩ := hrel
    clear HR0 HS0
    have hCT : C.length ≤ T.length := nodup_le HS.out.nd fun x hx => by
      have := HS.out.sound x hx
      cases this with
      | one e => exact HT.out _ _ e
      | more _ e => exact HT.out _ _ e
    rcases List.eq_nil_or_concat O with rfl | ⟨O, x, rfl⟩
    · go_wp2
      go_ret
      exact ⟨w.heap.size, C, rfl, HR.out.low, Nat.le_refl _, HR.out.set, HS.out.nd, HS.out.done, by omega⟩
    · have hlen : (O.concat x).length = O.length + 1 := by simp
      rw [List.concat_eq_append] at HR HS hlen
      rw [List.concat_eq_append]
      rw [hlen] at HR ⊢
      have hrow := HR.out.row
      rw [hlen, List.map_append] at hrow
      obtain ⟨g, hvg, hrow1, hc, hcap⟩ := own_last hrow
      subst hvg
      have hkx := HR.out.key x (by simp)
      obtain ⟨zx, hxv, -⟩ := shapeI hkx
      have HR1 := toHid (show RsI w C O (.slice (some ⟨g, 0, none⟩) O.length vc) wr from ⟨HR.out.low, HR.out.set, hrow1, fun o ho => HR.out.key o (by simp [ho]), by have := HR.out.few; rw [hlen] at this; omega⟩)
      have HX := toHid HS.out.at
      have HL1 := toHid (HL.out.below HR.out.low)
      have h1 := HL1.out.map.look lawI Tryz.underlying152 zero64 hkx
      rw [hxv] at h1 hc
      have hp1 : (O.length : Int) < (O.length : Int) + 1 := by omega
      have hp2 : 0 ≤ (O.length : Int) := by omega
      have hp3 : (O.length : Int) ≤ (vc : Int) := by omega
      have hOl : O.length ≤ 100000 := by have := HR1.out.few; have := HR.out.few; rw [hlen] at this; omega
      clear hrow hrow1
      cases hf : f x with
      | none =>
        rw [hf] at h1
        have hrg := run_range_nilMap (P := Tryz.prog) wr 157 3 133 Tryz.underlying157
        have hnx : ∀ ty, (Instr.next (.pointer (some ⟨wr.heap.size, 0, none⟩)) false ty).run Tryz.prog (wr.alloc (.mapIter none 0 #[] 0)) = _ := fun ty => run_next_nilMap _ ty 0 0 #[]
        have HS1 := toHid (HS.out.pop (g := fun _ => false) fun y e => by rw [HL.out.no x hf y] at e; cases e)
        have HR2 := toHid (HR1.out.new (World.grownBy_alloc wr (.mapIter none 0 #[] 0) none))
        go_wp2
        refine wp_loop_rounds 1 ?_
        rw [rounds_succ]
        go_wp2
        go_roundw
        case rel => exact ⟨C, O, _, _, rfl, HR2, toHid (HS1.out.rest fun _ => rfl)⟩
        case measure => rw [HR2.out.set.size, HR1.out.set.size]; simp only [lenOf]; omega
      | some b =>
        rw [hf] at h1
        obtain ⟨hsb, _⟩ := HL1.out.set x b hf
        obtain ⟨w1, cnt, hrg, hR, _, hg1, hs1'⟩ := hsb.range lawI Tryz.underlying157
        have hbl : b < w.heap.size := (HL.out.set x b hf).1.lt
        have HR2 := toHid (HR1.out.new hg1)
        have HS1 := toHid (HS.out.pop (g := F x) fun y e => e)
        have HRg := toHid hR
        have hws := HR1.out.low.size
        clear hR hsb hs1' hg1
        go_wp2
        go_loopw [6] (fun s W => ∃ (C' O' : List Lit) (va' : Option Addr) (vc' : Nat) (left : Lit → Bool) (cnt : Nat), s = .slice va' O'.length vc' ∧ Hid (RsI w C' O' s W) ∧ Hid (Srch F a C' O' fun x' z => x' = x ∧ left z = true) ∧ Hid (RngF Tryz.prog 3 W b wr.heap.size N (F x) left cnt) ∧ Hid (2 * (T.length - C'.length) + O'.length ≤ 2 * (T.length - C.length) + O.length)) (fun _ W => W.rangeLeft b wr.heap.size)
        case atStart => exact ⟨C, O, _, _, _, cnt, rfl, HR2, HS1, HRg, toHid (Nat.le_refl _)⟩
        case round =>
          obtain ⟨C', O', va', vc', left, cnt', rfl, HR3, HS3, HRg3, HM3⟩ := hrel
          rename_i W3 _
          go_wp2_with (first
            | (at_next; refine wpList_next_set _ rfl _ rfl lawI rfl HRg3.out ?_ ?_)
            | fail)
          · intro hc0 hl0
            go_wp2
            go_roundw
            case rel => exact ⟨C', O', _, _, rfl, HR3, toHid (HS3.out.rest hl0)⟩
            case measure => rw [HR3.out.set.size, HR1.out.set.size]; have := HM3.out; simp only [lenOf]; omega
          · intro key kl w4 cnt4 hk hlk hgk hrg4 hlt4 hg4 hs4 hen
            obtain ⟨zk, rfl, -⟩ := shapeI hk
            have HRg4 := toHid hrg4
            have HR4 := toHid (HR3.out.grow hg4 (.inl HRg3.out.iter) hws)
            clear hrg4 hg4
            by_cases hin : kl ∈ C'
            · have HS4 := toHid (HS3.out.skip hin)
              go_wp2_with (first
                | (go_at_call 91; refine (hasI HR4.out.set.set hk).mono ?_; rintro e w5 ⟨rfl, hb5⟩; rw [decide_eq_true hin])
                | fail)
              have HRg5 := toHid (HRg4.out.at (hb5.block _ HRg4.out.set.lt) (hb5.block _ HRg4.out.lt))
              have HR5 := toHid (HR4.out.below hb5)
              go_roundw
              case rel => exact ⟨C', O', _, _, _, cnt4, rfl, HR5, HS4, HRg5, HM3⟩
              case measure => rw [HRg5.out.left_eq, HRg3.out.left_eq]; exact hlt4
            · have hCT' : (C' ++ [kl]).length ≤ T.length := nodup_le (HS3.out.push HX.out hin hgk).nd fun y hy => by
                have := (HS3.out.push HX.out hin hgk).sound y hy
                cases this with
                | one e => exact HT.out _ _ e
                | more _ e => exact HT.out _ _ e
              have HS4 := toHid (HS3.out.push HX.out hin hgk)
              go_wp2_with (first
                | (go_at_call 91; refine (hasI HR4.out.set.set hk).mono ?_; rintro e w5 ⟨rfl, hb5⟩; rw [decide_eq_false hin]; have HRg5 := toHid (HRg4.out.at (hb5.block _ HRg4.out.set.lt) (hb5.block _ HRg4.out.lt)); have HR5 := toHid (HR4.out.below hb5); obtain ⟨w6, hup, hst, hmt⟩ := HR5.out.set.store lawI Tryz.underlying157 (by have := hCT'; simp at this; unfold maxLen; omega) hk hin; have HR6 := toHid ((HR5.out.put hst hmt).new (World.grownBy_alloc w6 (.cells #[(.int .i64 zk)] 3) none)); have HRg6 := toHid ((HRg5.out.at (hmt.grown.block _ HRg5.out.set.lt (fun e => by have := Option.some.inj e; omega)) (hmt.grown.block _ HRg5.out.lt (fun e => by
                      have e := Option.some.inj e
                      obtain ⟨_, _, _, _, h3⟩ := HRg5.out.iter
                      obtain ⟨es, c', h4⟩ := HR5.out.set.set.blk
                      rw [e, h4] at h3
                      cases h3))).at (heap_alloc_old (o := .cells #[(.int .i64 zk)] 3) (by have := hmt.grown.size; have := HRg5.out.set.lt; omega)) (heap_alloc_old (by have := hmt.grown.size; have := HRg5.out.lt; omega))))
                | (at_builtin; refine wpList_append_own _ rfl _ _ 44 rfl w.heap.size 3 i0 _ 1 8 Tryz.underlying44 hi0 hz0 hz1 hz2 rfl (by decide) _ O'.length _ rfl HR6.out.row ⟨w6.heap.size, 0, none⟩ 1 1 [(.int .i64 zk)] rfl rfl (cell_one w6 _ _) (by intro u hu; simp at hu; subst hu; rfl) (by have := HR6.out.few; have := hCT'; unfold maxLen; omega) (by have := HR6.out.few; have := hCT'; omega) HR6.out.low.size ?_; intro v7 w7 hown7 hgrow7 _)
                | fail)
              have HR7 := toHid (HR6.out.push hgrow7 (by rw [← valI hk]; exact hown7) (by rw [← valI hk]; exact hk) (by have := HR5.out.few; simp; omega))
              have HRg7 := toHid (HRg6.out.row HR6.out.row hgrow7)
              obtain ⟨va7, vc7, hv7⟩ : ∃ a c, v7 = .slice a (O'.length + 1) c := by
                rcases hown7.2 with ⟨_, h0⟩ | ⟨g, cap, cur, rfl, _⟩
                · cases h0
                · exact ⟨_, _, rfl⟩
              subst hv7
              go_roundw
              case rel => exact ⟨C' ++ [kl], O' ++ [kl], va7, vc7, _, cnt4, by simp, HR7, HS4, HRg7, toHid (by have := HM3.out; have := hCT'; simp at *; omega)⟩
              case measure => rw [HRg7.out.left_eq, HRg3.out.left_eq]; exact hlt4

end Go.Proofs.YtclppfljengnbaaGreat.Gr
