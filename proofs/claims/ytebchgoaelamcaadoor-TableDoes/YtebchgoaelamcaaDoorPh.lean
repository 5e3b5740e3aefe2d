/-
  A slot more behind all.
-/
import Derived.Test.YtebchgoaelamcaaDoorPg
namespace Go.Proofs.YtebchgoaelamcaaDoor
open Go.RowKit
set_option maxRecDepth 100000

theorem Touch.setP {w w1 : World} {p : Nat} {o : Option Nat} (h : Touch p o w w1) (i : Nat) (u : Value) : Touch p o w (w1.setCell ⟨p, i, none⟩ u) := Touch.setCell h (.inl rfl) u

theorem cell_three_new (w : World) (a b c : Value) (t : TypeId) : ∀ j u, [a, b, c][j]? = some u → ((w.alloc (.cells #[a, b, c] t)).drew).cell? ((⟨w.heap.size, 0, none⟩ : Addr).add j) = some u := by
  intro j u hu
  rw [addr_add]
  have hk : (w.alloc (.cells #[a, b, c] t)).drew.heap[w.heap.size]? = some (.cells #[a, b, c] t) := heap_alloc_new w _
  obtain ⟨q0, q1, q2, _⟩ := cell3 hk
  match j, hu with
  | 0, hu => simp at hu; rw [← hu]; exact q0
  | 1, hu => simp at hu; rw [← hu]; exact q1
  | 2, hu => simp at hu; rw [← hu]; exact q2
  | j + 3, hu => simp at hu

/-- Behind an append that was stored back. -/
theorem PgOk.grow {w W w1 : World} {B p : Nat} {id : Int} {lsn : Nat} {v v' : Value} {l : List Cl} {c : Cl} (h : PgOk w B p id lsn v l) (hb : Below w.heap.size w W) (hg : W.grownBy w1 v.ownBlock)
    (ho : w1.ownsRow B 55 3 v' (l.length + 1) (cellsV l ++ [.bool c.used, .string (txt c.key), .string (txt c.val)])) :
    w1.heap[p]? = some (.cells #[.int .i64 id, .int .u64 (lsn : Int), v] 88) ∧ PgOk (w1.setCell ⟨p, 2, none⟩ v') B p id lsn v' (l ++ [c]) := by
  have hlt := lt_of_blk h.blk
  have hbp : w1.heap[p]? = some (.cells #[.int .i64 id, .int .u64 (lsn : Int), v] 88 (0, 0)) := by
    rw [hg.block p (by have := hb.size; omega) (fun e => h.ne e.symm), hb.block p hlt]
    exact h.blk
  have hne : v'.ownBlock ≠ some p := by
    intro hp
    rcases ho.2 with ⟨rfl, _⟩ | ⟨g, cap, cur, rfl, _, hh, _⟩
    · simp [Value.ownBlock] at hp
    · simp [Value.ownBlock] at hp
      subst hp
      rw [hbp] at hh
      simp at hh
  refine ⟨hbp, heap_setCell_same _ _ _ _ _ _ hbp, ?_, hne, h.base⟩
  rw [List.length_append, cellsV_append]
  exact ownsRow_setCell_other ho (a := ⟨p, 2, none⟩) hne v'

set_option maxRecDepth 20000 in
set_option maxHeartbeats 1000000 in
theorem add_any (B p : Nat) (id : Int) (lsn : Nat) (v : Value) (l : List Cl) (c : Cl) (w : World) (h : PgOk w B p id lsn v l) (hg : GoodL l) (hc : c.key.length ≤ 16 ∧ c.val.length ≤ 32) :
    Calls Tryd.prog 62 #[.pointer (some ⟨p, 0, none⟩), .agg (cellV c)] w fun e w' => e = .returned (.int .i64 (addL l c).2) ∧ ∃ v', PgOk w' B p id lsn v' (addL l c).1 ∧ Touch p v.ownBlock w w' ∧ Fresh w v v' := by
  obtain ⟨i0, hi, hz0, hz1, hz2⟩ := info_parts Tryd.info55
  have hpz := lt_of_blk h.blk
  have h64 := hg.few
  have s1 : (sizeC c : Int) ≤ 1000 := by unfold sizeC; split <;> omega
  have hB0 : Below w.heap.size w (w.alloc (.cells #[.bool c.used, .string (txt c.key), .string (txt c.val)] 55)) := (Below.refl _ _).alloc (Nat.le_refl _) _
  have h0 := h.below hB0 (Nat.le_refl _)
  obtain ⟨a, cap, rfl⟩ := ownsRow_shape h.own
  obtain ⟨p0, p1, p2, f0, f1, f2, hz⟩ := h0.cells
  have HP := (show Hid _ from h)
  have HG := (show Hid _ from hg)
  have HB0 := (show Hid _ from hB0)
  clear h0 h hg hB0
  simp only [cellV]
  by_cases hm : l.length = 64
  · have HE : Hid (addL l c = (l, 7)) := by show _ = _; unfold addL; rw [if_pos (.inl hm)]
    go_enter Tryd.func62, Tryd.ntmps62
    go_wp2
    go_ret
    rw [HE.out]
    exact ⟨rfl, _, HP.out.below HB0.out (Nat.le_refl _), Touch.of HB0.out, Fresh.refl _ _⟩
  · have hm' : ((l.length : Int) == 64) = false := by simp; omega
    go_enter Tryd.func62, Tryd.ntmps62
    go_wp2_with fail
    refine Calls.mono (cellSize_any c _ (by omega)) ?_
    rintro e w1 ⟨rfl, hb1⟩
    have HB1 := (show Hid _ from below_on HB0.out hb1)
    have hk1 := (show Hid _ from box_in hb1)
    clear hb1 p0 p1 p2 f0 f1 f2 hz
    obtain ⟨p0, p1, p2, f0, f1, f2, hz⟩ := (HP.out.below HB1.out (Nat.le_refl _)).cells
    go_wp2_with fail
    refine Calls.mono (free_any B p id lsn _ l _ (HP.out.below HB1.out (Nat.le_refl _)) HG.out) ?_
    rintro e w2 ⟨rfl, hb2⟩
    have HB2 := (show Hid _ from below_on HB1.out hb2)
    have hk2 := box_in' hk1.out hb2
    clear hb2 p0 p1 p2 f0 f1 f2 hz hk1
    have HP2 := (show Hid _ from HP.out.below HB2.out (Nat.le_refl _))
    obtain ⟨p0, p1, p2, f0, f1, f2, hz⟩ := HP2.out.cells
    obtain ⟨q0, q1, q2, g0, g1, g2, hzz⟩ := cell3 hk2
    clear hk2
    have hwr : IntKind.i64.wrap (4 + (sizeC c : Int)) = 4 + (sizeC c : Int) := by simp [IntKind.wrap, IntKind.bits, IntKind.signed]; omega
    by_cases hgt : freeL l < 4 + (sizeC c : Int)
    · have HE : Hid (addL l c = (l, 7)) := by show _ = _; unfold addL; rw [if_pos (.inr hgt)]
      go_wp2
      go_ret
      rw [HE.out]
      exact ⟨rfl, _, HP2.out, Touch.of HB2.out, Fresh.refl _ _⟩
    · have HE : Hid (addL l c = (l ++ [c], 0)) := by show _ = _; unfold addL; rw [if_neg (by omega)]
      go_wp2_with fail
      go_region_law (refine step_append_fresh rfl (.tmp 23) (.tmp 25) 37 rfl B 55 i0 _ 3 40 Tryd.underlying37 hi hz0 hz1 hz2 rfl (by decide) _ _ _ rfl (HP2.out.own.alloc _).drew ⟨w2.heap.size, 0, none⟩ 1 1 [_, _, _] rfl rfl (cell_three_new _ _ _ _ _) (by intro u hu; simp at hu; rcases hu with rfl | rfl | rfl <;> rfl) (by unfold maxLen; omega) (by omega) (by have := HP2.out.base; simp; omega) ?_; intro v' w3 hown' hgrow hfr; obtain ⟨ay, cy, rfl⟩ := ownsRow_shape hown'; have hG := HP2.out.grow ((Below.refl _ _).alloc (Nat.le_refl _) _).drew hgrow hown'; obtain ⟨r0, r1, r2, s0, s1, s2, hzr⟩ := cell3 hG.1)
      all_goals
        go_wp2
        go_ret
        rw [HE.out]
        refine ⟨rfl, _, hG.2, ?_, ?_⟩
        · refine Touch.setP (Touch.grown (Touch.of ?_) hgrow) _ _
          exact (HB2.out.alloc HB2.out.size _).drew
        · intro k hk
          rcases hfr k hk with e | e
          · exact .inl e
          · refine .inr ?_
            have := HB2.out.size
            have e' : w2.heap.size + 1 ≤ k := by simpa using e
            omega

theorem mayK_small {k v : List UInt8} (h : mayK k v = true) : k.length ≤ 16 ∧ v.length ≤ 32 := by
  simp [mayK] at h
  omega

set_option maxRecDepth 20000 in
set_option maxHeartbeats 1000000 in
theorem insert_any (B p : Nat) (id : Int) (lsn : Nat) (v : Value) (l : List Cl) (k x : List UInt8) (w : World) (h : PgOk w B p id lsn v l) (hg : GoodL l) (hk : k.length ≤ maxLen) (hx : x.length ≤ maxLen) :
    Calls Tryd.prog 31 #[.pointer (some ⟨p, 0, none⟩), .string (txt k), .string (txt x)] w fun e w' => e = .returned (.int .i64 (insL l k x).2) ∧ ∃ v', PgOk w' B p id lsn v' (insL l k x).1 ∧ Touch p v.ownBlock w w' ∧ Fresh w v v' := by
  have h64 := hg.few
  have HP := (show Hid _ from h)
  have HG := (show Hid _ from hg)
  have hsh := ownsRow_shape h.own
  obtain ⟨a, cap, rfl⟩ := hsh
  obtain ⟨p0, p1, p2, f0, f1, f2, hz⟩ := h.cells
  have HS := (show Hid _ from (slC_of_own h.own).1)
  clear h hg
  cases hm : mayK k x
  · have hma := may_any k x w hk hx
    rw [hm] at hma
    have HE : Hid (insL l k x = (l, 1)) := by show _ = _; unfold insL; rw [hm]; rfl
    clear hm
    go_enter Tryd.func31, Tryd.ntmps31
    go_wp2_with fail
    refine Calls.mono hma ?_
    rintro e w1 ⟨rfl, hw1⟩
    obtain rfl := hw1.symm
    go_wp2
    go_ret
    rw [HE.out]
    exact ⟨rfl, _, HP.out, Touch.refl _ _ _, Fresh.refl _ _⟩
  · have hma := may_any k x w hk hx
    rw [hm] at hma
    have hks := mayK_small hm
    have HM := (show Hid _ from hm)
    clear hm
    go_enter Tryd.func31, Tryd.ntmps31
    go_wp2_with fail
    refine Calls.mono hma ?_
    rintro e w1 ⟨rfl, hw1⟩
    obtain rfl := hw1.symm
    go_wp2_with fail
    refine Calls.mono (find_any k a cap l _ HS.out (by omega)) ?_
    rintro e w1 ⟨rfl, hb1⟩
    have HB1 := (show Hid _ from hb1)
    clear hb1 p0 p1 p2 f0 f1 f2 hz hma
    cases hf : l.findIdx? (isKey k) with
    | some j =>
      have HE : Hid (insL l k x = (l, 9)) := by show _ = _; unfold insL; rw [HM.out, hf]; rfl
      simp only [ixI]
      go_wp2
      go_ret
      rw [HE.out]
      exact ⟨rfl, _, HP.out.below HB1.out (Nat.le_refl _), Touch.of HB1.out, Fresh.refl _ _⟩
    | none =>
      simp only [ixI]
      go_wp2_with fail
      refine Calls.mono (kept_any k x _ (by omega) (by omega)) ?_
      rintro e w2 ⟨rfl, hb2⟩
      have HB2 := (show Hid _ from below_on HB1.out hb2)
      have HB3 := (show Hid _ from HB2.out.alloc HB2.out.size (.cells #[.bool true, .string (txt k), .string (txt x)] 55))
      have HP3 := (show Hid _ from HP.out.below HB3.out (Nat.le_refl _))
      obtain ⟨p0, p1, p2, f0, f1, f2, hz⟩ := HP3.out.cells
      clear hb2
      simp only [cellV, cellOfKV]
      go_wp2_with fail
      refine Calls.mono (firstFree_any a cap l _ (HS.out.below HB3.out) (by omega)) ?_
      rintro e w3 ⟨rfl, hb3⟩
      have HB4 := (show Hid _ from below_on HB3.out hb3)
      have hk3 := box_in hb3
      obtain ⟨q0, q1, q2, g0, g1, g2, hzz⟩ := cell3 hk3
      have HP4 := (show Hid _ from HP.out.below HB4.out (Nat.le_refl _))
      clear hb3 hk3 p0 p1 p2 f0 f1 f2 hz
      obtain ⟨p0, p1, p2, f0, f1, f2, hz⟩ := HP4.out.cells
      cases hff : l.findIdx? isFree with
      | some i =>
        have HE : Hid (insL l k x = fillL l i (cellOfKV k x)) := by show _ = _; unfold insL; rw [HM.out, hf, hff]; rfl
        obtain ⟨hi, _⟩ := find_some hff
        simp only [ixI]
        go_wp2_with fail
        refine Calls.mono (fill_any B p id lsn _ l i (cellOfKV k x) _ HP4.out HG.out hi hks) ?_
        rintro e w4 ⟨rfl, hp4, ht4⟩
        go_wp2
        go_ret
        rw [HE.out]
        exact ⟨rfl, _, hp4, (Touch.of HB4.out).trans ht4, Fresh.refl _ _⟩
      | none =>
        have HE : Hid (insL l k x = addL l (cellOfKV k x)) := by show _ = _; unfold insL; rw [HM.out, hf, hff]; rfl
        simp only [ixI]
        go_wp2_with fail
        refine Calls.mono (add_any B p id lsn _ l (cellOfKV k x) _ HP4.out HG.out hks) ?_
        rintro e w4 ⟨rfl, v4, hp4, ht4, hf4⟩
        go_wp2
        go_ret
        rw [HE.out]
        refine ⟨rfl, _, hp4, (Touch.of HB4.out).trans ht4, fun j hj => ?_⟩
        rcases hf4 j hj with e | e
        · exact .inl e
        · exact .inr (Nat.le_trans HB4.out.size e)

end Go.Proofs.YtebchgoaelamcaaDoor
