/-
  Texts put together: Pg Ph Pi Aa Ab Ac.
-/
import Derived.Test.YtebchgoaelamcaaDoorX2
import Derived.Deep.RegionHeld3
import Derived.Deep.DeepCutAuto
import Derived.Laws.ResultCell
import Derived.MapKept
import Derived.Carry
namespace Go.Proofs.YtebchgoaelamcaaDoor
open Go.RowKit
set_option maxRecDepth 100000

theorem Tryd.mixed : Tryd.prog.follows .mixedOrders = true := by kernel_rfl

theorem PgOk.drew {w : World} {B p : Nat} {id : Int} {lsn : Nat} {v : Value} {l : List Cl} (h : PgOk w B p id lsn v l) : PgOk w.drew B p id lsn v l := ⟨h.blk, h.own, h.ne, h.base⟩
theorem Touch.drew {w w1 : World} {p : Nat} {o : Option Nat} (h : Touch p o w w1) : Touch p o w w1.drew := ⟨h.os, h.tape, h.output, h.size, h.block⟩

theorem own_some {w : World} {B : Nat} {v : Value} {l : List Cl} (h : w.ownsRow B 55 3 v l.length (cellsV l)) (hl : 0 < l.length) : ∃ g cap, v = .slice (some ⟨g, 0, none⟩) l.length cap ∧ l.length ≤ cap := by
  rcases h.2 with ⟨_, h2⟩ | ⟨g, cap, cur, h1, _, _, hc, _⟩
  · omega
  · exact ⟨g, cap, h1, hc⟩

theorem row_free {w : World} {B g n cap : Nat} {e : TypeId} {size : Nat} {xs : List Value} (h : w.ownsRow B e size (.slice (some ⟨g, 0, none⟩) n cap) n xs) (k : Nat) : w.frozen? ⟨g, k, none⟩ = false := by
  rcases h.2 with ⟨h1, _⟩ | ⟨g', cap', cur, h1, hB, hh, hc, hm, hs, ht⟩
  · simp at h1
  · simp at h1
    obtain ⟨rfl, rfl⟩ := h1
    simp [World.frozen?, hh]

/-- Behind a slot that was written. -/
theorem PgOk.put {w : World} {B p g cap : Nat} {id : Int} {lsn : Nat} {l : List Cl} (h : PgOk w B p id lsn (.slice (some ⟨g, 0, none⟩) l.length cap) l) (i : Nat) (hi : i < l.length) (c : Cl) :
    PgOk (((w.setCell ⟨g, i * 3, none⟩ (.bool c.used)).setCell ⟨g, i * 3 + 1, none⟩ (.string (txt c.key))).setCell ⟨g, i * 3 + 2, none⟩ (.string (txt c.val))) B p id lsn (.slice (some ⟨g, 0, none⟩) l.length cap) (l.set i c) := by
  have hne : p ≠ g := fun e => h.ne (by rw [e]; rfl)
  refine ⟨?_, ?_, h.ne, h.base⟩
  · rw [heap_setCell_other _ _ _ _ hne, heap_setCell_other _ _ _ _ hne, heap_setCell_other _ _ _ _ hne]
    exact h.blk
  · rw [cellsV_set l i c hi, List.length_set]
    exact own_set (own_set (own_set h.own _ _) _ _) _ _

set_option maxHeartbeats 400000 in
set_option maxRecDepth 20000 in
theorem fill_any (B p : Nat) (id : Int) (lsn : Nat) (v : Value) (l : List Cl) (i : Nat) (c : Cl) (w : World) (h : PgOk w B p id lsn v l) (hg : GoodL l) (hi : i < l.length) (hc : c.key.length ≤ 16 ∧ c.val.length ≤ 32) :
    Calls Tryd.prog 61 #[.pointer (some ⟨p, 0, none⟩), .int .i64 i, .agg (cellV c)] w fun e w' => e = .returned (.int .i64 (fillL l i c).2) ∧ PgOk w' B p id lsn v (fillL l i c).1 ∧ Touch p v.ownBlock w w' := by
  obtain ⟨g, cap, rfl, hcap⟩ := own_some h.own (by omega)
  have hpz := lt_of_blk h.blk
  have hgz : g < w.heap.size := ownsRow_lt h.own g rfl
  have hsz := hg.small l[i] (List.getElem_mem hi)
  have HT : Hid (∀ W, Below (w.heap.size + 1) (w.alloc (.cells #[.bool c.used, .string (txt c.key), .string (txt c.val)] 55)) W →
      W.cell? ⟨w.heap.size, 0, none⟩ = some (.bool c.used) ∧ W.cell? ⟨w.heap.size, 1, none⟩ = some (.string (txt c.key)) ∧ W.cell? ⟨w.heap.size, 2, none⟩ = some (.string (txt c.val)) ∧
      W.cell? ⟨p, 2, none⟩ = some (.slice (some ⟨g, 0, none⟩) l.length cap) ∧
      W.cell? ⟨g, i * 3, none⟩ = some (.bool l[i].used) ∧ W.cell? ⟨g, i * 3 + 1, none⟩ = some (.string (txt l[i].key)) ∧ W.cell? ⟨g, i * 3 + 2, none⟩ = some (.string (txt l[i].val)) ∧
      Below (w.heap.size + 1) (w.alloc (.cells #[.bool c.used, .string (txt c.key), .string (txt c.val)] 55)) W) := fun W hW => by
    have hB : Below w.heap.size w W := ((Below.refl _ _).alloc (Nat.le_refl _) _).trans (hW.mono (by omega))
    have hk := box_in (show Below (w.alloc (.cells #[.bool c.used, .string (txt c.key), .string (txt c.val)] 55)).heap.size _ W by simpa using hW)
    obtain ⟨q0, q1, q2, _⟩ := cell3 hk
    have h' := h.below hB (Nat.le_refl _)
    obtain ⟨_, _, p2, _⟩ := h'.cells
    obtain ⟨_, c0, c1, c2⟩ := (slC_of_own h'.own).1.here i hi
    exact ⟨q0, q1, q2, p2, by simpa using c0, by simpa using c1, by simpa using c2, hW⟩
  have HC : Hid (∀ W, Below (w.heap.size + 1) (w.alloc (.cells #[.bool c.used, .string (txt c.key), .string (txt c.val)] 55)) W → Calls Tryd.prog 39 #[.agg #[.bool c.used, .string (txt c.key), .string (txt c.val)]] W fun e w' => e = .returned (.int .i64 (sizeC c : Nat)) ∧ Below (w.heap.size + 1) (w.alloc (.cells #[.bool c.used, .string (txt c.key), .string (txt c.val)] 55)) w') := fun W hW =>
    (cellSize_any c W (by omega)).mono fun e w' ⟨e1, e2⟩ => ⟨e1, hW.trans (e2.mono (by have := hW.size; simpa using this))⟩
  have HD : Hid (∀ W, Below (w.heap.size + 1) (w.alloc (.cells #[.bool c.used, .string (txt c.key), .string (txt c.val)] 55)) W → Calls Tryd.prog 39 #[.agg #[.bool l[i].used, .string (txt l[i].key), .string (txt l[i].val)]] W fun e w' => e = .returned (.int .i64 (sizeC l[i] : Nat)) ∧ Below (w.heap.size + 1) (w.alloc (.cells #[.bool c.used, .string (txt c.key), .string (txt c.val)] 55)) w') := fun W hW =>
    (cellSize_any l[i] W (by omega)).mono fun e w' ⟨e1, e2⟩ => ⟨e1, hW.trans (e2.mono (by have := hW.size; simpa using this))⟩
  have HF : Hid (∀ W, Below (w.heap.size + 1) (w.alloc (.cells #[.bool c.used, .string (txt c.key), .string (txt c.val)] 55)) W → Calls Tryd.prog 80 #[.pointer (some ⟨p, 0, none⟩)] W fun e w' => e = .returned (.int .i64 (freeL l)) ∧ Below (w.heap.size + 1) (w.alloc (.cells #[.bool c.used, .string (txt c.key), .string (txt c.val)] 55)) w') := fun W hW =>
    (free_any B p id lsn _ l W (h.below (((Below.refl _ _).alloc (Nat.le_refl _) _).trans (hW.mono (by omega))) (Nat.le_refl _)) hg).mono fun e w' ⟨e1, e2⟩ => ⟨e1, hW.trans (e2.mono (by have := hW.size; simpa using this))⟩
  have HK0 : Hid (Below (w.heap.size + 1) (w.alloc (.cells #[.bool c.used, .string (txt c.key), .string (txt c.val)] 55)) (w.alloc (.cells #[.bool c.used, .string (txt c.key), .string (txt c.val)] 55))) := Below.refl _ _
  have HP := (show Hid _ from h)
  have s1 : (sizeC c : Int) ≤ 1000 := by unfold sizeC; split <;> omega
  have s2 : (sizeC l[i] : Int) ≤ 1000 := by unfold sizeC; split <;> omega
  have HR : Hid (fillL l i c = if (sizeC c : Int) - (sizeC l[i] : Int) > freeL l then (l, 7) else (l.set i c, 0)) := by
    show _ = _
    unfold fillL
    rw [List.getElem?_eq_getElem hi]
    rfl
  have hS0 := HT.out _ HK0.out.drew
  clear h
  simp only [cellV]
  go_enter Tryd.func61, Tryd.ntmps61
  go_wp2_with fail
  go_region_held3 (fun W => W.cell? ⟨w.heap.size, 0, none⟩ = some (.bool c.used) ∧ W.cell? ⟨w.heap.size, 1, none⟩ = some (.string (txt c.key)) ∧ W.cell? ⟨w.heap.size, 2, none⟩ = some (.string (txt c.val)) ∧
      W.cell? ⟨p, 2, none⟩ = some (.slice (some ⟨g, 0, none⟩) l.length cap) ∧
      W.cell? ⟨g, i * 3, none⟩ = some (.bool l[i].used) ∧ W.cell? ⟨g, i * 3 + 1, none⟩ = some (.string (txt l[i].key)) ∧ W.cell? ⟨g, i * 3 + 2, none⟩ = some (.string (txt l[i].val)) ∧
      Below (w.heap.size + 1) (w.alloc (.cells #[.bool c.used, .string (txt c.key), .string (txt c.val)] 55)) W) (first | with_reducible assumption | (with_reducible refine HT.out _ ?_; first | with_reducible assumption | exact HK0.out | exact Below.drew HK0.out)) (first | (go_at_call 39; (first | with_reducible refine (HC.out _ (by first | with_reducible assumption | exact HK0.out | exact Below.drew HK0.out | exact And.right (And.right (And.right (And.right (And.right (And.right (And.right (by with_reducible assumption))))))))).mono ?_ | with_reducible refine (HD.out _ (by first | with_reducible assumption | exact HK0.out | exact Below.drew HK0.out | exact And.right (And.right (And.right (And.right (And.right (And.right (And.right (by with_reducible assumption))))))))).mono ?_); rintro e wn ⟨rfl, hbn⟩) | (go_at_call 80; refine (HF.out _ (by first | with_reducible assumption | exact HK0.out | exact Below.drew HK0.out | exact And.right (And.right (And.right (And.right (And.right (And.right (And.right (by with_reducible assumption))))))))).mono ?_; rintro e wn ⟨rfl, hbn⟩))
  obtain ⟨q0, q1, q2, p2, c0, c1, c2, hBn⟩ := HT.out _ hbn
  have hB : Below w.heap.size w wn := ((Below.refl _ _).alloc (Nat.le_refl _) _).trans (hBn.mono (by omega))
  have hP := HP.out.below hB (Nat.le_refl _)
  have hgn : g < wn.heap.size := by have := hB.size; omega
  have hpn : p < wn.heap.size := by have := hB.size; omega
  have hwn : w.heap.size < wn.heap.size := by have := hBn.size; simp at this; omega
  have f0 := row_free hP.own (i * 3)
  have f1 := row_free hP.own (i * 3 + 1)
  have f2 := row_free hP.own (i * 3 + 2)
  have R := (show Hid _ from hP.put i hi c)
  have T0 : Touch p (Value.slice (some ⟨g, 0, none⟩) l.length cap).ownBlock w wn := Touch.of hB
  have HPn := (show Hid _ from hP)
  have HB := (show Hid _ from hB)
  have hwr : IntKind.i64.wrap ((sizeC c : Int) - (sizeC l[i] : Int)) = (sizeC c : Int) - (sizeC l[i] : Int) := by simp [IntKind.wrap, IntKind.bits, IntKind.signed]; omega
  clear hbn hBn hP hB hS0
  by_cases hgt : freeL l < (sizeC c : Int) - (sizeC l[i] : Int)
  · have e : fillL l i c = (l, 7) := by rw [HR.out, if_pos hgt]
    go_wp2
    go_ret
    rw [e]
    exact ⟨rfl, HPn.out, T0⟩
  · have e : fillL l i c = (l.set i c, 0) := by rw [HR.out, if_neg hgt]
    have HT0 := (show Hid _ from T0)
    have HE := (show Hid _ from e)
    clear e T0
    go_wp2_with fail
    refine wp_region_quiet_tail 6 Tryd.mixed (by kernel_rfl) ?_
    simp only [List.take_succ_cons, List.take_zero, List.drop_succ_cons, List.drop_zero]
    repeat (go_big_quiet_step (fail))
    refine wpQuiet_nil ?_
    go_wp2
    go_ret
    rw [HE.out]
    refine ⟨rfl, ?_, ?_⟩
    · exact R.out.drew
    · refine Touch.drew (Touch.setCell (Touch.setCell (Touch.setCell HT0.out ?_ _) ?_ _) ?_ _)
      · exact .inr rfl
      · exact .inr rfl
      · exact .inr rfl

end Go.Proofs.YtebchgoaelamcaaDoor

namespace Go.Proofs.YtebchgoaelamcaaDoor
open Go.RowKit
set_option maxRecDepth 100000

theorem Touch.setP {w w1 : World} {p : Nat} {o : Option Nat} (h : Touch p o w w1) (i : Nat) (u : Value) : Touch p o w (w1.setCell ⟨p, i, none⟩ u) := Touch.setCell h (.inl rfl) u

theorem cell_three_new (w : World) (a b c : Value) (t : TypeId) : ∀ j u, [a, b, c][j]? = some u → ((w.alloc (.cells #[a, b, c] t)).drew).cell? ((⟨w.heap.size, 0, none⟩ : Addr).add j) = some u := by
  intro j u hu
  rw [addr_add]
  have hk : (w.alloc (.cells #[a, b, c] t)).drew.heap[w.heap.size]? = some (.cells #[a, b, c] t) := heap_alloc_new w _
  obtain ⟨q0, q1, q2, _⟩ := cell3 hk
  match j, hu with
  | 0, hu => simp at hu; rw [← hu]; exact q0
  | 1, hu => simp at hu; rw [← hu]; exact q1
  | 2, hu => simp at hu; rw [← hu]; exact q2
  | j + 3, hu => simp at hu

/-- Behind an append that was stored back. -/
theorem PgOk.grow {w W w1 : World} {B p : Nat} {id : Int} {lsn : Nat} {v v' : Value} {l : List Cl} {c : Cl} (h : PgOk w B p id lsn v l) (hb : Below w.heap.size w W) (hg : W.grownBy w1 v.ownBlock)
    (ho : w1.ownsRow B 55 3 v' (l.length + 1) (cellsV l ++ [.bool c.used, .string (txt c.key), .string (txt c.val)])) :
    w1.heap[p]? = some (.cells #[.int .i64 id, .int .u64 (lsn : Int), v] 88) ∧ PgOk (w1.setCell ⟨p, 2, none⟩ v') B p id lsn v' (l ++ [c]) := by
  have hlt := lt_of_blk h.blk
  have hbp : w1.heap[p]? = some (.cells #[.int .i64 id, .int .u64 (lsn : Int), v] 88 (0, 0)) := by
    rw [hg.block p (by have := hb.size; omega) (fun e => h.ne e.symm), hb.block p hlt]
    exact h.blk
  have hne : v'.ownBlock ≠ some p := by
    intro hp
    rcases ho.2 with ⟨rfl, _⟩ | ⟨g, cap, cur, rfl, _, hh, _⟩
    · simp [Value.ownBlock] at hp
    · simp [Value.ownBlock] at hp
      subst hp
      rw [hbp] at hh
      simp at hh
  refine ⟨hbp, heap_setCell_same _ _ _ _ _ _ hbp, ?_, hne, h.base⟩
  rw [List.length_append, cellsV_append]
  exact ownsRow_setCell_other ho (a := ⟨p, 2, none⟩) hne v'

set_option maxRecDepth 20000 in
set_option maxHeartbeats 1000000 in
theorem add_any (B p : Nat) (id : Int) (lsn : Nat) (v : Value) (l : List Cl) (c : Cl) (w : World) (h : PgOk w B p id lsn v l) (hg : GoodL l) (hc : c.key.length ≤ 16 ∧ c.val.length ≤ 32) :
    Calls Tryd.prog 62 #[.pointer (some ⟨p, 0, none⟩), .agg (cellV c)] w fun e w' => e = .returned (.int .i64 (addL l c).2) ∧ ∃ v', PgOk w' B p id lsn v' (addL l c).1 ∧ Touch p v.ownBlock w w' ∧ Fresh w v v' := by
  obtain ⟨i0, hi, hz0, hz1, hz2⟩ := info_parts Tryd.info55
  have hpz := lt_of_blk h.blk
  have h64 := hg.few
  have s1 : (sizeC c : Int) ≤ 1000 := by unfold sizeC; split <;> omega
  have hB0 : Below w.heap.size w (w.alloc (.cells #[.bool c.used, .string (txt c.key), .string (txt c.val)] 55)) := (Below.refl _ _).alloc (Nat.le_refl _) _
  have h0 := h.below hB0 (Nat.le_refl _)
  obtain ⟨a, cap, rfl⟩ := ownsRow_shape h.own
  obtain ⟨p0, p1, p2, f0, f1, f2, hz⟩ := h0.cells
  have HP := (show Hid _ from h)
  have HG := (show Hid _ from hg)
  have HB0 := (show Hid _ from hB0)
  clear h0 h hg hB0
  simp only [cellV]
  by_cases hm : l.length = 64
  · have HE : Hid (addL l c = (l, 7)) := by show _ = _; unfold addL; rw [if_pos (.inl hm)]
    go_enter Tryd.func62, Tryd.ntmps62
    go_wp2
    go_ret
    rw [HE.out]
    exact ⟨rfl, _, HP.out.below HB0.out (Nat.le_refl _), Touch.of HB0.out, Fresh.refl _ _⟩
  · have hm' : ((l.length : Int) == 64) = false := by simp; omega
    go_enter Tryd.func62, Tryd.ntmps62
    go_wp2_with fail
    refine Calls.mono (cellSize_any c _ (by omega)) ?_
    rintro e w1 ⟨rfl, hb1⟩
    have HB1 := (show Hid _ from below_on HB0.out hb1)
    have hk1 := (show Hid _ from box_in hb1)
    clear hb1 p0 p1 p2 f0 f1 f2 hz
    obtain ⟨p0, p1, p2, f0, f1, f2, hz⟩ := (HP.out.below HB1.out (Nat.le_refl _)).cells
    go_wp2_with fail
    refine Calls.mono (free_any B p id lsn _ l _ (HP.out.below HB1.out (Nat.le_refl _)) HG.out) ?_
    rintro e w2 ⟨rfl, hb2⟩
    have HB2 := (show Hid _ from below_on HB1.out hb2)
    have hk2 := box_in' hk1.out hb2
    clear hb2 p0 p1 p2 f0 f1 f2 hz hk1
    have HP2 := (show Hid _ from HP.out.below HB2.out (Nat.le_refl _))
    obtain ⟨p0, p1, p2, f0, f1, f2, hz⟩ := HP2.out.cells
    obtain ⟨q0, q1, q2, g0, g1, g2, hzz⟩ := cell3 hk2
    clear hk2
    have hwr : IntKind.i64.wrap (4 + (sizeC c : Int)) = 4 + (sizeC c : Int) := by simp [IntKind.wrap, IntKind.bits, IntKind.signed]; omega
    by_cases hgt : freeL l < 4 + (sizeC c : Int)
    · have HE : Hid (addL l c = (l, 7)) := by show _ = _; unfold addL; rw [if_pos (.inr hgt)]
      go_wp2
      go_ret
      rw [HE.out]
      exact ⟨rfl, _, HP2.out, Touch.of HB2.out, Fresh.refl _ _⟩
    · have HE : Hid (addL l c = (l ++ [c], 0)) := by show _ = _; unfold addL; rw [if_neg (by omega)]
      go_wp2_with fail
      go_region_law (refine step_append_fresh rfl (.tmp 23) (.tmp 25) 37 rfl B 55 i0 _ 3 40 Tryd.underlying37 hi hz0 hz1 hz2 rfl (by decide) _ _ _ rfl (HP2.out.own.alloc _).drew ⟨w2.heap.size, 0, none⟩ 1 1 [_, _, _] rfl rfl (cell_three_new _ _ _ _ _) (by intro u hu; simp at hu; rcases hu with rfl | rfl | rfl <;> rfl) (by unfold maxLen; omega) (by omega) (by have := HP2.out.base; simp; omega) ?_; intro v' w3 hown' hgrow hfr; obtain ⟨ay, cy, rfl⟩ := ownsRow_shape hown'; have hG := HP2.out.grow ((Below.refl _ _).alloc (Nat.le_refl _) _).drew hgrow hown'; obtain ⟨r0, r1, r2, s0, s1, s2, hzr⟩ := cell3 hG.1)
      all_goals
        go_wp2
        go_ret
        rw [HE.out]
        refine ⟨rfl, _, hG.2, ?_, ?_⟩
        · refine Touch.setP (Touch.grown (Touch.of ?_) hgrow) _ _
          exact (HB2.out.alloc HB2.out.size _).drew
        · intro k hk
          rcases hfr k hk with e | e
          · exact .inl e
          · refine .inr ?_
            have := HB2.out.size
            have e' : w2.heap.size + 1 ≤ k := by simpa using e
            omega

theorem mayK_small {k v : List UInt8} (h : mayK k v = true) : k.length ≤ 16 ∧ v.length ≤ 32 := by
  simp [mayK] at h
  omega

set_option maxRecDepth 20000 in
set_option maxHeartbeats 1000000 in
theorem insert_any (B p : Nat) (id : Int) (lsn : Nat) (v : Value) (l : List Cl) (k x : List UInt8) (w : World) (h : PgOk w B p id lsn v l) (hg : GoodL l) (hk : k.length ≤ maxLen) (hx : x.length ≤ maxLen) :
    Calls Tryd.prog 31 #[.pointer (some ⟨p, 0, none⟩), .string (txt k), .string (txt x)] w fun e w' => e = .returned (.int .i64 (insL l k x).2) ∧ ∃ v', PgOk w' B p id lsn v' (insL l k x).1 ∧ Touch p v.ownBlock w w' ∧ Fresh w v v' := by
  have h64 := hg.few
  have HP := (show Hid _ from h)
  have HG := (show Hid _ from hg)
  have hsh := ownsRow_shape h.own
  obtain ⟨a, cap, rfl⟩ := hsh
  obtain ⟨p0, p1, p2, f0, f1, f2, hz⟩ := h.cells
  have HS := (show Hid _ from (slC_of_own h.own).1)
  clear h hg
  cases hm : mayK k x
  · have hma := may_any k x w hk hx
    rw [hm] at hma
    have HE : Hid (insL l k x = (l, 1)) := by show _ = _; unfold insL; rw [hm]; rfl
    clear hm
    go_enter Tryd.func31, Tryd.ntmps31
    go_wp2_with fail
    refine Calls.mono hma ?_
    rintro e w1 ⟨rfl, hw1⟩
    obtain rfl := hw1.symm
    go_wp2
    go_ret
    rw [HE.out]
    exact ⟨rfl, _, HP.out, Touch.refl _ _ _, Fresh.refl _ _⟩
  · have hma := may_any k x w hk hx
    rw [hm] at hma
    have hks := mayK_small hm
    have HM := (show Hid _ from hm)
    clear hm
    go_enter Tryd.func31, Tryd.ntmps31
    go_wp2_with fail
    refine Calls.mono hma ?_
    rintro e w1 ⟨rfl, hw1⟩
    obtain rfl := hw1.symm
    go_wp2_with fail
    refine Calls.mono (find_any k a cap l _ HS.out (by omega)) ?_
    rintro e w1 ⟨rfl, hb1⟩
    have HB1 := (show Hid _ from hb1)
    clear hb1 p0 p1 p2 f0 f1 f2 hz hma
    cases hf : l.findIdx? (isKey k) with
    | some j =>
      have HE : Hid (insL l k x = (l, 9)) := by show _ = _; unfold insL; rw [HM.out, hf]; rfl
      simp only [ixI]
      go_wp2
      go_ret
      rw [HE.out]
      exact ⟨rfl, _, HP.out.below HB1.out (Nat.le_refl _), Touch.of HB1.out, Fresh.refl _ _⟩
    | none =>
      simp only [ixI]
      go_wp2_with fail
      refine Calls.mono (kept_any k x _ (by omega) (by omega)) ?_
      rintro e w2 ⟨rfl, hb2⟩
      have HB2 := (show Hid _ from below_on HB1.out hb2)
      have HB3 := (show Hid _ from HB2.out.alloc HB2.out.size (.cells #[.bool true, .string (txt k), .string (txt x)] 55))
      have HP3 := (show Hid _ from HP.out.below HB3.out (Nat.le_refl _))
      obtain ⟨p0, p1, p2, f0, f1, f2, hz⟩ := HP3.out.cells
      clear hb2
      simp only [cellV, cellOfKV]
      go_wp2_with fail
      refine Calls.mono (firstFree_any a cap l _ (HS.out.below HB3.out) (by omega)) ?_
      rintro e w3 ⟨rfl, hb3⟩
      have HB4 := (show Hid _ from below_on HB3.out hb3)
      have hk3 := box_in hb3
      obtain ⟨q0, q1, q2, g0, g1, g2, hzz⟩ := cell3 hk3
      have HP4 := (show Hid _ from HP.out.below HB4.out (Nat.le_refl _))
      clear hb3 hk3 p0 p1 p2 f0 f1 f2 hz
      obtain ⟨p0, p1, p2, f0, f1, f2, hz⟩ := HP4.out.cells
      cases hff : l.findIdx? isFree with
      | some i =>
        have HE : Hid (insL l k x = fillL l i (cellOfKV k x)) := by show _ = _; unfold insL; rw [HM.out, hf, hff]; rfl
        obtain ⟨hi, _⟩ := find_some hff
        simp only [ixI]
        go_wp2_with fail
        refine Calls.mono (fill_any B p id lsn _ l i (cellOfKV k x) _ HP4.out HG.out hi hks) ?_
        rintro e w4 ⟨rfl, hp4, ht4⟩
        go_wp2
        go_ret
        rw [HE.out]
        exact ⟨rfl, _, hp4, (Touch.of HB4.out).trans ht4, Fresh.refl _ _⟩
      | none =>
        have HE : Hid (insL l k x = addL l (cellOfKV k x)) := by show _ = _; unfold insL; rw [HM.out, hf, hff]; rfl
        simp only [ixI]
        go_wp2_with fail
        refine Calls.mono (add_any B p id lsn _ l (cellOfKV k x) _ HP4.out HG.out hks) ?_
        rintro e w4 ⟨rfl, v4, hp4, ht4, hf4⟩
        go_wp2
        go_ret
        rw [HE.out]
        refine ⟨rfl, _, hp4, (Touch.of HB4.out).trans ht4, fun j hj => ?_⟩
        rcases hf4 j hj with e | e
        · exact .inl e
        · exact .inr (Nat.le_trans HB4.out.size e)

end Go.Proofs.YtebchgoaelamcaaDoor

namespace Go.Proofs.YtebchgoaelamcaaDoor
open Go.RowKit
set_option maxRecDepth 100000

set_option maxRecDepth 20000 in
set_option maxHeartbeats 1000000 in
theorem update_any (B p : Nat) (id : Int) (lsn : Nat) (v : Value) (l : List Cl) (k x : List UInt8) (w : World) (h : PgOk w B p id lsn v l) (hg : GoodL l) (hk : k.length ≤ maxLen) (hx : x.length ≤ maxLen) :
    Calls Tryd.prog 96 #[.pointer (some ⟨p, 0, none⟩), .string (txt k), .string (txt x)] w fun e w' => e = .returned (.int .i64 (updL l k x).2) ∧ PgOk w' B p id lsn v (updL l k x).1 ∧ Touch p v.ownBlock w w' := by
  have h64 := hg.few
  have HP := (show Hid _ from h)
  have HG := (show Hid _ from hg)
  have hsh := ownsRow_shape h.own
  obtain ⟨a, cap, rfl⟩ := hsh
  obtain ⟨p0, p1, p2, f0, f1, f2, hz⟩ := h.cells
  have HS := (show Hid _ from (slC_of_own h.own).1)
  clear h hg
  cases hm : mayK k x
  · have hma := may_any k x w hk hx
    rw [hm] at hma
    have HE : Hid (updL l k x = (l, 1)) := by show _ = _; unfold updL; rw [hm]; rfl
    clear hm
    go_enter Tryd.func96, Tryd.ntmps96
    go_wp2_with fail
    refine Calls.mono hma ?_
    rintro e w1 ⟨rfl, hw1⟩
    obtain rfl := hw1.symm
    go_wp2
    go_ret
    rw [HE.out]
    exact ⟨rfl, HP.out, Touch.refl _ _ _⟩
  · have hma := may_any k x w hk hx
    rw [hm] at hma
    have hks := mayK_small hm
    have HM := (show Hid _ from hm)
    clear hm
    go_enter Tryd.func96, Tryd.ntmps96
    go_wp2_with fail
    refine Calls.mono hma ?_
    rintro e w1 ⟨rfl, hw1⟩
    obtain rfl := hw1.symm
    go_wp2_with fail
    refine Calls.mono (find_any k a cap l _ HS.out (by omega)) ?_
    rintro e w1 ⟨rfl, hb1⟩
    have HB1 := (show Hid _ from hb1)
    clear hb1 p0 p1 p2 f0 f1 f2 hz hma
    cases hf : l.findIdx? (isKey k) with
    | none =>
      have HE : Hid (updL l k x = (l, 8)) := by show _ = _; unfold updL; rw [HM.out, hf]; rfl
      simp only [ixI]
      go_wp2
      go_ret
      rw [HE.out]
      exact ⟨rfl, HP.out.below HB1.out (Nat.le_refl _), Touch.of HB1.out⟩
    | some i =>
      have HE : Hid (updL l k x = fillL l i (cellOfKV k x)) := by show _ = _; unfold updL; rw [HM.out, hf]; rfl
      obtain ⟨hi, _⟩ := find_some hf
      simp only [ixI]
      go_wp2_with fail
      refine Calls.mono (kept_any k x _ (by omega) (by omega)) ?_
      rintro e w2 ⟨rfl, hb2⟩
      have HB2 := (show Hid _ from below_on HB1.out hb2)
      have HP2 := (show Hid _ from HP.out.below HB2.out (Nat.le_refl _))
      obtain ⟨p0, p1, p2, f0, f1, f2, hz⟩ := HP2.out.cells
      clear hb2
      go_wp2_with fail
      refine Calls.mono (fill_any B p id lsn _ l i (cellOfKV k x) _ HP2.out HG.out hi hks) ?_
      rintro e w4 ⟨rfl, hp4, ht4⟩
      go_wp2
      go_ret
      rw [HE.out]
      exact ⟨rfl, hp4, (Touch.of HB2.out).trans ht4⟩

/-- A row cut. -/
theorem own_cut {w : World} {B g cap : Nat} {l m : List Cl} (h : w.ownsRow B 55 3 (.slice (some ⟨g, 0, none⟩) l.length cap) l.length (cellsV l)) (hm : ∃ q, l = m ++ q) :
    w.ownsRow B 55 3 (.slice (some ⟨g, 0, none⟩) m.length cap) m.length (cellsV m) := by
  obtain ⟨q, rfl⟩ := hm
  rcases h.2 with ⟨h1, _⟩ | ⟨g', cap', cur, h1, hB, hh, hc, hm, hs, ht⟩
  · simp at h1
  · simp at h1
    obtain ⟨rfl, rfl⟩ := h1
    simp only [List.length_append] at hc ht
    refine ⟨cellsV_length m, .inr ⟨g, cap, cur, rfl, hB, hh, by omega, hm, hs, ?_⟩⟩
    have := congrArg (List.take (m.length * 3)) ht
    rw [List.take_take, cellsV_append, List.take_left' (cellsV_length m), Nat.min_eq_left (by omega)] at this
    exact this

set_option maxRecDepth 20000 in
set_option maxHeartbeats 1000000 in
theorem delete_any (B p : Nat) (id : Int) (lsn : Nat) (v : Value) (l : List Cl) (k : List UInt8) (w : World) (h : PgOk w B p id lsn v l) (hg : GoodL l) :
    Calls Tryd.prog 97 #[.pointer (some ⟨p, 0, none⟩), .string (txt k)] w fun e w' => e = .returned (.int .i64 (delL l k).2) ∧ ∃ v', PgOk w' B p id lsn v' (delL l k).1 ∧ Touch p v.ownBlock w w' ∧ v'.ownBlock = v.ownBlock := by
  have h64 := hg.few
  have HP := (show Hid _ from h)
  have hsh := ownsRow_shape h.own
  obtain ⟨a, cap, rfl⟩ := hsh
  obtain ⟨p0, p1, p2, f0, f1, f2, hz⟩ := h.cells
  have HS := (show Hid _ from (slC_of_own h.own).1)
  clear h hg
  go_enter Tryd.func97, Tryd.ntmps97
  go_wp2_with fail
  refine Calls.mono (find_any k a cap l _ HS.out (by omega)) ?_
  rintro e w1 ⟨rfl, hb1⟩
  have HB1 := (show Hid _ from hb1)
  have HP1 := (show Hid _ from HP.out.below hb1 (Nat.le_refl _))
  clear hb1 p0 p1 p2 f0 f1 f2 hz
  cases hf : l.findIdx? (isKey k) with
  | none =>
    have HE : Hid (delL l k = (l, 8)) := by show _ = _; unfold delL; rw [hf]
    simp only [ixI]
    go_wp2
    go_ret
    rw [HE.out]
    exact ⟨rfl, _, HP1.out, Touch.of HB1.out, rfl⟩
  | some i =>
    have HE : Hid (delL l k = (trimL (l.set i Cl.none), 0)) := by show _ = _; unfold delL; rw [hf]
    obtain ⟨hi, _⟩ := find_some hf
    have HF := (show Hid _ from hf)
    clear hf
    obtain ⟨g, cap', he, hcap⟩ := own_some HP1.out.own (by omega)
    simp only [Value.slice.injEq] at he
    obtain ⟨rfl, _, rfl⟩ := he
    obtain ⟨p0, p1, p2, f0, f1, f2, hz⟩ := HP1.out.cells
    obtain ⟨hgz, c0, c1, c2⟩ := (slC_of_own HP1.out.own).1.here i hi
    simp only [Nat.zero_add] at c0 c1 c2
    have e0 := row_free HP1.out.own (i * 3)
    have e1 := row_free HP1.out.own (i * 3 + 1)
    have e2 := row_free HP1.out.own (i * 3 + 2)
    have R : Hid (PgOk (((w1.setCell ⟨g, i * 3, none⟩ (.bool false)).setCell ⟨g, i * 3 + 1, none⟩ (.string ⟨#[]⟩)).setCell ⟨g, i * 3 + 2, none⟩ (.string ⟨#[]⟩)) B p id lsn (.slice (some ⟨g, 0, none⟩) l.length cap) (l.set i Cl.none)) := HP1.out.put i hi Cl.none
    have T : Hid (Touch p (some g) w (((w1.setCell ⟨g, i * 3, none⟩ (.bool false)).setCell ⟨g, i * 3 + 1, none⟩ (.string ⟨#[]⟩)).setCell ⟨g, i * 3 + 2, none⟩ (.string ⟨#[]⟩))) := by
      refine Touch.setCell (Touch.setCell (Touch.setCell (Touch.of HB1.out) ?_ _) ?_ _) ?_ _ <;> exact .inr rfl
    obtain ⟨r0, r1, r2, s0, s1, s2, rz⟩ := R.out.cells
    have hll : (l.set i Cl.none).length = l.length := List.length_set ..
    have hX := trimmed_any (some ⟨g, 0, none⟩) cap (l.set i Cl.none) _ (slC_of_own (by rw [hll]; exact (hll ▸ R.out.own))).1 (by omega) (by omega)
    rw [hll] at hX
    have HO := (show Hid _ from R.out.own)
    rw [← hll] at HO
    simp only [ixI]
    go_wp2_with fail
    refine Calls.mono hX ?_
    rintro e w2 ⟨rfl, hw2⟩
    subst hw2
    go_wp2
    go_ret
    rw [HE.out]
    refine ⟨rfl, .slice (some ⟨g, 0, none⟩) (trimL (l.set i Cl.none)).length cap, ?_, Touch.setP T.out _ _, rfl⟩
    have hcut := own_cut (m := trimL (l.set i Cl.none)) HO.out (by obtain ⟨q, hq, _⟩ := trimL_prefix (l.set i Cl.none); exact ⟨q, hq⟩)
    exact ⟨heap_setCell_same _ _ _ _ _ _ R.out.blk, ownsRow_setCell_other hcut (a := ⟨p, 2, none⟩) R.out.ne _, R.out.ne, R.out.base⟩

end Go.Proofs.YtebchgoaelamcaaDoor

namespace Go.Proofs.YtebchgoaelamcaaDoor
open Go.RowKit
set_option maxRecDepth 100000

/-- A change. -/
structure Ac where
  kind : Int
  key : List UInt8
  old : List UInt8
  new : List UInt8
deriving DecidableEq

/-- Whether a change may be. -/
def actB (ak : Int) (key old new : List UInt8) : Bool :=
  decide (0 < ak ∧ ak < 4) && (decide (old = [] ∨ ak ≠ 1) && (decide (new = [] ∨ ak ≠ 3) && (decide (1 ≤ key.length ∧ key.length ≤ 16) && decide (old.length ≤ 32 ∧ new.length ≤ 32))))
abbrev mayA (a : Ac) : Bool := actB a.kind a.key a.old a.new
/-- A change as cells, and as a value. -/
abbrev actC (a : Ac) : Array Value := #[.int .i64 a.kind, .string (txt a.key), .string (txt a.old), .string (txt a.new)]
abbrev actV (a : Ac) : Value := .agg (actC a)
def Ac.zero : Ac := ⟨0, [], [], []⟩
def turnK (k : Int) : Int := if k = 1 then 3 else if k = 3 then 1 else k
/-- Turned round. -/
def turnA (a : Ac) : Ac := if mayA a then ⟨turnK a.kind, a.key, a.new, a.old⟩ else Ac.zero

theorem turn_may (a : Ac) (h : mayA a = true) : mayA ⟨turnK a.kind, a.key, a.new, a.old⟩ = true := by
  simp only [mayA, actB, Bool.and_eq_true, decide_eq_true_eq] at h ⊢
  obtain ⟨⟨h0, h1⟩, h2, h3, h4, h5, h6⟩ := h
  have : a.kind = 1 ∨ a.kind = 2 ∨ a.kind = 3 := by omega
  refine ⟨?_, ?_, ?_, h4, h6, h5⟩ <;> rcases this with e | e | e <;> simp [turnK, e] at h2 h3 ⊢ <;> assumption

theorem turn_turn (a : Ac) (h : mayA a = true) : turnA (turnA a) = a := by
  have h2 := turn_may a h
  have e : turnA a = ⟨turnK a.kind, a.key, a.new, a.old⟩ := by rw [turnA, if_pos h]
  rw [e, turnA, if_pos h2]
  have : a.kind = 1 ∨ a.kind = 2 ∨ a.kind = 3 := by
    simp only [mayA, actB, Bool.and_eq_true, decide_eq_true_eq] at h
    omega
  obtain ⟨k, x, y, z⟩ := a
  simp only at this
  rcases this with rfl | rfl | rfl <;> rfl

set_option maxRecDepth 20000 in
set_option maxHeartbeats 1000000 in
theorem amay_any (ak : Int) (key old new : List UInt8) (w : World) :
    Calls Tryd.prog 43 #[.agg #[.int .i64 ak, .string (txt key), .string (txt old), .string (txt new)]] w fun e w' => e = .returned (.bool (actB ak key old new)) ∧ Below w.heap.size w w' := by
  have HB : Hid (Below w.heap.size w (w.alloc (.cells #[.int .i64 ak, .string (txt key), .string (txt old), .string (txt new)] 46))) := (Below.refl _ _).alloc (Nat.le_refl _) _
  have e1 := txt_size key
  have e2 := txt_size old
  have e3 := txt_size new
  by_cases h1 : 1 ≤ key.length
  rotate_left
  · have HE : Hid (actB ak key old new = false) := by show _ = _; simp [actB, h1]
    go_enter Tryd.func43, Tryd.ntmps43
    go_wp2
    go_ret
    exact ⟨by rw [HE.out]; rfl, HB.out⟩
  by_cases h2 : key.length ≤ 16
  rotate_left
  · have HE : Hid (actB ak key old new = false) := by show _ = _; simp [actB, h2]
    go_enter Tryd.func43, Tryd.ntmps43
    go_wp2
    go_ret
    exact ⟨by rw [HE.out]; rfl, HB.out⟩
  by_cases h3 : old.length ≤ 32
  rotate_left
  · have HE : Hid (actB ak key old new = false) := by show _ = _; simp [actB, h3]
    go_enter Tryd.func43, Tryd.ntmps43
    go_wp2
    go_ret
    exact ⟨by rw [HE.out]; rfl, HB.out⟩
  by_cases h4 : new.length ≤ 32
  rotate_left
  · have HE : Hid (actB ak key old new = false) := by show _ = _; simp [actB, h4]
    go_enter Tryd.func43, Tryd.ntmps43
    go_wp2
    go_ret
    exact ⟨by rw [HE.out]; rfl, HB.out⟩
  have HA : Hid (actB ak key old new = (decide (0 < ak ∧ ak < 4) && (decide (old = [] ∨ ak ≠ 1) && decide (new = [] ∨ ak ≠ 3)))) := by
    show _ = _
    simp [actB, h1, h2, h3, h4]
  by_cases a1 : ak = 1
  · subst a1
    by_cases ho : old = []
    · have ho' : ((txt old).toList == []) = true := by rw [txt_toList]; simpa using ho
      have HE : Hid (actB 1 key old new = true) := by show _ = _; rw [HA.out]; simp [ho]
      clear ho
      go_enter Tryd.func43, Tryd.ntmps43
      go_wp2
      go_ret
      exact ⟨by rw [HE.out]; rfl, HB.out⟩
    · have ho' : ((txt old).toList == []) = false := by rw [txt_toList]; simpa using ho
      have HE : Hid (actB 1 key old new = false) := by show _ = _; rw [HA.out]; simp [ho]
      clear ho
      go_enter Tryd.func43, Tryd.ntmps43
      go_wp2
      go_ret
      exact ⟨by rw [HE.out]; rfl, HB.out⟩
  · have b1 : (ak == 1) = false := by simp [a1]
    by_cases a2 : ak = 2
    · subst a2
      have HE : Hid (actB 2 key old new = true) := by show _ = _; rw [HA.out]; simp
      clear a1 b1
      go_enter Tryd.func43, Tryd.ntmps43
      go_wp2
      go_ret
      exact ⟨by rw [HE.out]; rfl, HB.out⟩
    · have b2 : (ak == 2) = false := by simp [a2]
      by_cases a3 : ak = 3
      · subst a3
        clear a1 b1 a2 b2
        by_cases ho : new = []
        · have ho' : ((txt new).toList == []) = true := by rw [txt_toList]; simpa using ho
          have HE : Hid (actB 3 key old new = true) := by show _ = _; rw [HA.out]; simp [ho]
          clear ho
          go_enter Tryd.func43, Tryd.ntmps43
          go_wp2
          go_ret
          exact ⟨by rw [HE.out]; rfl, HB.out⟩
        · have ho' : ((txt new).toList == []) = false := by rw [txt_toList]; simpa using ho
          have HE : Hid (actB 3 key old new = false) := by show _ = _; rw [HA.out]; simp [ho]
          clear ho
          go_enter Tryd.func43, Tryd.ntmps43
          go_wp2
          go_ret
          exact ⟨by rw [HE.out]; rfl, HB.out⟩
      · have b3 : (ak == 3) = false := by simp [a3]
        have HE : Hid (actB ak key old new = false) := by
          show _ = _
          rw [HA.out]
          have : ¬ (0 < ak ∧ ak < 4) := by omega
          simp [this]
        clear a1 a2 a3
        go_enter Tryd.func43, Tryd.ntmps43
        go_wp2
        go_ret
        exact ⟨by rw [HE.out]; rfl, HB.out⟩


end Go.Proofs.YtebchgoaelamcaaDoor

namespace Go.Proofs.YtebchgoaelamcaaDoor
open Go.RowKit
set_option maxRecDepth 100000

theorem cell4 {w : World} {g : Nat} {a b c d : Value} {t : TypeId} (h : w.heap[g]? = some (.cells #[a, b, c, d] t)) :
    w.cell? ⟨g, 0, none⟩ = some a ∧ w.cell? ⟨g, 1, none⟩ = some b ∧ w.cell? ⟨g, 2, none⟩ = some c ∧ w.cell? ⟨g, 3, none⟩ = some d ∧ w.frozen? ⟨g, 0, none⟩ = false ∧ w.frozen? ⟨g, 1, none⟩ = false ∧ w.frozen? ⟨g, 2, none⟩ = false ∧ w.frozen? ⟨g, 3, none⟩ = false ∧ g < w.heap.size := by
  have hg := (Array.getElem?_eq_some_iff.mp h).1
  refine ⟨?_, ?_, ?_, ?_, ?_, ?_, ?_, ?_, hg⟩ <;> simp [World.cell?, World.frozen?, h]

theorem two_kept {w w' : World} {A B : Obj} (hb : Below ((w.alloc A).alloc B).heap.size ((w.alloc A).alloc B) w') : w'.heap[w.heap.size]? = some A ∧ w'.heap[w.heap.size + 1]? = some B := by
  constructor
  · rw [hb.block _ (by simp; omega), Below.heap_alloc _ _ _ (by simp)]
    exact heap_alloc_new w A
  · rw [hb.block _ (by simp)]
    have := heap_alloc_new (w.alloc A) B
    simpa using this

/-- The cells of a block that is written over. -/
theorem put4 {w : World} {g : Nat} {a b c d a' b' c' d' : Value} {t : TypeId} (h : w.heap[g]? = some (.cells #[a, b, c, d] t)) :
    ((((w.setCell ⟨g, 0, none⟩ a').setCell ⟨g, 1, none⟩ b').setCell ⟨g, 2, none⟩ c').setCell ⟨g, 3, none⟩ d').heap[g]? = some (.cells #[a', b', c', d'] t) :=
  heap_setCell_same _ _ 3 _ t _ (heap_setCell_same _ _ 2 _ t _ (heap_setCell_same _ _ 1 _ t _ (heap_setCell_same _ _ 0 _ t _ h)))

theorem below_put4 {w w' : World} {D g : Nat} (h : Below D w w') (hg : D ≤ g) (a b c d : Value) : Below D w ((((w'.setCell ⟨g, 0, none⟩ a).setCell ⟨g, 1, none⟩ b).setCell ⟨g, 2, none⟩ c).setCell ⟨g, 3, none⟩ d) :=
  (((h.setCell hg _).setCell hg _).setCell hg _).setCell hg _

theorem Tryd.held35 : Tryd.prog.stoodInHeld 46 = false := by kernel_rfl
theorem Tryd.struct35 : Tryd.prog.underlying 46 = some (.struct (Tryd.prog.fieldsOf 46)) := by kernel_rfl
theorem Tryd.guard35 : Tryd.prog.eqGuardType Tryd.prog.depth 46 = false := by kernel_rfl

theorem act_eq (ak bk : Int) (k o n k' o' n' : ByteArray) (w : World) :
    (Op.equalIn 10000 46 (.agg #[.int .i64 ak, .string k, .string o, .string n]) (.agg #[.int .i64 bk, .string k', .string o', .string n'])).run Tryd.prog w = .ok ((ak == bk) && ((k.toList == k'.toList) && ((o.toList == o'.toList) && (n.toList == n'.toList)))) w := by
  rw [show (10000 : Nat) = 9999 + 1 from rfl, run_equalIn_struct w 9999 46 _ _ Tryd.struct35 Tryd.held35]
  simp [Program.fieldsOf, Tryd.underlying46, Op.eqFields, go_sem]
  repeat' split
  all_goals simp_all
theorem act_same (a b : Ac) (w : World) : (Op.equalIn 10000 46 (actV a) (actV b)).run Tryd.prog w = .ok (decide (a = b)) w := by
  obtain ⟨ak, k, o, n⟩ := a
  obtain ⟨bk, k', o', n'⟩ := b
  rw [act_eq]
  congr 1
  simp only [txt_toList]
  rw [Bool.eq_iff_iff]
  simp

end Go.Proofs.YtebchgoaelamcaaDoor

namespace Go.Proofs.YtebchgoaelamcaaDoor
open Go.RowKit
set_option maxRecDepth 100000

def ent (k : Int) (f : Nat) (b : Nat) : MapEntry := ⟨.int .i64 k, .func (.func f) #[] #[], b⟩

theorem run_put (w : World) (r clock : Nat) (es : Array MapEntry) (k : Int) (val : Value) (hb : w.heap[r]? = some (.map es clock)) (hf : Instr.findNow (.int .i64) (.int .i64 k) es.toList 0 = some none) :
    (Instr.mapUpdate 104 (.map (some r)) (.int .i64 k) val).run Tryd.prog w = .ok () { w with heap := w.heap.setIfInBounds r (.map (es.push ⟨.int .i64 k, val, clock⟩) (clock + 1)) } := by
  have hc : (Instr.checkKey false 10000 44 (.int .i64 k)).run Tryd.prog w = .ok () w := MapKept.run_checkKey (k := .int .i64 k) Tryd.underlying44 (by simp [MapKept.IsKey]) false 9999
  simp [Instr.mapUpdate, run_underlying Tryd.underlying104, MapKept.run_getObj_map hb, hc, MapKept.run_findKey Tryd.underlying44 hf, MapKept.run_setObj_map _ hb, Result.andThen]

theorem run_look (w : World) (r clock : Nat) (es : Array MapEntry) (k : Int) (i : Nat) (val : Value) (hb : w.heap[r]? = some (.map es clock)) (hf : Instr.findNow (.int .i64) (.int .i64 k) es.toList 0 = some (some (i, val))) :
    (Instr.lookup 104 (.map (some r)) (.int .i64 k) false).run Tryd.prog w = .ok val w := by
  have hc : ∀ b, (Instr.checkKey b 10000 44 (.int .i64 k)).run Tryd.prog w = .ok () w := fun b => MapKept.run_checkKey (k := .int .i64 k) Tryd.underlying44 (by simp [MapKept.IsKey]) b 9999
  simp [Instr.lookup, run_underlying Tryd.underlying104, MapKept.run_getObj_map hb, hc, MapKept.run_findKey Tryd.underlying44 hf, Result.andThen]

theorem below_obj {w w' : World} {D r : Nat} (h : Below D w w') (hr : D ≤ r) (o : Obj) : Below D w { w' with heap := w'.heap.setIfInBounds r o } :=
  ⟨h.os, h.tape, h.output, by simpa using h.size, fun k hk => by
    show (w'.heap.setIfInBounds r o)[k]? = _
    rw [Array.getElem?_setIfInBounds_ne (by omega)]
    exact h.block k hk⟩

/-- What each kind does. -/
def deedsO : Obj := .map #[ent 1 72 0, ent 2 73 1, ent 3 74 2] 3

theorem put_ex {w0 w : World} {D r clock : Nat} {es : Array MapEntry} (k : Int) (val : Value) (hb : w.heap[r]? = some (.map es clock)) (hf : Instr.findNow (.int .i64) (.int .i64 k) es.toList 0 = some none) (hB : Below D w0 w) (hr : D ≤ r) :
    ∃ w', (Instr.mapUpdate 104 (.map (some r)) (.int .i64 k) val).run Tryd.prog w = .ok () w' ∧ Below D w0 w' ∧ w'.heap[r]? = some (.map (es.push ⟨.int .i64 k, val, clock⟩) (clock + 1)) :=
  ⟨_, run_put w r clock es k val hb hf, below_obj hB hr _, (MapKept.heap_set hb).1⟩

theorem deeds_any (w : World) : Calls Tryd.prog 52 #[] w fun e w' => e = .returned (.map (some w.heap.size)) ∧ Below w.heap.size w w' ∧ w'.heap[w.heap.size]? = some deedsO := by
  have h0 : (Instr.makeMap 104 none).run Tryd.prog w = .ok (.map (some w.heap.size)) (w.alloc (.map #[] 0)) := run_makeMap 104 w
  have b0 : Below w.heap.size w (w.alloc (.map #[] 0)) := (Below.refl _ _).alloc (Nat.le_refl _) _
  have k0 : (w.alloc (.map #[] 0)).heap[w.heap.size]? = some (.map #[] 0) := heap_alloc_new _ _
  obtain ⟨w1, h1, b1, k1⟩ := put_ex 1 (.func (.func 72) #[] #[]) k0 rfl b0 (Nat.le_refl _)
  obtain ⟨w2, h2, b2, k2⟩ := put_ex 2 (.func (.func 73) #[] #[]) k1 rfl b1 (Nat.le_refl _)
  obtain ⟨w3, h3, b3, k3⟩ := put_ex 3 (.func (.func 74) #[] #[]) k2 rfl b2 (Nat.le_refl _)
  have HB := (show Hid _ from b3)
  have HK : Hid (w3.heap[w.heap.size]? = some deedsO) := k3
  clear b0 b1 b2 b3 k0 k1 k2 k3
  go_enter Tryd.func52, Tryd.ntmps52
  go_wp2
  go_ret
  exact ⟨rfl, HB.out, HK.out⟩

/-- Why a value can't be taken away from a key. -/
def whyL (l : List Cl) (k x : List UInt8) : Int := match getL l k with
  | none => 8
  | some v => if v = x then 0 else 10

/-- What a change makes of slots. -/
def doL (l : List Cl) (a : Ac) : List Cl × Int :=
  if mayA a = false then (l, 1) else if a.kind = 1 then insL l a.key a.new else if whyL l a.key a.old ≠ 0 then (l, whyL l a.key a.old) else if a.kind = 2 then updL l a.key a.new else delL l a.key

theorem do_good {l : List Cl} (h : GoodL l) (a : Ac) : GoodL (doL l a).1 := by
  unfold doL
  split
  · exact h
  · split
    · exact ins_good h _ _
    · split
      · exact h
      · split
        · exact upd_good h _ _
        · exact del_good h _

set_option maxHeartbeats 1000000 in
theorem whynot_any (B p : Nat) (id : Int) (lsn : Nat) (v : Value) (l : List Cl) (k x : List UInt8) (w : World) (h : PgOk w B p id lsn v l) (hg : GoodL l) :
    Calls Tryd.prog 95 #[.pointer (some ⟨p, 0, none⟩), .string (txt k), .string (txt x)] w fun e w' => e = .returned (.int .i64 (whyL l k x)) ∧ Below w.heap.size w w' := by
  have h64 := hg.few
  have HG := (show Hid _ from get_any B p id lsn v l k w h (by omega))
  clear h hg
  go_enter Tryd.func95, Tryd.ntmps95
  go_wp2_with fail
  refine Calls.mono HG.out ?_
  rintro e w1 ⟨rfl, hb⟩
  cases hgl : getL l k with
  | none =>
    simp only [Option.getD_none, Option.isSome_none]
    go_wp2
    go_ret
    exact ⟨by simp [whyL, hgl], hb⟩
  | some y =>
    simp only [Option.getD_some, Option.isSome_some]
    by_cases hy : y = x
    · have hy' : ((txt y).toList == (txt x).toList) = true := by simp [txt_toList, hy]
      go_wp2
      go_ret
      exact ⟨by simp [whyL, hgl, hy], hb⟩
    · have hy' : ((txt y).toList == (txt x).toList) = false := by simp [txt_toList, hy]
      go_wp2
      go_ret
      exact ⟨by simp [whyL, hgl, hy], hb⟩

end Go.Proofs.YtebchgoaelamcaaDoor

