/-
  A slot that is filled, a slot more, a page's stamp.
-/
import Derived.Test.YtebchgoaelamcaaDoorPf
import Derived.Deep.RegionHeld3
import Derived.Deep.DeepCutAuto
namespace Go.Proofs.YtebchgoaelamcaaDoor
open Go.RowKit
set_option maxRecDepth 100000

theorem Tryd.mixed : Tryd.prog.follows .mixedOrders = true := by kernel_rfl

theorem PgOk.drew {w : World} {B p : Nat} {id : Int} {lsn : Nat} {v : Value} {l : List Cl} (h : PgOk w B p id lsn v l) : PgOk w.drew B p id lsn v l := ⟨h.blk, h.own, h.ne, h.base⟩
theorem Touch.drew {w w1 : World} {p : Nat} {o : Option Nat} (h : Touch p o w w1) : Touch p o w w1.drew := ⟨h.os, h.tape, h.output, h.size, h.block⟩

theorem own_some {w : World} {B : Nat} {v : Value} {l : List Cl} (h : w.ownsRow B 55 3 v l.length (cellsV l)) (hl : 0 < l.length) : ∃ g cap, v = .slice (some ⟨g, 0, none⟩) l.length cap ∧ l.length ≤ cap := by
  rcases h.2 with ⟨_, h2⟩ | ⟨g, cap, cur, h1, _, _, hc, _⟩
  · omega
  · exact ⟨g, cap, h1, hc⟩

theorem row_free {w : World} {B g n cap : Nat} {e : TypeId} {size : Nat} {xs : List Value} (h : w.ownsRow B e size (.slice (some ⟨g, 0, none⟩) n cap) n xs) (k : Nat) : w.frozen? ⟨g, k, none⟩ = false := by
  rcases h.2 with ⟨h1, _⟩ | ⟨g', cap', cur, h1, hB, hh, hc, hm, hs, ht⟩
  · simp at h1
  · simp at h1
    obtain ⟨rfl, rfl⟩ := h1
    simp [World.frozen?, hh]

/-- Behind a slot that was written. -/
theorem PgOk.put {w : World} {B p g cap : Nat} {id : Int} {lsn : Nat} {l : List Cl} (h : PgOk w B p id lsn (.slice (some ⟨g, 0, none⟩) l.length cap) l) (i : Nat) (hi : i < l.length) (c : Cl) :
    PgOk (((w.setCell ⟨g, i * 3, none⟩ (.bool c.used)).setCell ⟨g, i * 3 + 1, none⟩ (.string (txt c.key))).setCell ⟨g, i * 3 + 2, none⟩ (.string (txt c.val))) B p id lsn (.slice (some ⟨g, 0, none⟩) l.length cap) (l.set i c) := by
  have hne : p ≠ g := fun e => h.ne (by rw [e]; rfl)
  refine ⟨?_, ?_, h.ne, h.base⟩
  · rw [heap_setCell_other _ _ _ _ hne, heap_setCell_other _ _ _ _ hne, heap_setCell_other _ _ _ _ hne]
    exact h.blk
  · rw [cellsV_set l i c hi, List.length_set]
    exact own_set (own_set (own_set h.own _ _) _ _) _ _

set_option maxHeartbeats 400000 in
set_option maxRecDepth 20000 in
theorem fill_any (B p : Nat) (id : Int) (lsn : Nat) (v : Value) (l : List Cl) (i : Nat) (c : Cl) (w : World) (h : PgOk w B p id lsn v l) (hg : GoodL l) (hi : i < l.length) (hc : c.key.length ≤ 16 ∧ c.val.length ≤ 32) :
    Calls Tryd.prog 61 #[.pointer (some ⟨p, 0, none⟩), .int .i64 i, .agg (cellV c)] w fun e w' => e = .returned (.int .i64 (fillL l i c).2) ∧ PgOk w' B p id lsn v (fillL l i c).1 ∧ Touch p v.ownBlock w w' := by
  obtain ⟨g, cap, rfl, hcap⟩ := own_some h.own (by omega)
  have hpz := lt_of_blk h.blk
  have hgz : g < w.heap.size := ownsRow_lt h.own g rfl
  have hsz := hg.small l[i] (List.getElem_mem hi)
  have HT : Hid (∀ W, Below (w.heap.size + 1) (w.alloc (.cells #[.bool c.used, .string (txt c.key), .string (txt c.val)] 55)) W →
      W.cell? ⟨w.heap.size, 0, none⟩ = some (.bool c.used) ∧ W.cell? ⟨w.heap.size, 1, none⟩ = some (.string (txt c.key)) ∧ W.cell? ⟨w.heap.size, 2, none⟩ = some (.string (txt c.val)) ∧
      W.cell? ⟨p, 2, none⟩ = some (.slice (some ⟨g, 0, none⟩) l.length cap) ∧
      W.cell? ⟨g, i * 3, none⟩ = some (.bool l[i].used) ∧ W.cell? ⟨g, i * 3 + 1, none⟩ = some (.string (txt l[i].key)) ∧ W.cell? ⟨g, i * 3 + 2, none⟩ = some (.string (txt l[i].val)) ∧
      Below (w.heap.size + 1) (w.alloc (.cells #[.bool c.used, .string (txt c.key), .string (txt c.val)] 55)) W) := fun W hW => by
    have hB : Below w.heap.size w W := ((Below.refl _ _).alloc (Nat.le_refl _) _).trans (hW.mono (by omega))
    have hk := box_in (show Below (w.alloc (.cells #[.bool c.used, .string (txt c.key), .string (txt c.val)] 55)).heap.size _ W by simpa using hW)
    obtain ⟨q0, q1, q2, _⟩ := cell3 hk
    have h' := h.below hB (Nat.le_refl _)
    obtain ⟨_, _, p2, _⟩ := h'.cells
    obtain ⟨_, c0, c1, c2⟩ := (slC_of_own h'.own).1.here i hi
    exact ⟨q0, q1, q2, p2, by simpa using c0, by simpa using c1, by simpa using c2, hW⟩
  have HC : Hid (∀ W, Below (w.heap.size + 1) (w.alloc (.cells #[.bool c.used, .string (txt c.key), .string (txt c.val)] 55)) W → Calls Tryd.prog 39 #[.agg #[.bool c.used, .string (txt c.key), .string (txt c.val)]] W fun e w' => e = .returned (.int .i64 (sizeC c : Nat)) ∧ Below (w.heap.size + 1) (w.alloc (.cells #[.bool c.used, .string (txt c.key), .string (txt c.val)] 55)) w') := fun W hW =>
    (cellSize_any c W (by omega)).mono fun e w' ⟨e1, e2⟩ => ⟨e1, hW.trans (e2.mono (by have := hW.size; simpa using this))⟩
  have HD : Hid (∀ W, Below (w.heap.size + 1) (w.alloc (.cells #[.bool c.used, .string (txt c.key), .string (txt c.val)] 55)) W → Calls Tryd.prog 39 #[.agg #[.bool l[i].used, .string (txt l[i].key), .string (txt l[i].val)]] W fun e w' => e = .returned (.int .i64 (sizeC l[i] : Nat)) ∧ Below (w.heap.size + 1) (w.alloc (.cells #[.bool c.used, .string (txt c.key), .string (txt c.val)] 55)) w') := fun W hW =>
    (cellSize_any l[i] W (by omega)).mono fun e w' ⟨e1, e2⟩ => ⟨e1, hW.trans (e2.mono (by have := hW.size; simpa using this))⟩
  have HF : Hid (∀ W, Below (w.heap.size + 1) (w.alloc (.cells #[.bool c.used, .string (txt c.key), .string (txt c.val)] 55)) W → Calls Tryd.prog 80 #[.pointer (some ⟨p, 0, none⟩)] W fun e w' => e = .returned (.int .i64 (freeL l)) ∧ Below (w.heap.size + 1) (w.alloc (.cells #[.bool c.used, .string (txt c.key), .string (txt c.val)] 55)) w') := fun W hW =>
    (free_any B p id lsn _ l W (h.below (((Below.refl _ _).alloc (Nat.le_refl _) _).trans (hW.mono (by omega))) (Nat.le_refl _)) hg).mono fun e w' ⟨e1, e2⟩ => ⟨e1, hW.trans (e2.mono (by have := hW.size; simpa using this))⟩
  have HK0 : Hid (Below (w.heap.size + 1) (w.alloc (.cells #[.bool c.used, .string (txt c.key), .string (txt c.val)] 55)) (w.alloc (.cells #[.bool c.used, .string (txt c.key), .string (txt c.val)] 55))) := Below.refl _ _
  have HP := (show Hid _ from h)
  have s1 : (sizeC c : Int) ≤ 1000 := by unfold sizeC; split <;> omega
  have s2 : (sizeC l[i] : Int) ≤ 1000 := by unfold sizeC; split <;> omega
  have HR : Hid (fillL l i c = if (sizeC c : Int) - (sizeC l[i] : Int) > freeL l then (l, 7) else (l.set i c, 0)) := by
    show _ = _
    unfold fillL
    rw [List.getElem?_eq_getElem hi]
    rfl
  have hS0 := HT.out _ HK0.out.drew
  clear h
  simp only [cellV]
  go_enter Tryd.func61, Tryd.ntmps61
  go_wp2_with fail
  go_region_held3 (fun W => W.cell? ⟨w.heap.size, 0, none⟩ = some (.bool c.used) ∧ W.cell? ⟨w.heap.size, 1, none⟩ = some (.string (txt c.key)) ∧ W.cell? ⟨w.heap.size, 2, none⟩ = some (.string (txt c.val)) ∧
      W.cell? ⟨p, 2, none⟩ = some (.slice (some ⟨g, 0, none⟩) l.length cap) ∧
      W.cell? ⟨g, i * 3, none⟩ = some (.bool l[i].used) ∧ W.cell? ⟨g, i * 3 + 1, none⟩ = some (.string (txt l[i].key)) ∧ W.cell? ⟨g, i * 3 + 2, none⟩ = some (.string (txt l[i].val)) ∧
      Below (w.heap.size + 1) (w.alloc (.cells #[.bool c.used, .string (txt c.key), .string (txt c.val)] 55)) W) (first | with_reducible assumption | (with_reducible refine HT.out _ ?_; first | with_reducible assumption | exact HK0.out | exact Below.drew HK0.out)) (first | (go_at_call 39; (first | with_reducible refine (HC.out _ (by first | with_reducible assumption | exact HK0.out | exact Below.drew HK0.out | exact And.right (And.right (And.right (And.right (And.right (And.right (And.right (by with_reducible assumption))))))))).mono ?_ | with_reducible refine (HD.out _ (by first | with_reducible assumption | exact HK0.out | exact Below.drew HK0.out | exact And.right (And.right (And.right (And.right (And.right (And.right (And.right (by with_reducible assumption))))))))).mono ?_); rintro e wn ⟨rfl, hbn⟩) | (go_at_call 80; refine (HF.out _ (by first | with_reducible assumption | exact HK0.out | exact Below.drew HK0.out | exact And.right (And.right (And.right (And.right (And.right (And.right (And.right (by with_reducible assumption))))))))).mono ?_; rintro e wn ⟨rfl, hbn⟩))
  obtain ⟨q0, q1, q2, p2, c0, c1, c2, hBn⟩ := HT.out _ hbn
  have hB : Below w.heap.size w wn := ((Below.refl _ _).alloc (Nat.le_refl _) _).trans (hBn.mono (by omega))
  have hP := HP.out.below hB (Nat.le_refl _)
  have hgn : g < wn.heap.size := by have := hB.size; omega
  have hpn : p < wn.heap.size := by have := hB.size; omega
  have hwn : w.heap.size < wn.heap.size := by have := hBn.size; simp at this; omega
  have f0 := row_free hP.own (i * 3)
  have f1 := row_free hP.own (i * 3 + 1)
  have f2 := row_free hP.own (i * 3 + 2)
  have R := (show Hid _ from hP.put i hi c)
  have T0 : Touch p (Value.slice (some ⟨g, 0, none⟩) l.length cap).ownBlock w wn := Touch.of hB
  have HPn := (show Hid _ from hP)
  have HB := (show Hid _ from hB)
  have hwr : IntKind.i64.wrap ((sizeC c : Int) - (sizeC l[i] : Int)) = (sizeC c : Int) - (sizeC l[i] : Int) := by simp [IntKind.wrap, IntKind.bits, IntKind.signed]; omega
  clear hbn hBn hP hB hS0
  by_cases hgt : freeL l < (sizeC c : Int) - (sizeC l[i] : Int)
  · have e : fillL l i c = (l, 7) := by rw [HR.out, if_pos hgt]
    go_wp2
    go_ret
    rw [e]
    exact ⟨rfl, HPn.out, T0⟩
  · have e : fillL l i c = (l.set i c, 0) := by rw [HR.out, if_neg hgt]
    have HT0 := (show Hid _ from T0)
    have HE := (show Hid _ from e)
    clear e T0
    go_wp2_with fail
    refine wp_region_quiet_tail 6 Tryd.mixed (by kernel_rfl) ?_
    simp only [List.take_succ_cons, List.take_zero, List.drop_succ_cons, List.drop_zero]
    repeat (go_big_quiet_step (fail))
    refine wpQuiet_nil ?_
    go_wp2
    go_ret
    rw [HE.out]
    refine ⟨rfl, ?_, ?_⟩
    · exact R.out.drew
    · refine Touch.drew (Touch.setCell (Touch.setCell (Touch.setCell HT0.out ?_ _) ?_ _) ?_ _)
      · exact .inr rfl
      · exact .inr rfl
      · exact .inr rfl

end Go.Proofs.YtebchgoaelamcaaDoor
