/-
  The walk of RecSames.
-/
import Derived.Test.YtjhjicokbdloiaaLa2
import Derived.Test.YtjhjicokbdloiaaRs
import Derived.Deep.RegionHeld3
namespace Go.Proofs.Ytjhjicokbdloiaa
open Go.RowKit

set_option maxRecDepth 20000 in
set_option maxHeartbeats 4000000 in
theorem sames_walk (a b : Rc) (ta : Option Addr) (tc : Nat) (da : Option Addr) (dc : Nat) (ta2 : Option Addr) (tc2 : Nat) (da2 : Option Addr) (dc2 : Nat) (w : World) (ha : RI w a ta da) (hb : RI w b ta2 da2) :
    Calls Try.prog 8 #[recV a ta tc da dc, recV b ta2 tc2 da2 dc2] w fun e w' => e = .returned (.bool true) ∧ Below w.heap.size w w' := by
  obtain ⟨sm, hsm⟩ : ∃ x, decide (a = b) = x := ⟨_, rfl⟩
  have HSab : Hid (∀ W, Below (w.heap.size + 2) ((w.alloc (.cells (recC a ta tc da dc) 31)).alloc (.cells (recC b ta2 tc2 da2 dc2) 31)) W → Calls Try.prog 23 #[recV a ta tc da dc, recV b ta2 tc2 da2 dc2] W fun e w' => e = .returned (.bool sm) ∧ Below (w.heap.size + 2) ((w.alloc (.cells (recC a ta tc da dc) 31)).alloc (.cells (recC b ta2 tc2 da2 dc2) 31)) w') := fun W hW => by
    have h := ha.below (box2_below hW)
    have k := hb.below (box2_below hW)
    refine Calls.mono (same_any a b ta tc da dc ta2 tc2 da2 dc2 W h.t h.d h.lt h.ld k.t k.d k.lt k.ld) ?_
    rintro e w' ⟨rfl, hb'⟩
    exact ⟨by simp [← hsm], box2_on hW hb'⟩
  have HSba : Hid (∀ W, Below (w.heap.size + 2) ((w.alloc (.cells (recC a ta tc da dc) 31)).alloc (.cells (recC b ta2 tc2 da2 dc2) 31)) W → Calls Try.prog 23 #[recV b ta2 tc2 da2 dc2, recV a ta tc da dc] W fun e w' => e = .returned (.bool sm) ∧ Below (w.heap.size + 2) ((w.alloc (.cells (recC a ta tc da dc) 31)).alloc (.cells (recC b ta2 tc2 da2 dc2) 31)) w') := fun W hW => by
    have h := ha.below (box2_below hW)
    have k := hb.below (box2_below hW)
    refine Calls.mono (same_any b a ta2 tc2 da2 dc2 ta tc da dc W k.t k.d k.lt k.ld h.t h.d h.lt h.ld) ?_
    rintro e w' ⟨rfl, hb'⟩
    exact ⟨by simp [← hsm, eq_comm], box2_on hW hb'⟩
  have HSaa : Hid (∀ W, Below (w.heap.size + 2) ((w.alloc (.cells (recC a ta tc da dc) 31)).alloc (.cells (recC b ta2 tc2 da2 dc2) 31)) W → Calls Try.prog 23 #[recV a ta tc da dc, recV a ta tc da dc] W fun e w' => e = .returned (.bool true) ∧ Below (w.heap.size + 2) ((w.alloc (.cells (recC a ta tc da dc) 31)).alloc (.cells (recC b ta2 tc2 da2 dc2) 31)) w') := fun W hW => by
    have h := ha.below (box2_below hW)
    have k := hb.below (box2_below hW)
    refine Calls.mono (same_any a a ta tc da dc ta tc da dc W h.t h.d h.lt h.ld h.t h.d h.lt h.ld) ?_
    rintro e w' ⟨rfl, hb'⟩
    exact ⟨by simp, box2_on hW hb'⟩
  have HSbb : Hid (∀ W, Below (w.heap.size + 2) ((w.alloc (.cells (recC a ta tc da dc) 31)).alloc (.cells (recC b ta2 tc2 da2 dc2) 31)) W → Calls Try.prog 23 #[recV b ta2 tc2 da2 dc2, recV b ta2 tc2 da2 dc2] W fun e w' => e = .returned (.bool true) ∧ Below (w.heap.size + 2) ((w.alloc (.cells (recC a ta tc da dc) 31)).alloc (.cells (recC b ta2 tc2 da2 dc2) 31)) w') := fun W hW => by
    have h := ha.below (box2_below hW)
    have k := hb.below (box2_below hW)
    refine Calls.mono (same_any b b ta2 tc2 da2 dc2 ta2 tc2 da2 dc2 W k.t k.d k.lt k.ld k.t k.d k.lt k.ld) ?_
    rintro e w' ⟨rfl, hb'⟩
    exact ⟨by simp, box2_on hW hb'⟩
  have HRab : Hid (∀ W, Below (w.heap.size + 2) ((w.alloc (.cells (recC a ta tc da dc) 31)).alloc (.cells (recC b ta2 tc2 da2 dc2) 31)) W → Calls Try.prog 22 #[recV a ta tc da dc, recV b ta2 tc2 da2 dc2] W fun e w' => e = .returned (.bool sm) ∧ Below (w.heap.size + 2) ((w.alloc (.cells (recC a ta tc da dc) 31)).alloc (.cells (recC b ta2 tc2 da2 dc2) 31)) w') := fun W hW => by
    have h := ha.below (box2_below hW)
    have k := hb.below (box2_below hW)
    refine Calls.mono (refsame_any a b ta tc da dc ta2 tc2 da2 dc2 W h k) ?_
    rintro e w' ⟨rfl, hb'⟩
    exact ⟨by simp [← hsm], box2_on hW hb'⟩
  have HLv : Hid (∀ W, Below (w.heap.size + 2) ((w.alloc (.cells (recC a ta tc da dc) 31)).alloc (.cells (recC b ta2 tc2 da2 dc2) 31)) W → Calls Try.prog 10 #[] W fun e w' => e = .returned (.bool true) ∧ Below (w.heap.size + 2) ((w.alloc (.cells (recC a ta tc da dc) 31)).alloc (.cells (recC b ta2 tc2 da2 dc2) 31)) w') := fun W hW => (lives_any W).mono fun e w' ⟨e1, e2⟩ => ⟨e1, box2_on hW e2⟩
  have HT : Hid (∀ W, Below (w.heap.size + 2) ((w.alloc (.cells (recC a ta tc da dc) 31)).alloc (.cells (recC b ta2 tc2 da2 dc2) 31)) W → W.cell? ⟨w.heap.size, 0, none⟩ = some (.int .i64 a.kind) ∧ W.cell? ⟨w.heap.size, 1, none⟩ = some (.int .u64 (a.lsn : Int)) ∧ W.cell? ⟨w.heap.size, 2, none⟩ = some (.int .i64 a.txn) ∧ W.cell? ⟨w.heap.size, 3, none⟩ = some (.int .u64 (a.prev : Int)) ∧ W.cell? ⟨w.heap.size, 4, none⟩ = some (.int .u64 (a.undo : Int)) ∧ W.cell? ⟨w.heap.size, 5, none⟩ = some (.int .i64 a.page) ∧ W.cell? ⟨w.heap.size, 6, none⟩ = some (.int .i64 a.ak) ∧ W.cell? ⟨w.heap.size, 7, none⟩ = some (.string (txt a.key)) ∧ W.cell? ⟨w.heap.size, 8, none⟩ = some (.string (txt a.old)) ∧ W.cell? ⟨w.heap.size, 9, none⟩ = some (.string (txt a.new)) ∧ W.cell? ⟨w.heap.size, 10, none⟩ = some (.slice ta a.txns.length tc) ∧ W.cell? ⟨w.heap.size, 11, none⟩ = some (.slice da a.dirty.length dc) ∧ W.cell? ⟨w.heap.size + 1, 0, none⟩ = some (.int .i64 b.kind) ∧ W.cell? ⟨w.heap.size + 1, 1, none⟩ = some (.int .u64 (b.lsn : Int)) ∧ W.cell? ⟨w.heap.size + 1, 2, none⟩ = some (.int .i64 b.txn) ∧ W.cell? ⟨w.heap.size + 1, 3, none⟩ = some (.int .u64 (b.prev : Int)) ∧ W.cell? ⟨w.heap.size + 1, 4, none⟩ = some (.int .u64 (b.undo : Int)) ∧ W.cell? ⟨w.heap.size + 1, 5, none⟩ = some (.int .i64 b.page) ∧ W.cell? ⟨w.heap.size + 1, 6, none⟩ = some (.int .i64 b.ak) ∧ W.cell? ⟨w.heap.size + 1, 7, none⟩ = some (.string (txt b.key)) ∧ W.cell? ⟨w.heap.size + 1, 8, none⟩ = some (.string (txt b.old)) ∧ W.cell? ⟨w.heap.size + 1, 9, none⟩ = some (.string (txt b.new)) ∧ W.cell? ⟨w.heap.size + 1, 10, none⟩ = some (.slice ta2 b.txns.length tc2) ∧ W.cell? ⟨w.heap.size + 1, 11, none⟩ = some (.slice da2 b.dirty.length dc2) ∧ Below (w.heap.size + 2) ((w.alloc (.cells (recC a ta tc da dc) 31)).alloc (.cells (recC b ta2 tc2 da2 dc2) 31)) W) := fun W hW => by
    obtain ⟨ka, kb⟩ := boxes hW
    obtain ⟨⟨x0, x1, x2, x3, x4, x5, x6, x7, x8, x9, x10, x11⟩, _⟩ := rw_cells' ka
    obtain ⟨⟨y0, y1, y2, y3, y4, y5, y6, y7, y8, y9, y10, y11⟩, _⟩ := rw_cells' kb
    exact ⟨x0, x1, x2, x3, x4, x5, x6, x7, x8, x9, x10, x11, y0, y1, y2, y3, y4, y5, y6, y7, y8, y9, y10, y11, hW⟩
  have HK0 : Hid (Below (w.heap.size + 2) ((w.alloc (.cells (recC a ta tc da dc) 31)).alloc (.cells (recC b ta2 tc2 da2 dc2) 31)) ((w.alloc (.cells (recC a ta tc da dc) 31)).alloc (.cells (recC b ta2 tc2 da2 dc2) 31))) := Below.refl _ _
  clear ha hb hsm
  go_enter Try.func8, Try.ntmps8
  go_wp2_with fail
  refine (light_any a ta tc da dc _).mono ?_
  rintro e w1 ⟨la, rfl, hb1⟩
  have HK1 := (show Hid _ from box2_on HK0.out hb1)
  clear hb1
  obtain ⟨ka, kb⟩ := boxes HK1.out
  obtain ⟨⟨x0, x1, x2, x3, x4, x5, x6, x7, x8, x9, x10, x11⟩, _⟩ := rw_cells' ka
  obtain ⟨⟨y0, y1, y2, y3, y4, y5, y6, y7, y8, y9, y10, y11⟩, _⟩ := rw_cells' kb
  have hza := lt_of_block ka
  have hzb := lt_of_block kb
  clear ka kb
  cases la
  · go_wp2_with fail
    refine (lives_any _).mono ?_
    rintro e wz ⟨rfl, hbz⟩
    have hfin := box2_below (box2_on HK1.out hbz)
    clear hbz
    go_wp2
    go_ret
    exact ⟨rfl, hfin⟩
  go_wp2_with fail
  refine (light_any b ta2 tc2 da2 dc2 _).mono ?_
  rintro e w2 ⟨lb, rfl, hb2⟩
  have HK2 := (show Hid _ from box2_on HK1.out hb2)
  clear hb2 x0 x1 x2 x3 x4 x5 x6 x7 x8 x9 x10 x11 y0 y1 y2 y3 y4 y5 y6 y7 y8 y9 y10 y11 hza hzb
  obtain ⟨ka, kb⟩ := boxes HK2.out
  obtain ⟨⟨x0, x1, x2, x3, x4, x5, x6, x7, x8, x9, x10, x11⟩, _⟩ := rw_cells' ka
  obtain ⟨⟨y0, y1, y2, y3, y4, y5, y6, y7, y8, y9, y10, y11⟩, _⟩ := rw_cells' kb
  have hza := lt_of_block ka
  have hzb := lt_of_block kb
  clear ka kb
  cases lb
  · go_wp2_with fail
    refine (lives_any _).mono ?_
    rintro e wz ⟨rfl, hbz⟩
    have hfin := box2_below (box2_on HK2.out hbz)
    clear hbz
    go_wp2
    go_ret
    exact ⟨rfl, hfin⟩
  clear x0 x1 x2 x3 x4 x5 x6 x7 x8 x9 x10 x11 y0 y1 y2 y3 y4 y5 y6 y7 y8 y9 y10 y11 hza hzb HK0 HK1
  have hS0 := HT.out _ HK2.out
  cases sm
  all_goals
    go_wp2_with fail
    go_region_held3 (fun W => W.cell? ⟨w.heap.size, 0, none⟩ = some (.int .i64 a.kind) ∧ W.cell? ⟨w.heap.size, 1, none⟩ = some (.int .u64 (a.lsn : Int)) ∧ W.cell? ⟨w.heap.size, 2, none⟩ = some (.int .i64 a.txn) ∧ W.cell? ⟨w.heap.size, 3, none⟩ = some (.int .u64 (a.prev : Int)) ∧ W.cell? ⟨w.heap.size, 4, none⟩ = some (.int .u64 (a.undo : Int)) ∧ W.cell? ⟨w.heap.size, 5, none⟩ = some (.int .i64 a.page) ∧ W.cell? ⟨w.heap.size, 6, none⟩ = some (.int .i64 a.ak) ∧ W.cell? ⟨w.heap.size, 7, none⟩ = some (.string (txt a.key)) ∧ W.cell? ⟨w.heap.size, 8, none⟩ = some (.string (txt a.old)) ∧ W.cell? ⟨w.heap.size, 9, none⟩ = some (.string (txt a.new)) ∧ W.cell? ⟨w.heap.size, 10, none⟩ = some (.slice ta a.txns.length tc) ∧ W.cell? ⟨w.heap.size, 11, none⟩ = some (.slice da a.dirty.length dc) ∧ W.cell? ⟨w.heap.size + 1, 0, none⟩ = some (.int .i64 b.kind) ∧ W.cell? ⟨w.heap.size + 1, 1, none⟩ = some (.int .u64 (b.lsn : Int)) ∧ W.cell? ⟨w.heap.size + 1, 2, none⟩ = some (.int .i64 b.txn) ∧ W.cell? ⟨w.heap.size + 1, 3, none⟩ = some (.int .u64 (b.prev : Int)) ∧ W.cell? ⟨w.heap.size + 1, 4, none⟩ = some (.int .u64 (b.undo : Int)) ∧ W.cell? ⟨w.heap.size + 1, 5, none⟩ = some (.int .i64 b.page) ∧ W.cell? ⟨w.heap.size + 1, 6, none⟩ = some (.int .i64 b.ak) ∧ W.cell? ⟨w.heap.size + 1, 7, none⟩ = some (.string (txt b.key)) ∧ W.cell? ⟨w.heap.size + 1, 8, none⟩ = some (.string (txt b.old)) ∧ W.cell? ⟨w.heap.size + 1, 9, none⟩ = some (.string (txt b.new)) ∧ W.cell? ⟨w.heap.size + 1, 10, none⟩ = some (.slice ta2 b.txns.length tc2) ∧ W.cell? ⟨w.heap.size + 1, 11, none⟩ = some (.slice da2 b.dirty.length dc2) ∧ Below (w.heap.size + 2) ((w.alloc (.cells (recC a ta tc da dc) 31)).alloc (.cells (recC b ta2 tc2 da2 dc2) 31)) W) (first | with_reducible assumption | (with_reducible refine HT.out _ ?_; first | with_reducible assumption | exact HK2.out | exact Below.drew HK2.out | exact Below.drew (by with_reducible assumption))) (first | (go_at_call 23; (first | with_reducible refine (HSab.out _ (by first | with_reducible assumption | exact HK2.out | exact Below.drew HK2.out | exact And.right (And.right (And.right (And.right (And.right (And.right (And.right (And.right (And.right (And.right (And.right (And.right (And.right (And.right (And.right (And.right (And.right (And.right (And.right (And.right (And.right (And.right (And.right (And.right (by with_reducible assumption)))))))))))))))))))))))))).mono ?_ | with_reducible refine (HSba.out _ (by first | with_reducible assumption | exact HK2.out | exact Below.drew HK2.out | exact And.right (And.right (And.right (And.right (And.right (And.right (And.right (And.right (And.right (And.right (And.right (And.right (And.right (And.right (And.right (And.right (And.right (And.right (And.right (And.right (And.right (And.right (And.right (And.right (by with_reducible assumption)))))))))))))))))))))))))).mono ?_ | with_reducible refine (HSaa.out _ (by first | with_reducible assumption | exact HK2.out | exact Below.drew HK2.out | exact And.right (And.right (And.right (And.right (And.right (And.right (And.right (And.right (And.right (And.right (And.right (And.right (And.right (And.right (And.right (And.right (And.right (And.right (And.right (And.right (And.right (And.right (And.right (And.right (by with_reducible assumption)))))))))))))))))))))))))).mono ?_ | with_reducible refine (HSbb.out _ (by first | with_reducible assumption | exact HK2.out | exact Below.drew HK2.out | exact And.right (And.right (And.right (And.right (And.right (And.right (And.right (And.right (And.right (And.right (And.right (And.right (And.right (And.right (And.right (And.right (And.right (And.right (And.right (And.right (And.right (And.right (And.right (And.right (by with_reducible assumption)))))))))))))))))))))))))).mono ?_); rintro e wn ⟨rfl, hbn⟩; have hSn := HT.out _ hbn) | (go_at_call 22; refine (HRab.out _ (by first | with_reducible assumption | exact HK2.out | exact Below.drew HK2.out | exact And.right (And.right (And.right (And.right (And.right (And.right (And.right (And.right (And.right (And.right (And.right (And.right (And.right (And.right (And.right (And.right (And.right (And.right (And.right (And.right (And.right (And.right (And.right (And.right (by with_reducible assumption)))))))))))))))))))))))))).mono ?_; rintro e wn ⟨rfl, hbn⟩; have hSn := HT.out _ hbn) | (go_at_call 10; refine (HLv.out _ (by first | with_reducible assumption | exact HK2.out | exact Below.drew HK2.out | exact And.right (And.right (And.right (And.right (And.right (And.right (And.right (And.right (And.right (And.right (And.right (And.right (And.right (And.right (And.right (And.right (And.right (And.right (And.right (And.right (And.right (And.right (And.right (And.right (by with_reducible assumption)))))))))))))))))))))))))).mono ?_; rintro e wn ⟨rfl, hbn⟩; have hSn := HT.out _ hbn))
    all_goals
      go_wp2
      go_ret
      exact ⟨rfl, box2_below hbn⟩

end Go.Proofs.Ytjhjicokbdloiaa
