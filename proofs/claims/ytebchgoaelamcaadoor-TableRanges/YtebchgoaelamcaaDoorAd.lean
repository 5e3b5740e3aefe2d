/-
  Do.
-/
import Derived.Test.YtebchgoaelamcaaDoorX3
import Derived.Deep.RegionWith
import Derived.Deep.RegionHeld3
namespace Go.Proofs.YtebchgoaelamcaaDoor
open Go.RowKit
set_option maxRecDepth 100000

theorem Touch.pre {w w1 w2 : World} {p : Nat} {o : Option Nat} (h : Below w.heap.size w w1) (k : Touch p o w1 w2) : Touch p o w w2 := (Touch.of h).trans k
theorem Fresh.pre {w w1 : World} {v v' : Value} (h : w.heap.size ≤ w1.heap.size) (k : Fresh w1 v v') : Fresh w v v' := fun i hi => (k i hi).imp id (Nat.le_trans h)

set_option maxHeartbeats 1000000 in
theorem ainsert_any (B p : Nat) (id : Int) (lsn : Nat) (v : Value) (l : List Cl) (a : Ac) (w : World) (h : PgOk w B p id lsn v l) (hg : GoodL l) (hk : a.key.length ≤ maxLen) (hx : a.new.length ≤ maxLen) :
    Calls Tryd.prog 72 #[.pointer (some ⟨p, 0, none⟩), actV a] w fun e w' => e = .returned (.int .i64 (insL l a.key a.new).2) ∧ ∃ v', PgOk w' B p id lsn v' (insL l a.key a.new).1 ∧ Touch p v.ownBlock w w' ∧ Fresh w v v' := by
  obtain ⟨k, x, y, z⟩ := a
  have hB : Below w.heap.size w (w.alloc (.cells (actC ⟨k, x, y, z⟩) 46)) := (Below.refl _ _).alloc (Nat.le_refl _) _
  have HI := (show Hid _ from insert_any B p id lsn v l x z _ (h.below hB (Nat.le_refl _)) hg hk hx)
  have HB := (show Hid _ from hB)
  simp only [actV, actC] at *
  clear h hg hB
  go_enter Tryd.func72, Tryd.ntmps72
  go_wp2_with fail
  refine Calls.mono HI.out ?_
  rintro e w1 ⟨rfl, v', hp, ht, hf⟩
  go_wp2
  go_ret
  exact ⟨rfl, v', hp, Touch.pre HB.out ht, Fresh.pre HB.out.size hf⟩

set_option maxHeartbeats 1000000 in
theorem aupdate_any (B p : Nat) (id : Int) (lsn : Nat) (v : Value) (l : List Cl) (a : Ac) (w : World) (h : PgOk w B p id lsn v l) (hg : GoodL l) (hk : a.key.length ≤ maxLen) (hx : a.new.length ≤ maxLen) (r : List Cl × Int)
    (hr : r = if whyL l a.key a.old ≠ 0 then (l, whyL l a.key a.old) else updL l a.key a.new) :
    Calls Tryd.prog 73 #[.pointer (some ⟨p, 0, none⟩), actV a] w fun e w' => e = .returned (.int .i64 r.2) ∧ ∃ v', PgOk w' B p id lsn v' r.1 ∧ Touch p v.ownBlock w w' ∧ Fresh w v v' := by
  obtain ⟨k, x, y, z⟩ := a
  have hB : Below w.heap.size w (w.alloc (.cells (actC ⟨k, x, y, z⟩) 46)) := (Below.refl _ _).alloc (Nat.le_refl _) _
  have HW := (show Hid _ from whynot_any B p id lsn v l x y _ (h.below hB (Nat.le_refl _)) hg)
  have HP := (show Hid _ from h)
  have HG := (show Hid _ from hg)
  have HB := (show Hid _ from hB)
  simp only [actV, actC] at *
  clear h hg hB
  go_enter Tryd.func73, Tryd.ntmps73
  go_wp2_with fail
  refine Calls.mono HW.out ?_
  rintro e w1 ⟨rfl, hb1⟩
  have k0 := box_in hb1
  obtain ⟨c0, c1, c2, c3, f0, f1, f2, f3, hz⟩ := cell4 k0
  have HB1 := (show Hid _ from below_on HB.out hb1)
  have HP1 := (show Hid _ from HP.out.below HB1.out (Nat.le_refl _))
  clear hb1 k0 HW HB
  by_cases h0 : whyL l x y = 0
  · have HE : Hid (r = updL l x z) := by show _ = _; rw [hr, if_neg (by simp [h0])]
    have h0' : (whyL l x y == 0) = true := by simp [h0]
    have HU := (show Hid _ from update_any B p id lsn v l x z _ HP1.out HG.out hk hx)
    rw [h0]
    clear h0 h0' hr
    go_wp2_with fail
    refine Calls.mono HU.out ?_
    rintro e w2 ⟨rfl, hp, ht⟩
    go_wp2
    go_ret
    rw [HE.out]
    exact ⟨rfl, v, hp, Touch.pre HB1.out ht, Fresh.refl _ _⟩
  · have HE : Hid (r = (l, whyL l x y)) := by show _ = _; rw [hr, if_pos h0]
    have h0' : (whyL l x y == 0) = false := by simp [h0]
    clear h0 hr
    go_wp2
    go_ret
    rw [HE.out]
    exact ⟨rfl, v, HP1.out, Touch.of HB1.out, Fresh.refl _ _⟩

set_option maxHeartbeats 1000000 in
theorem aremove_any (B p : Nat) (id : Int) (lsn : Nat) (v : Value) (l : List Cl) (a : Ac) (w : World) (h : PgOk w B p id lsn v l) (hg : GoodL l) (r : List Cl × Int)
    (hr : r = if whyL l a.key a.old ≠ 0 then (l, whyL l a.key a.old) else delL l a.key) :
    Calls Tryd.prog 74 #[.pointer (some ⟨p, 0, none⟩), actV a] w fun e w' => e = .returned (.int .i64 r.2) ∧ ∃ v', PgOk w' B p id lsn v' r.1 ∧ Touch p v.ownBlock w w' ∧ Fresh w v v' := by
  obtain ⟨k, x, y, z⟩ := a
  have hB : Below w.heap.size w (w.alloc (.cells (actC ⟨k, x, y, z⟩) 46)) := (Below.refl _ _).alloc (Nat.le_refl _) _
  have HW := (show Hid _ from whynot_any B p id lsn v l x y _ (h.below hB (Nat.le_refl _)) hg)
  have HP := (show Hid _ from h)
  have HG := (show Hid _ from hg)
  have HB := (show Hid _ from hB)
  simp only [actV, actC] at *
  clear h hg hB
  go_enter Tryd.func74, Tryd.ntmps74
  go_wp2_with fail
  refine Calls.mono HW.out ?_
  rintro e w1 ⟨rfl, hb1⟩
  have k0 := box_in hb1
  obtain ⟨c0, c1, c2, c3, f0, f1, f2, f3, hz⟩ := cell4 k0
  have HB1 := (show Hid _ from below_on HB.out hb1)
  have HP1 := (show Hid _ from HP.out.below HB1.out (Nat.le_refl _))
  clear hb1 k0 HW HB
  by_cases h0 : whyL l x y = 0
  · have HE : Hid (r = delL l x) := by show _ = _; rw [hr, if_neg (by simp [h0])]
    have HU := (show Hid _ from delete_any B p id lsn v l x _ HP1.out HG.out)
    rw [h0]
    clear h0 hr
    go_wp2_with fail
    refine Calls.mono HU.out ?_
    rintro e w2 ⟨rfl, v', hp, ht, he⟩
    go_wp2
    go_ret
    rw [HE.out]
    exact ⟨rfl, v', hp, Touch.pre HB1.out ht, fun j hj => .inl (by rw [← he]; exact hj)⟩
  · have HE : Hid (r = (l, whyL l x y)) := by show _ = _; rw [hr, if_pos h0]
    have h0' : (whyL l x y == 0) = false := by simp [h0]
    clear h0 hr
    go_wp2
    go_ret
    rw [HE.out]
    exact ⟨rfl, v, HP1.out, Touch.of HB1.out, Fresh.refl _ _⟩

end Go.Proofs.YtebchgoaelamcaaDoor
