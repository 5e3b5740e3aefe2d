/-
  The walk of lives.
-/
import Derived.Test.YtamkfcdehkdcpaaAe
namespace Go.Proofs.Ytamkfcdehkdcpaa
open Go.RowKit

theorem PgOk.touched {w w' : World} {B p : Nat} {id : Int} {lsn : Nat} {v : Value} {l : List Cl} (h : PgOk w B p id lsn v l) (ht : Touch p v.ownBlock w w') : Below B w w' :=
  ht.below h.base (fun k hk => (h.own.lt k hk).1) (by have := lt_of_blk h.blk; have := h.base; omega)

theorem do_ax : doL [] ⟨1, [97], [], [120]⟩ = ([⟨true, [97], [120]⟩], 0) := by decide
theorem do_ay : doL [⟨true, [97], [120]⟩] ⟨3, [97], [121], []⟩ = ([⟨true, [97], [120]⟩], 10) := by decide
theorem good_ax : GoodL [⟨true, [97], [120]⟩] := by have := do_good goodL_nil ⟨1, [97], [], [120]⟩; rw [do_ax] at this; exact this
theorem turn_ax : turnA ⟨2, [97], [120], [121]⟩ = ⟨2, [97], [121], [120]⟩ := by decide

set_option maxRecDepth 20000 in
set_option maxHeartbeats 1000000 in
theorem lives_any (w : World) : Calls Try.prog 11 #[] w fun e w' => e = .returned (.bool true) ∧ Below w.heap.size w w' := by
  go_enter Try.func11, Try.ntmps11
  go_wp2_with fail
  refine Calls.mono (new_yes 0 w (by decide)) ?_
  rintro e w1 ⟨rfl, rfl⟩
  have HP0 := (show Hid _ from PgOk.new 0 w)
  have HX := (show Hid _ from do_any w.heap.size w.heap.size 0 0 _ [] ⟨1, [97], [], [120]⟩ _ HP0.out goodL_nil)
  rw [do_ax] at HX
  go_wp2_with fail
  refine Calls.mono HX.out ?_
  rintro e w2 ⟨rfl, v2, hp2, ht2, hf2⟩
  have HB2 : Hid (Below w.heap.size w w2) := ((Below.refl _ _).alloc (Nat.le_refl _) _).trans (HP0.out.touched ht2)
  have HP2 := (show Hid _ from hp2)
  clear hp2 ht2 hf2 HP0 HX
  go_wp2_with fail
  have HT := (show Hid _ from turn_any ⟨2, [97], [120], [121]⟩)
  rw [turn_ax] at HT
  refine Calls.mono (HT.out _) ?_
  rintro e w3 ⟨rfl, hb3⟩
  have HB3 := (show Hid _ from below_on HB2.out hb3)
  have HP3 := (show Hid _ from HP2.out.below hb3 (Nat.le_refl _))
  clear hb3 HT
  simp only [actV, actC]
  go_wp2_with fail
  have hB4 : Below w3.heap.size w3 (w3.alloc (.cells (actC ⟨2, [97], [121], [120]⟩) 35)) := (Below.refl _ _).alloc (Nat.le_refl _) _
  have hk4 : (w3.alloc (.cells (actC ⟨2, [97], [121], [120]⟩) 35)).heap[w3.heap.size]? = some (.cells (actC ⟨2, [97], [121], [120]⟩) 35) := heap_alloc_new _ _
  have HB4 := (show Hid _ from below_on HB3.out hB4)
  have HP4 := (show Hid _ from HP3.out.below hB4 (Nat.le_refl _))
  have HK4 := (show Hid _ from hk4)
  have HNE : Hid (w3.heap.size ≠ w.heap.size ∧ v2.ownBlock ≠ some w3.heap.size) := ⟨by have := lt_of_blk HP3.out.blk; omega, fun e => by have := ownsRow_lt HP3.out.own _ e; omega⟩
  clear hB4 hk4
  have HY := (show Hid _ from do_any w.heap.size w.heap.size 0 0 v2 _ ⟨3, [97], [121], []⟩ _ HP4.out good_ax)
  rw [do_ay] at HY
  refine Calls.mono HY.out ?_
  rintro e w5 ⟨rfl, v5, hp5, ht5, _⟩
  have HB5 : Hid (Below w.heap.size w w5) := HB4.out.trans (HP4.out.touched ht5)
  have hk5 := ht5.kept HK4.out HNE.out.1 HNE.out.2
  obtain ⟨c0, c1, c2, c3, f0, f1, f2, f3, hz⟩ := cell4 hk5
  clear hk5 ht5 hp5
  have e1 : (txt [121]).toList = [121] := txt_toList _
  have e2 : (txt [120]).toList = [120] := txt_toList _
  go_wp2
  go_ret
  exact ⟨rfl, HB5.out⟩

end Go.Proofs.Ytamkfcdehkdcpaa
