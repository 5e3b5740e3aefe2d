/-
  The walks of lives and of made.
-/
import Derived.Test.YtoahcihhpimmgaaBe
namespace Go.Proofs.Ytoahcihhpimmgaa
open Go.RowKit

theorem PgOk.touched {w w' : World} {B p : Nat} {id : Int} {lsn : Nat} {v : Value} {l : List Cl} (h : PgOk w B p id lsn v l) (ht : Touch p v.ownBlock w w') : Below B w w' :=
  ht.below h.base (fun k hk => (h.own.lt k hk).1) (by have := lt_of_blk h.blk; have := h.base; omega)

theorem ins_ax : insL [] [97] [120] = ([⟨true, [97], [120]⟩], 0) := by decide
theorem good_ax : GoodL [⟨true, [97], [120]⟩] := by have := ins_good goodL_nil [97] [120]; rw [ins_ax] at this; exact this
theorem get_ax : getL [⟨true, [97], [120]⟩] [97] = some [120] := by decide
theorem free_ax : freeL [⟨true, [97], [120]⟩] = 489 := by decide

set_option maxRecDepth 20000 in
set_option maxHeartbeats 1000000 in
theorem lives_any (w : World) : Calls Try.prog 11 #[] w fun e w' => e = .returned (.bool true) ∧ Below w.heap.size w w' := by
  go_enter Try.func11, Try.ntmps11
  go_wp2_with fail
  refine Calls.mono (new_yes 3 w (by decide)) ?_
  rintro e w1 ⟨rfl, rfl⟩
  have HP0 := (show Hid _ from PgOk.new 3 w)
  go_wp2_with fail
  have HX := insert_any w.heap.size w.heap.size 3 0 _ [] [97] [120] _ HP0.out goodL_nil (by decide) (by decide)
  rw [ins_ax] at HX
  refine Calls.mono HX ?_
  rintro e w2 ⟨rfl, v2, hp2, ht2, hf2⟩
  have HB2 : Hid (Below w.heap.size w w2) := ((Below.refl _ _).alloc (Nat.le_refl _) _).trans (HP0.out.touched ht2)
  have HP2 := (show Hid _ from hp2)
  clear hp2 ht2 hf2 HP0 HX
  go_wp2_with fail
  have HY := get_any w.heap.size w.heap.size 3 0 v2 _ [97] _ HP2.out (by decide)
  rw [get_ax] at HY
  refine Calls.mono HY ?_
  rintro e w3 ⟨rfl, hb3⟩
  have HP3 := (show Hid _ from HP2.out.below hb3 (Nat.le_refl _))
  have HB3 := (show Hid _ from below_on HB2.out hb3)
  have etx : (txt [120]).toList = [120] := txt_toList _
  clear hb3 HY
  simp only [Option.getD_some, Option.isSome_some]
  go_wp2_with fail
  have HZ := free_any w.heap.size w.heap.size 3 0 v2 _ _ HP3.out good_ax
  rw [free_ax] at HZ
  refine Calls.mono HZ ?_
  rintro e w4 ⟨rfl, hb4⟩
  have HP4 := (show Hid _ from HP3.out.below hb4 (Nat.le_refl _))
  have HB4 := (show Hid _ from below_on HB3.out hb4)
  clear hb4 HZ
  go_wp2_with fail
  refine Calls.mono (bytes_any w.heap.size w.heap.size 3 0 v2 _ _ HP4.out good_ax (by decide)) ?_
  rintro e w5 ⟨G, rfl, _, _, hb5⟩
  have HB5 := (show Hid _ from below_on HB4.out hb5)
  go_wp2
  go_ret
  exact ⟨rfl, HB5.out⟩

end Go.Proofs.Ytoahcihhpimmgaa
