/-
  The sort of pairs, and its closure.
-/
import Derived.Test.YtebchgoaelamcaaDoorMr
import Derived.Shelf.SlSortCmp.WholeK
import Derived.Shelf.Lay
import Derived.Ground.SlsfProg
import Derived.Sort.Walk0
namespace Go.Proofs.YtebchgoaelamcaaDoor
open Go.Shelf Go.RowKit Go.Lib Go.Sort
set_option maxRecDepth 100000

shelf_lay_g SlLaysF0.n6 Slsf 6 at Tryd 49 as sortPr

def encP (x : Pq) : List Value := [.string (txt x.1), .string (txt x.2)]
def cfP (x y : Pq) : Int := if x.1 < y.1 then -1 else if x.1 = y.1 then 0 else 1
theorem ltP (x y : Pq) : ltOf cfP x y = decide (x.1 < y.1) := by
  unfold ltOf cfP
  by_cases h1 : x.1 < y.1
  · simp [h1]
  · rw [if_neg h1]
    by_cases h2 : x.1 = y.1 <;> simp [h1, h2]
theorem swoP : SWO (ltOf cfP) where
  irrefl x := by rw [ltP]; simp
  trans x y z h1 h2 := by
    rw [ltP] at *
    simp at *
    exact List.lt_trans h1 h2
  ntrans x y z h1 h2 := by
    rw [ltP] at *
    simp at *
    exact List.le_trans h2 h1

set_option maxHeartbeats 1000000 in
theorem nan_any (x : ByteArray) (w : World) : Calls Tryd.prog 71 #[.string x] w fun e w' => e = .returned (.bool false) ∧ w' = w := by
  go_enter Tryd.func71, Tryd.ntmps71
  go_wp2
  go_ret
  exact ⟨rfl, rfl⟩

theorem toList_txt (l : List UInt8) : (txt l).toList = l := by rw [Lib.toList_data]; simp [txt]

set_option maxHeartbeats 1000000 in
theorem cmp_any (x y : Pq) (w : World) : Calls Tryd.prog 51 #[.string (txt x.1), .string (txt y.1)] w fun e w' => e = .returned (.int .i64 (cfP x y)) ∧ w' = w := by
  obtain ⟨b, hb⟩ : ∃ b, Op.bytesLess (txt x.1).toList (txt y.1).toList = b := ⟨_, rfl⟩
  obtain ⟨q, hq⟩ : ∃ q, ((txt x.1).toList == (txt y.1).toList) = q := ⟨_, rfl⟩
  have HV : Hid (cfP x y = if b then -1 else if q then 0 else 1) := by
    show _ = _
    rw [← hb, ← hq, toList_txt, toList_txt, bytesLess_eq]
    unfold cfP
    simp
  cases b
  · cases q
    all_goals
      go_enter Tryd.func51, Tryd.ntmps51
      go_wp2_with (go_at_call 71; refine (nan_any _ _).mono ?_; rintro e w' ⟨rfl, rfl⟩)
      go_ret
      exact ⟨by rw [HV.out]; rfl, rfl⟩
  · go_enter Tryd.func51, Tryd.ntmps51
    go_wp2_with (go_at_call 71; refine (nan_any _ _).mono ?_; rintro e w' ⟨rfl, rfl⟩)
    go_ret
    exact ⟨by rw [HV.out]; rfl, rfl⟩

set_option maxHeartbeats 1000000 in
theorem closure44 (x y : Pq) (W : World) : Calls Tryd.prog 50 #[.agg #[.string (txt x.1), .string (txt x.2)], .agg #[.string (txt y.1), .string (txt y.2)]] W fun e w' => e = .returned (.int .i64 (cfP x y)) ∧ ∃ q os', w' = grow (W.drewN q) os' := by
  have hcon := fun W' => cmp_any x y W'
  generalize cfP x y = r at hcon ⊢
  go_enter Tryd.func50, Tryd.ntmps50
  go_wp2_with (go_at_call 51; refine (hcon _).mono ?_; rintro e w' ⟨rfl, rfl⟩)
  go_ret
  exact ⟨rfl, 0, _, by rw [alloc_eq_grow, alloc_eq_grow, grow_grow]; rfl⟩

theorem cmpLays44 (blk off size : Nat) (w : World) : CmpLays Tryd.prog 50 #[] encP 2 cfP blk off size w :=
  fun _ _ _ _ x y => closure44 x y _

end Go.Proofs.YtebchgoaelamcaaDoor
