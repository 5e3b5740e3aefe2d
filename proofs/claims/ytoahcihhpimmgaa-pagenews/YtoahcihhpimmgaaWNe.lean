/-
  The walk of PageNews.
-/
import Derived.Test.YtoahcihhpimmgaaRg
namespace Go.Proofs.Ytoahcihhpimmgaa
open Go.RowKit

theorem slC_nil (w : World) : SlC w none [] := ⟨fun _ => rfl, fun x hx => by simp at hx⟩

theorem news_walk (id : Int) (w : World) : Calls Try.prog 3 #[.int .i64 id] w fun e w' => e = .returned (.bool true) ∧ Below w.heap.size w w' := by
  by_cases hid : 0 ≤ id ∧ id < 16
  · obtain ⟨n, rfl⟩ := Int.eq_ofNat_of_zero_le hid.1
    go_enter Try.func3, Try.ntmps3
    go_wp2_with fail
    refine Calls.mono (new_yes (n : Int) w hid) ?_
    rintro e w1 ⟨rfl, hw1⟩
    have HP := (show Hid _ from PgOk.new (n : Int) w)
    have HB1 : Hid (Below w.heap.size w w1) := by rw [hw1]; exact (Below.refl _ _).alloc (Nat.le_refl _) _
    rw [← hw1] at HP
    clear hw1
    have hri := (show Hid _ from refid_any (n : Int) w1)
    rw [show (decide (0 ≤ (n : Int)) && decide ((n : Int) < 16)) = true by simp; omega] at hri
    go_wp2_with fail
    refine Calls.mono hri.out ?_
    rintro e w2 ⟨rfl, hw2⟩
    obtain rfl := hw2.symm
    go_wp2_with fail
    refine Calls.mono (alike_any w.heap.size w.heap.size n 0 _ none 0 [] w1 HP.out (slC_nil _) goodL_nil (by omega) (by omega)) ?_
    rintro e w3 ⟨rfl, hb3⟩
    have HB3 := (show Hid _ from below_on HB1.out hb3)
    clear hb3
    go_wp2_with fail
    refine Calls.mono (lives_any _) ?_
    rintro e w4 ⟨rfl, hb4⟩
    have HB4 := (show Hid _ from below_on HB3.out hb4)
    clear hb4
    go_wp2
    go_ret
    exact ⟨rfl, HB4.out⟩
  · go_enter Try.func3, Try.ntmps3
    go_wp2_with fail
    refine Calls.mono (new_no id w hid) ?_
    rintro e w1 ⟨rfl, hw1⟩
    obtain rfl := hw1.symm
    have hri := (show Hid _ from refid_any id w)
    rw [show (decide (0 ≤ id) && decide (id < 16)) = false by simp; omega] at hri
    go_wp2_with fail
    refine Calls.mono hri.out ?_
    rintro e w2 ⟨rfl, hw2⟩
    obtain rfl := hw2.symm
    go_wp2_with fail
    refine Calls.mono (lives_any _) ?_
    rintro e w4 ⟨rfl, hb4⟩
    go_wp2
    go_ret
    exact ⟨rfl, hb4⟩

end Go.Proofs.Ytoahcihhpimmgaa
