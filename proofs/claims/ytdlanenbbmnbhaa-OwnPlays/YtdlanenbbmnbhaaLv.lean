/-
  The chapter's example.
-/
import Derived.Test.YtdlanenbbmnbhaaCn
import Derived.Test.YtdlanenbbmnbhaaCf
namespace Go.Proofs.Ytdlanenbbmnbhaa
open Go.RowKit

def l1 : List Lf := [⟨false, 1, false, false, []⟩, ⟨false, 0, false, false, []⟩]
def l2 : List Lf := [⟨false, 1, false, true, [2]⟩, ⟨false, 0, false, false, []⟩]
def l3 : List Lf := [⟨false, 2, false, false, []⟩, ⟨false, 0, false, false, []⟩]
theorem need1 : needL (newL 2 []) 0 1 = (l1, [⟨1, 0, 0, 1, false⟩], 0) := by decide +kernel
theorem need2 : needL l1 0 2 = (l2, [⟨2, 0, 1, 2, false⟩], 0) := by decide +kernel
theorem back3 : backL l2 0 1 = (l3, [⟨1, 0, 0, 2, false⟩], 0) := by decide +kernel
theorem l1_ok : BkOk l1 := by have := need_ok (new_ok 2 []) 0 1; rw [need1] at this; exact this
theorem l2_ok : BkOk l2 := by have := need_ok l1_ok 0 2; rw [need2] at this; exact this

theorem lives_any (w : World) : Calls Try.prog 9 #[] w fun e w' => e = .returned (.bool true) ∧ Below w.heap.size w w' := by
  have HN := toHid (new_yes 2 none 0 [] w (by omega) (by omega) (by simp) ⟨fun j hj => by simp at hj⟩)
  go_enter Try.func9, Try.ntmps9
  go_wp2_with fail
  refine Calls.mono HN.out ?_
  rintro e w1 ⟨⟨p, q, rfl, hb, hp, hq⟩, hB⟩
  have hq1 : q < w1.heap.size := hb.lt.2.1
  have HA := toHid (need_any p q _ 0 1 w1 hb (new_ok 2 []))
  rw [need1] at HA
  clear HN hb
  go_wp2_with fail
  refine Calls.mono HA.out ?_
  rintro e w2 ⟨⟨v, rfl, a1, c1, rfl, s1, n1⟩, hb, ho⟩
  simp only at s1 n1 hb
  have HB := toHid (need_any p q _ 0 2 w2 hb l1_ok)
  rw [need2] at HB
  have HO := toHid ho
  have HS1 := toHid s1
  have HN1 := toHid n1
  have hz1 := hB.size
  have hz2 := ho.size
  clear HA hb s1 n1 ho
  go_wp2_with fail
  refine Calls.mono HB.out ?_
  rintro e w3 ⟨⟨v, rfl, a2, c2, rfl, s2, n2⟩, hb, ho⟩
  simp only at s2 n2 hb
  have HC := toHid (back_any p q _ 0 1 w3 hb l2_ok)
  rw [back3] at HC
  have HO2 := toHid ho
  have HS2 := toHid s2
  have HN2 := toHid n2
  have hz3 := ho.size
  clear HB hb s2 n2 ho
  go_wp2_with fail
  refine Calls.mono HC.out ?_
  rintro e w4 ⟨⟨v, rfl, a3, c3, rfl, s3, n3⟩, hb, ho⟩
  simp only at s3 n3
  have HBel : Hid (Below w.heap.size w w4) := toHid (hB.trans ((HO.out.trans (HO2.out.trans ho)).below hq hz1))
  have t1 := (HS1.out.one (HO2.out.trans ho) (fun x hx => by have := HN1.out x hx; omega)).at 0 (by simp)
  have t2 := (HS2.out.one ho (fun x hx => by have := HN2.out x hx; omega)).at 0 (by simp)
  have t3 := s3.at 0 (by simp)
  simp only [List.getElem_cons_zero, Nat.zero_mul, Nat.add_zero] at t1 t2 t3
  obtain ⟨b1, o1, rfl, -, x0, x1, x2, x3, x4⟩ := t1
  obtain ⟨b2, o2, rfl, -, y0, y1, y2, y3, y4⟩ := t2
  obtain ⟨b3, o3, rfl, -, z0, z1, z2, z3, z4⟩ := t3
  clear HC hb s3 n3 ho HO HO2 HS1 HS2 HN1 HN2 hB
  go_wp2
  go_ret
  exact ⟨rfl, HBel.out⟩
end Go.Proofs.Ytdlanenbbmnbhaa
