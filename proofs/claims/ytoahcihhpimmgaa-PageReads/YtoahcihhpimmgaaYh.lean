/-
  PageReads: the document's slot.
-/
import Derived.Test.YtoahcihhpimmgaaYg
import Derived.Deep.QuietTactic
import Derived.BigQuiet
namespace Go.Proofs.Ytoahcihhpimmgaa
open Go.RowKit

def Ret50 (b : List UInt8) (at_ : Nat) (w w' : World) (e : Ending) : Prop := e = .returned (.tuple #[.agg (cellV (refSlot b at_).1), .bool (refSlot b at_).2]) ∧ Below w.heap.size w w'

set_option maxRecDepth 20000 in
set_option maxHeartbeats 4000000 in
theorem refslot_any (b : List UInt8) (at_ : Nat) (w : World) (hb : b.length = 512) (ha : at_ + 4 ≤ 512) :
    Calls Try.prog 50 #[.string (txt b), .int .i64 at_] w fun e w' => Ret50 b at_ w w' e := by
  have hsz := txt_size b
  rw [hb] at hsz
  obtain ⟨f, hf⟩ : ∃ f, leV ((b.drop at_).take 2) = f := ⟨_, rfl⟩
  obtain ⟨n, hn⟩ : ∃ n, leV ((b.drop (at_ + 2)).take 2) = n := ⟨_, rfl⟩
  have hfl : f < 65536 := by
    have := leV_lt ((b.drop at_).take 2)
    rw [hf, two_at b at_ (by omega)] at this
    simpa using this
  have hnl : n < 65536 := by
    have := leV_lt ((b.drop (at_ + 2)).take 2)
    rw [hn, two_at b (at_ + 2) (by omega)] at this
    simpa using this
  have H1 : Hid (∀ W, Calls Try.prog 49 #[.string (txt b), .int .i64 at_, .int .i64 2] W fun e w' => e = .returned (.int .i64 (f : Int)) ∧ w' = W) := fun W => num2_txt b at_ f W (by omega) (by omega) hf
  have H2 : Hid (∀ W, Calls Try.prog 49 #[.string (txt b), .int .i64 ((at_ + 2 : Nat) : Int), .int .i64 2] W fun e w' => e = .returned (.int .i64 (n : Int)) ∧ w' = W) := fun W => num2_txt b (at_ + 2) n W (by omega) (by omega) hn
  have HR : Hid (refSlot b at_ = if n = 0 then (Cl.none, decide (f = 0)) else if 512 < f + n then (Cl.none, false) else refCell ((b.drop f).take n)) := by
    show refSlot b at_ = _
    unfold refSlot
    rw [hf, hn]
  have HBq : ∀ m, Below w.heap.size w ((w.alloc (.cells #[.bool false, .string ⟨#[]⟩, .string ⟨#[]⟩] 65)).drewN m) := fun m => ((Below.refl w.heap.size w).alloc (Nat.le_refl _) _).trans ⟨rfl, rfl, rfl, Nat.le_refl _, fun _ _ => rfl⟩
  clear hf hn
  go_enter Try.func50, Try.ntmps50
  go_wp2_with fail
  refine Calls.mono (H1.out _) ?_
  rintro e w1 ⟨rfl, hw⟩
  obtain rfl := hw.symm
  go_wp2_with fail
  rw [show ((at_ : Int) + 2) = ((at_ + 2 : Nat) : Int) by push_cast; rfl]
  refine Calls.mono (H2.out _) ?_
  rintro e w2 ⟨rfl, hw⟩
  obtain rfl := hw.symm
  by_cases hn0 : n = 0
  · subst hn0
    go_wp2
    refine bodyPost_ret (v := .tuple #[.agg (cellV Cl.none), .bool (decide (f = 0))]) ?_ rfl ⟨by rw [HR.out]; simp, (Below.refl _ _).alloc (Nat.le_refl _) _⟩
    have hd : ((f : Int) == 0) = decide (f = 0) := by rw [Bool.eq_iff_iff]; simp
    simp [results, Try.results50, go_sem, cellV, Cl.none, txt, hd]
  · have hne : ((n : Int) == 0) = false := by simp; omega
    by_cases hgt : 512 < f + n
    · have hgt' : (512 : Int) < (f : Int) + (n : Int) := by omega
      go_wp2
      refine bodyPost_ret (v := .tuple #[.agg (cellV Cl.none), .bool false]) ?_ rfl ⟨by rw [HR.out]; simp [hn0, hgt], (Below.refl _ _).alloc (Nat.le_refl _) _⟩
      simp [results, Try.results50, go_sem, cellV, Cl.none, txt]
    · have hgt' : (f : Int) + (n : Int) ≤ 512 := by omega
      obtain ⟨k0, r, hkr⟩ : ∃ k0 r, (b.drop f).take n = k0 :: r := by
        cases hc : (b.drop f).take n with
        | nil => have := congrArg List.length hc; simp at this; omega
        | cons k0 r => exact ⟨k0, r, rfl⟩
      have hrl : r.length + 1 = n := by have := congrArg List.length hkr; simp at this; omega
      have hx : (txt b).extract f (f + n) = txt (k0 :: r) := by rw [txt_extract, Nat.add_sub_cancel_left, hkr]
      have hR : Hid (refSlot b at_ = refCell (k0 :: r)) := by show refSlot b at_ = _; rw [HR.out, if_neg hn0, if_neg hgt, hkr]
      have hk0 := k0.toNat_lt
      have hxs : (txt (k0 :: r)).size = n := by rw [txt_size]; exact hrl
      obtain ⟨q, hq⟩ : ∃ q : Nat, k0.toNat = q := ⟨_, rfl⟩
      have hx0 : (((txt (k0 :: r))[0]'(by rw [hxs]; omega)).toNat : Int) = (q : Int) := by rw [← hq]; rfl
      have hxg : ∀ h, ((txt (k0 :: r))[0]'h).toNat = q := fun _ => hq
      have hnp : (0 : Int) < (n : Int) := by omega
      have hwk : IntKind.i64.wrap (q : Int) = (q : Int) := by simp [IntKind.wrap, IntKind.bits, IntKind.signed]; omega
      by_cases hlk : r.length < k0.toNat
      · have hd : (n : Int) < 1 + (q : Int) := by omega
        go_wp2_with fail
        have hdd : decide ((n : Int) < 1 + (q : Int)) = true := by simpa using hd
        go_quiet (fail)
        go_wp2
        refine bodyPost_ret (v := .tuple #[.agg (cellV Cl.none), .bool false]) ?_ rfl ⟨by rw [hR.out]; simp [refCell, hlk], ?_⟩
        · simp [results, Try.results50, go_sem, cellV, Cl.none, txt]
        · first | exact HBq _ | exact (((HBq _).setCell (Nat.le_refl _) _).setCell (Nat.le_refl _) _).setCell (Nat.le_refl _) _
      · have hd : ¬ (n : Int) < 1 + (q : Int) := by omega
        have hd' : (1 : Int) + (q : Int) ≤ (n : Int) := by omega
        have hdd : decide ((n : Int) < 1 + (q : Int)) = false := by simpa using hd
        have x1 : (txt (k0 :: r)).extract 1 (1 + q) = txt (r.take q) := by rw [txt_extract, Nat.add_sub_cancel_left]; rfl
        have x2 : (txt (k0 :: r)).extract (1 + q) n = txt (r.drop q) := by
          rw [txt_extract, Nat.add_comm 1 q, List.drop_succ_cons, List.take_of_length_le (by rw [List.length_drop]; omega)]
        have HM : Hid (∀ W, Calls Try.prog 64 #[.string (txt (r.take q)), .string (txt (r.drop q))] W fun e w' => e = .returned (.bool (mayK (r.take q) (r.drop q))) ∧ w' = W) := fun W => refmay_any _ _ W
        have t1 : (1 + (q : Int)).toNat = 1 + q := by omega
        have g1 : (1 : Int) ≤ 1 + (q : Int) := by omega
        cases hm : mayK (r.take q) (r.drop q) with
        | true =>
          rw [hm] at HM
          go_wp2_with fail
          go_quiet ((go_at_call 64; exact Calls.quiet_of_same (HM.out _)))
          go_wp2_with fail
          go_region
          all_goals
            go_wp2
            refine bodyPost_ret (v := .tuple #[.agg (cellV ⟨true, r.take q, r.drop q⟩), .bool true]) ?_ rfl ⟨by rw [hR.out]; simp only [refCell]; rw [if_neg hlk, hq, hm]; rfl, ?_⟩
            · simp [results, Try.results50, go_sem, cellV]
            · exact (((HBq _).setCell (Nat.le_refl _) _).setCell (Nat.le_refl _) _).setCell (Nat.le_refl _) _
        | false =>
          rw [hm] at HM
          go_wp2_with fail
          go_quiet ((go_at_call 64; exact Calls.quiet_of_same (HM.out _)))
          go_wp2
          refine bodyPost_ret (v := .tuple #[.agg (cellV Cl.none), .bool false]) ?_ rfl ⟨by rw [hR.out]; simp only [refCell]; rw [if_neg hlk, hq, hm]; rfl, ?_⟩
          · simp [results, Try.results50, go_sem, cellV, Cl.none, txt]
          · first | exact HBq _ | exact (((HBq _).setCell (Nat.le_refl _) _).setCell (Nat.le_refl _) _).setCell (Nat.le_refl _) _

end Go.Proofs.Ytoahcihhpimmgaa
