/-
  The walk of NetLooks.
-/
import Derived.Test.YtfdpmffoajjchaaLc
namespace Go.Proofs.Ytfdpmffoajjchaa
open Go.RowKit Go.Conc

set_option maxRecDepth 100000 in
set_option maxHeartbeats 3000000 in
theorem looks_in (n : Nat) (inst : Int) (a : Option Addr) (c : Nat) (l : List Op1) (w : World) (hops : SlO w a l) (hn : 1 ≤ n) (hn8 : n ≤ 8) (hi1 : 1 ≤ inst) (hi2 : inst ≤ n) :
    Calls Try.prog 8 #[.int .i64 n, .slice a l.length c, .int .i64 inst] w fun e w' => e = .returned (.bool true) ∧ Below w.heap.size w w' := by
  have HR := toHid (rix_up hi1 hi2)
  have HK := toHid (rix_lt (rix_up hi1 hi2))
  have HS := toHid hops
  have HL := toHid lives17
  have hi3 : ¬ inst < 1 := by omega
  have hi4 : ¬ (n : Int) < inst := by omega
  generalize inst.toNat - 1 = k at HR HK
  clear hi1 hi2 hops
  go_enter Try.func8, Try.ntmps8
  go_wp2_with fail
  go_at_call 9
  refine Calls.mono (new_yes w n hn hn8) ?_
  rintro e w1 ⟨rfl, hN1, hB1, hz1⟩
  have HN1 := toHid hN1
  have HB1 := toHid hB1
  clear hN1 hB1 hz1
  go_wp2_with fail
  refine wp164 rfl rfl (loop8a_wp w w.heap.size n a l c inst HS.out (Nat.le_refl _) _ w1 ⟨rfl, rfl, rfl, rfl⟩ _ HN1.out (fun j _ b hb => by simp at hb) HB1.out _ ?_ ?_)
  · intro ch A W h
    obtain ⟨_, h, _⟩ := h
    cases h
  intro u' W' R k2 k7 hN hG hB
  obtain ⟨ms, hM⟩ := rowM_of (W := W') (R k) (fun b hb => hG k HK.out b hb)
  have HM := toHid hM
  have HN := toHid hN
  have HB := toHid hB
  have HLm : Hid (∀ m, m ∈ ms → Lim m) := fun m hm => by
    obtain ⟨i, hi, rfl⟩ := List.mem_iff_getElem.1 hm
    have hl := hM.len
    exact (hM.each i _ _ (List.getElem?_eq_getElem (by omega)) (List.getElem?_eq_getElem hi)).1
  have h256 : ms.length ≤ 256 := by rw [← hM.len]; exact hN.len k HK.out
  have HLE := toHid hM.len
  obtain ⟨al, hal⟩ : ∃ x, x = sumR n R n := ⟨_, rfl⟩
  have hal5 : al ≤ 5000 := by rw [hal]; have := sumR_le hN.len n (Nat.le_refl _); omega
  have hsub : sumR n (upd R k []) n + ms.length = al := by
    have := sumR_set (n := n) (R := R) (k := k) (l := []) HK.out
    rw [hM.len] at this
    simp only [List.length_nil, Nat.add_zero] at this
    rw [hal]
    exact this
  have HAL : Hid (sumR n R n = al) := hal.symm
  have HSUB := toHid hsub
  have hle : ms.length ≤ al := by omega
  clear hM hN hB hG hal hsub
  rw [frame_open164, k2, k7]
  clear k2 k7
  go_wp2_with fail
  go_at_call 14
  refine Calls.mono (sum_any HN.out) ?_
  rintro e w2 ⟨rfl, q2, hw2⟩
  have HN2 : Hid (NetOk w2 w.heap.size n R) := by rw [hw2]; exact HN.out.drew q2
  have HB2 : Hid (Below w.heap.size w w2) := by rw [hw2]; exact below_drewN HB.out q2
  have HM2 : Hid (RowM w2 (R k) ms) := by rw [hw2]; exact HM.out.keep (fun _ _ _ _ h => h)
  rw [HAL.out]
  clear hw2
  go_wp2_with fail
  go_at_call 16
  refine Calls.mono (peek_row HN2.out inst 0 HR.out HM2.out) ?_
  rintro e w3 ⟨v3, ps3, rfl, hA3, hN3, hT3⟩
  have HA3 := toHid hA3
  have HN3 := toHid hN3
  have HB3 := toHid (hT3.to HB2.out (Nat.le_refl _) HB2.out.size)
  have HM3 := toHid (HM2.out.keep (hT3.keepC HN2.out))
  clear hA3 hN3 hT3
  go_wp2_with fail
  go_at_call 16
  refine Calls.mono (peek_row HN3.out inst 0 HR.out HM3.out) ?_
  rintro e w4 ⟨v4, ps4, rfl, hA4, hN4, hT4⟩
  have HA4 := toHid hA4
  have HN4 := toHid hN4
  have HB4 := toHid (hT4.to HB3.out (Nat.le_refl _) HB3.out.size)
  have HM4 := toHid (HM3.out.keep (hT4.keepC HN3.out))
  have HA34 := toHid (HA3.out.keep (hT4.keepC HN3.out))
  clear hA4 hN4 hT4
  go_wp2_with fail
  go_at_call 24
  refine Calls.mono (sameAll24 v3 v4 _ _ ms ps3 ps4 w4 HA34.out HA4.out HLm.out (by omega)) ?_
  rintro e w5 ⟨rfl, hB5⟩
  have HN5 := toHid (HN4.out.below hB5)
  have HB5 := toHid (HB4.out.trans (hB5.mono HB4.out.size))
  have HM5 := toHid (HM4.out.keep (KeepC.below hB5))
  have HA5 := toHid (HA34.out.keep (KeepC.below hB5))
  obtain ⟨a3, c3, rfl⟩ := HA5.out.shape
  clear hB5
  go_wp2_with fail
  go_at_call 14
  refine Calls.mono (sum_any HN5.out) ?_
  rintro e w6 ⟨rfl, q6, hw6⟩
  have HN6 : Hid (NetOk w6 w.heap.size n R) := by rw [hw6]; exact HN5.out.drew q6
  have HB6 : Hid (Below w.heap.size w w6) := by rw [hw6]; exact below_drewN HB5.out q6
  have HM6 : Hid (RowM w6 (R k) ms) := by rw [hw6]; exact HM5.out.keep (fun _ _ _ _ h => h)
  have HA6 : Hid (AllR w6 w2.heap.size (.slice a3 ms.length c3) ms ps3) := by rw [hw6]; exact HA5.out.keep (fun _ _ _ _ h => h)
  rw [HAL.out]
  clear hw6
  go_wp2_with fail
  go_at_call 13
  refine Calls.mono (len_any _ _ n _ HN6.out inst 0) ?_
  rintro e w7 ⟨rfl, hw7⟩
  obtain rfl := hw7.symm
  have e7 : lenO R (rix n inst 0) = ms.length := by rw [HR.out]; exact HLE.out
  rw [e7]
  clear e7
  go_wp2_with fail
  refine wp164 rfl rfl (loop8b_wp w w6 w.heap.size n k w2.heap.size inst al R ms ps3 a3 c3 ⟨HN6.out, HM6.out, HA6.out, HB6.out, Nat.le_refl _, HK.out⟩ HR.out _ w6 ⟨rfl, rfl, rfl, rfl, rfl⟩ HN6.out (Tn.refl _ _ _) HB6.out _ ?_)
  intro u8 w8 hu8 hN8 hB8
  have HN8 := toHid hN8
  have HB8 := toHid hB8
  obtain ⟨k2, k7, k10, k11, k13⟩ := hu8
  rw [frame_open164, k2, k7, k10, k11, k13]
  clear k2 k7 k10 k11 k13 hN8 hB8
  go_wp2_with fail
  go_at_call 10
  refine Calls.mono (take_e HN8.out inst 0 HR.out (upd_same _ _ _)) ?_
  rintro e w9 ⟨rfl, hB9⟩
  have hbx : Below w9.heap.size w9 (w9.alloc (.cells zeroC 31)) := (Below.refl _ _).alloc (Nat.le_refl _) _
  have HN9 := toHid ((HN8.out.below hB9).below hbx)
  have HB9 := toHid ((HB8.out.trans (hB9.mono HB8.out.size)).trans (hbx.mono (HB8.out.trans (hB9.mono HB8.out.size)).size))
  clear hB9 hbx
  go_wp2_with fail
  go_at_call 14
  refine Calls.mono (sum_any HN9.out) ?_
  rintro e w10 ⟨rfl, q10, hw10⟩
  have HB10 : Hid (Below w.heap.size w w10) := by rw [hw10]; exact below_drewN HB9.out q10
  clear hw10
  have e10 : ((sumR n (upd R k []) n : Nat) : Int) = (al : Int) - (ms.length : Int) := by have := HSUB.out; omega
  rw [e10]
  clear e10
  go_wp2_with fail
  go_at_call 17
  refine Calls.mono (HL.out _) ?_
  rintro e w12 ⟨rfl, hB12⟩
  have HB12 := toHid (HB10.out.trans (hB12.mono HB10.out.size))
  clear hB12
  go_wp2_with fail
  go_ret
  exact ⟨rfl, HB12.out⟩

set_option maxRecDepth 100000 in
set_option maxHeartbeats 3000000 in
theorem looks_out0 (inst : Int) (n : Int) (hn : n < 1 ∨ 8 < n) (a : Option Addr) (c : Nat) (l : List Op1) (w : World) :
    Calls Try.prog 8 #[.int .i64 n, .slice a l.length c, .int .i64 inst] w fun e w' => e = .returned (.bool true) ∧ Below w.heap.size w w' := by
  have HL := toHid lives17
  go_enter Try.func8, Try.ntmps8
  go_wp2_with fail
  go_at_call 9
  refine Calls.mono (new_no w n hn) ?_
  rintro e w3 ⟨rfl, hw3⟩
  obtain rfl := hw3.symm
  have HB3 : Hid (Below w.heap.size w w) := Below.refl _ _
  go_wp2_with fail
  go_at_call 17
  refine Calls.mono (HL.out _) ?_
  rintro e w4 ⟨rfl, hB4⟩
  have HB4 := toHid (HB3.out.trans (hB4.mono HB3.out.size))
  clear hB4
  go_wp2_with fail
  go_ret
  exact ⟨rfl, HB4.out⟩

set_option maxRecDepth 100000 in
set_option maxHeartbeats 3000000 in
theorem looks_out1 (inst : Int) (m : Nat) (hm : 1 ≤ m) (hm8 : m ≤ 8) (hi : inst < 1) (a : Option Addr) (c : Nat) (l : List Op1) (w : World) :
    Calls Try.prog 8 #[.int .i64 m, .slice a l.length c, .int .i64 inst] w fun e w' => e = .returned (.bool true) ∧ Below w.heap.size w w' := by
  have HL := toHid lives17
  go_enter Try.func8, Try.ntmps8
  go_wp2_with fail
  go_at_call 9
  refine Calls.mono (new_yes w m hm hm8) ?_
  rintro e w3 ⟨rfl, hN3, hB3, hz3⟩
  have HB3 := toHid hB3
  clear hN3 hB3 hz3
  go_wp2_with fail
  go_at_call 17
  refine Calls.mono (HL.out _) ?_
  rintro e w4 ⟨rfl, hB4⟩
  have HB4 := toHid (HB3.out.trans (hB4.mono HB3.out.size))
  clear hB4
  go_wp2_with fail
  go_ret
  exact ⟨rfl, HB4.out⟩

set_option maxRecDepth 100000 in
set_option maxHeartbeats 3000000 in
theorem looks_out2 (inst : Int) (m : Nat) (hm : 1 ≤ m) (hm8 : m ≤ 8) (hi1 : ¬ inst < 1) (hi : (m : Int) < inst) (a : Option Addr) (c : Nat) (l : List Op1) (w : World) :
    Calls Try.prog 8 #[.int .i64 m, .slice a l.length c, .int .i64 inst] w fun e w' => e = .returned (.bool true) ∧ Below w.heap.size w w' := by
  have HL := toHid lives17
  go_enter Try.func8, Try.ntmps8
  go_wp2_with fail
  go_at_call 9
  refine Calls.mono (new_yes w m hm hm8) ?_
  rintro e w3 ⟨rfl, hN3, hB3, hz3⟩
  have HB3 := toHid hB3
  clear hN3 hB3 hz3
  go_wp2_with fail
  go_at_call 17
  refine Calls.mono (HL.out _) ?_
  rintro e w4 ⟨rfl, hB4⟩
  have HB4 := toHid (HB3.out.trans (hB4.mono HB3.out.size))
  clear hB4
  go_wp2_with fail
  go_ret
  exact ⟨rfl, HB4.out⟩

theorem looks_walk (n inst : Int) (a : Option Addr) (c : Nat) (l : List Op1) (w : World) (hops : SlO w a l) :
    Calls Try.prog 8 #[.int .i64 n, .slice a l.length c, .int .i64 inst] w fun e w' => e = .returned (.bool true) ∧ Below w.heap.size w w' := by
  by_cases hn : n < 1 ∨ 8 < n
  · exact looks_out0 inst n hn a c l w
  · obtain ⟨m, rfl⟩ : ∃ m : Nat, n = m := ⟨n.toNat, by omega⟩
    by_cases h1 : inst < 1
    · exact looks_out1 inst m (by omega) (by omega) h1 a c l w
    · by_cases h2 : (m : Int) < inst
      · exact looks_out2 inst m (by omega) (by omega) h1 h2 a c l w
      · exact looks_in m inst a c l w hops (by omega) (by omega) (by omega) (by omega)

end Go.Proofs.Ytfdpmffoajjchaa
