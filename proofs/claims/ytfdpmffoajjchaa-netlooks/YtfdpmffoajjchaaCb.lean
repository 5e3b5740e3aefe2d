/-
  The walk of NetCuts.
-/
import Derived.Test.YtfdpmffoajjchaaCa
namespace Go.Proofs.Ytfdpmffoajjchaa
open Go.RowKit Go.Conc

theorem wp133 {c : Code} {Q : Exit → Act → World → Prop} {A : Act} {w : World} (hs : A.tmps.size = 133) (hd : A.defers = []) (h : c.wp Try.prog Q (frameN 133 fun i => A.tmps.getD i undef) w) : c.wp Try.prog Q A w := by
  rw [frameN_lit 133 A hs hd]; exact h

theorem below_drewN {B : Nat} {a w : World} (h : Below B a w) (m : Nat) : Below B a (w.drewN m) := ⟨h.os, h.tape, h.output, h.size, h.block⟩

/-- All that is left to know of the rows: what is counted. -/
structure Cnt (n : Nat) (R : Nat → List Nat) (i : Int) (al u d : Nat) : Prop where
  all : sumR n R n = al
  up : lenO R (rix n i 0) = u
  down : lenO R (rix n 0 i) = d
  cut : cutN n R i = u + d
  ge : u + d ≤ al
  le : al ≤ 5000
  rest : sumR n (cutR n R i) n = al - (u + d)
  up0 : lenO (cutR n R i) (rix n i 0) = 0
  down0 : lenO (cutR n R i) (rix n 0 i) = 0

theorem cnt_of {n : Nat} {R : Nat → List Nat} {i : Int} (h1 : 1 ≤ i) (h2 : i ≤ n) (hn : n ≤ 8) (hl : ∀ k, k < 2 * n → (R k).length ≤ 256) : Cnt n R i (sumR n R n) (R (i.toNat - 1)).length (R (n + (i.toNat - 1))).length := by
  have hc : (1 ≤ i ∧ i ≤ n) := ⟨h1, h2⟩
  have e1 := sumR_set (n := n) (R := R) (k := i.toNat - 1) (l := []) (by omega)
  have e2 := sumR_set (n := n) (R := upd R (i.toNat - 1) []) (k := n + (i.toNat - 1)) (l := []) (by omega)
  rw [upd_other _ _ _ _ (by omega)] at e2
  have e3 := sumR_le hl n (Nat.le_refl _)
  simp only [List.length_nil, Nat.add_zero] at e1 e2
  refine ⟨rfl, by rw [rix_up h1 h2]; rfl, by rw [rix_down h1 h2]; rfl, by unfold cutN; rw [if_pos hc], by omega, by omega, ?_, ?_, ?_⟩
  · unfold cutR
    rw [if_pos hc]
    omega
  · rw [rix_up h1 h2]
    unfold cutR
    rw [if_pos hc]
    simp only [lenO]
    rw [upd_other _ _ _ _ (by omega), upd_same]
    rfl
  · rw [rix_down h1 h2]
    unfold cutR
    rw [if_pos hc]
    simp only [lenO]
    rw [upd_same]
    rfl

set_option maxRecDepth 100000 in
set_option maxHeartbeats 3000000 in
theorem cuts_in (n : Nat) (inst : Int) (a : Option Addr) (c : Nat) (l : List Op1) (w : World) (hops : SlO w a l) (hn : 1 ≤ n) (hn8 : n ≤ 8) (hi1 : 1 ≤ inst) (hi2 : inst ≤ n) :
    Calls Try.prog 6 #[.int .i64 n, .slice a l.length c, .int .i64 inst] w fun e w' => e = .returned (.bool true) ∧ Below w.heap.size w w' := by
  have H1 := toHid (ordered_any n inst true true a c l w hops)
  have H2 := toHid (fun (W : World) (hb : Below w.heap.size w W) => ordered_any n inst false true a c l W (hops.below hb))
  have HC := toHid (fun (R : Nat → List Nat) (hl : ∀ k, k < 2 * n → (R k).length ≤ 256) => cnt_of (R := R) hi1 hi2 hn8 hl)
  have HR := toHid (rix_up hi1 hi2)
  have HS := toHid hops
  have HL := toHid lives17
  have hi3 : ¬ inst < 1 := by omega
  have hi4 : ¬ (n : Int) < inst := by omega
  clear hi1 hi2 hops
  go_enter Try.func6, Try.ntmps6
  go_wp2_with fail
  go_at_call 22
  refine Calls.mono H1.out ?_
  rintro e w1 ⟨rfl, hB1⟩
  have HB1 := toHid hB1
  clear hB1
  go_wp2_with fail
  go_at_call 22
  refine Calls.mono (H2.out _ HB1.out) ?_
  rintro e w2 ⟨rfl, hB2⟩
  have HB2 := toHid (HB1.out.trans (hB2.mono HB1.out.size))
  clear hB2
  go_wp2_with fail
  go_at_call 9
  refine Calls.mono (new_yes w2 n hn hn8) ?_
  rintro e w3 ⟨rfl, hN3, hB3, hz3⟩
  have HN3 := toHid hN3
  have HB3 := toHid (HB2.out.trans (hB3.mono HB2.out.size))
  clear hN3 hB3 hz3
  go_wp2_with fail
  refine wp133 rfl rfl (loop6_wp w w2.heap.size n a l c inst HS.out HB2.out.size _ w3 ⟨rfl, rfl, rfl, rfl⟩ _ HN3.out HB3.out _ ?_)
  intro u' W' R' k2 k7 hN hB
  have HB := toHid hB
  have HN := toHid hN
  obtain ⟨all, hall⟩ : ∃ x, x = sumR n R' n := ⟨_, rfl⟩
  obtain ⟨up, hup⟩ : ∃ x, x = (R' (inst.toNat - 1)).length := ⟨_, rfl⟩
  obtain ⟨down, hdown⟩ : ∃ x, x = (R' (n + (inst.toNat - 1))).length := ⟨_, rfl⟩
  have HT : Hid (Cnt n R' inst all up down) := by rw [hall, hup, hdown]; exact HC.out R' hN.len
  clear hB hN hall hup hdown
  have l1 := HT.out.ge
  have l2 := HT.out.le
  rw [frame_open133, k2, k7]
  clear k2 k7
  go_wp2_with fail
  go_at_call 14
  refine Calls.mono (sum_any HN.out) ?_
  rintro e w4 ⟨rfl, q4, hw4⟩
  have HN4 : Hid (NetOk w4 w2.heap.size n R') := by rw [hw4]; exact HN.out.drew q4
  have HB4 : Hid (Below w.heap.size w w4) := by rw [hw4]; exact below_drewN HB.out q4
  rw [HT.out.all]
  clear hw4
  go_wp2_with fail
  go_at_call 13
  refine Calls.mono (len_any _ _ n _ HN4.out 0 inst) ?_
  rintro e w5 ⟨rfl, hw5⟩
  obtain rfl := hw5.symm
  rw [HT.out.down]
  go_wp2_with fail
  go_at_call 13
  refine Calls.mono (len_any _ _ n _ HN4.out inst 0) ?_
  rintro e w5 ⟨rfl, hw5⟩
  obtain rfl := hw5.symm
  rw [HT.out.up]
  go_wp2_with fail
  go_at_call 15
  refine Calls.mono (cut_any HN4.out inst) ?_
  rintro e w6 ⟨rfl, hN6, hT6⟩
  have HN6 := toHid hN6
  have HB6 := toHid (hT6.to HB4.out HB2.out.size HB4.out.size)
  rw [HT.out.cut]
  clear hN6 hT6
  have z1 : ((up + down : Nat) : Int) = (down : Int) + (up : Int) := by omega
  rw [z1]
  clear z1
  go_wp2_with fail
  go_at_call 14
  refine Calls.mono (sum_any HN6.out) ?_
  rintro e w7 ⟨rfl, q7, hw7⟩
  have HN7 : Hid (NetOk w7 w2.heap.size n (cutR n R' inst)) := by rw [hw7]; exact HN6.out.drew q7
  have HB7 : Hid (Below w.heap.size w w7) := by rw [hw7]; exact below_drewN HB6.out q7
  clear hw7
  rw [HT.out.rest]
  have z2 : ((all - (up + down) : Nat) : Int) = (all : Int) - ((down : Int) + (up : Int)) := by omega
  rw [z2]
  clear z2
  go_wp2_with fail
  go_at_call 13
  refine Calls.mono (len_any _ _ n _ HN7.out 0 inst) ?_
  rintro e w8 ⟨rfl, hw8⟩
  obtain rfl := hw8.symm
  rw [HT.out.down0]
  go_wp2_with fail
  go_at_call 13
  refine Calls.mono (len_any _ _ n _ HN7.out inst 0) ?_
  rintro e w8 ⟨rfl, hw8⟩
  obtain rfl := hw8.symm
  rw [HT.out.up0]
  go_wp2_with fail
  have hlen : (cutR n R' inst (inst.toNat - 1)).length = 0 := by have := HT.out.up0; rw [HR.out] at this; exact this
  have HLn := toHid hlen
  clear hlen
  go_at_call 12
  refine Calls.mono (send_room HN7.out inst 0 HR.out (by rw [HLn.out]; omega) (km 2) zeroP (mi_km _ _) (lim_km _)) ?_
  rintro e w9 ⟨rfl, b9, p9, hN9, hM9, hO9, hb9, hT9⟩
  have HN9 := toHid hN9
  have HB9 := toHid (hT9.to HB7.out HB2.out.size HB7.out.size)
  clear hN9 hM9 hO9 hb9 hT9
  go_wp2_with fail
  go_at_call 13
  refine Calls.mono (len_any _ _ n _ HN9.out inst 0) ?_
  rintro e w10 ⟨rfl, hw10⟩
  obtain rfl := hw10.symm
  have e10 : lenO (upd (cutR n R' inst) (inst.toNat - 1) (cutR n R' inst (inst.toNat - 1) ++ [b9])) (rix n inst 0) = 1 := by
    rw [HR.out]
    simp only [lenO]
    rw [upd_same, List.length_append, HLn.out]
    rfl
  rw [e10]
  clear e10
  go_wp2_with fail
  go_at_call 15
  refine Calls.mono (cut_any HN9.out 0) ?_
  rintro e w11 ⟨rfl, hN11, hT11⟩
  have HB11 := toHid (hT11.to HB9.out HB2.out.size HB9.out.size)
  clear hN11 hT11
  have e11 : cutN n (upd (cutR n R' inst) (inst.toNat - 1) (cutR n R' inst (inst.toNat - 1) ++ [b9])) 0 = 0 := by unfold cutN; rw [if_neg (by omega)]
  rw [e11]
  clear e11
  go_wp2_with fail
  go_at_call 17
  refine Calls.mono (HL.out _) ?_
  rintro e w12 ⟨rfl, hB12⟩
  have HB12 := toHid (HB11.out.trans (hB12.mono HB11.out.size))
  clear hB12
  go_wp2_with fail
  go_ret
  exact ⟨rfl, HB12.out⟩

set_option maxRecDepth 100000 in
set_option maxHeartbeats 3000000 in
theorem cuts_out0 (inst : Int) (n : Int) (hn : n < 1 ∨ 8 < n) (a : Option Addr) (c : Nat) (l : List Op1) (w : World) (hops : SlO w a l) :
    Calls Try.prog 6 #[.int .i64 n, .slice a l.length c, .int .i64 inst] w fun e w' => e = .returned (.bool true) ∧ Below w.heap.size w w' := by
  have H1 := toHid (ordered_any n inst true true a c l w hops)
  have H2 := toHid (fun (W : World) (hb : Below w.heap.size w W) => ordered_any n inst false true a c l W (hops.below hb))
  have HL := toHid lives17
  clear hops
  go_enter Try.func6, Try.ntmps6
  go_wp2_with fail
  go_at_call 22
  refine Calls.mono H1.out ?_
  rintro e w1 ⟨rfl, hB1⟩
  have HB1 := toHid hB1
  clear hB1
  go_wp2_with fail
  go_at_call 22
  refine Calls.mono (H2.out _ HB1.out) ?_
  rintro e w2 ⟨rfl, hB2⟩
  have HB2 := toHid (HB1.out.trans (hB2.mono HB1.out.size))
  clear hB2
  go_wp2_with fail
  go_at_call 9
  refine Calls.mono (new_no w2 n hn) ?_
  rintro e w3 ⟨rfl, hw3⟩
  obtain rfl := hw3.symm
  have HB3 := HB2
  go_wp2_with fail
  go_at_call 17
  refine Calls.mono (HL.out _) ?_
  rintro e w4 ⟨rfl, hB4⟩
  have HB4 := toHid (HB3.out.trans (hB4.mono HB3.out.size))
  clear hB4
  go_wp2_with fail
  go_ret
  exact ⟨rfl, HB4.out⟩

set_option maxRecDepth 100000 in
set_option maxHeartbeats 3000000 in
theorem cuts_out1 (inst : Int) (m : Nat) (hm : 1 ≤ m) (hm8 : m ≤ 8) (hi : inst < 1) (a : Option Addr) (c : Nat) (l : List Op1) (w : World) (hops : SlO w a l) :
    Calls Try.prog 6 #[.int .i64 m, .slice a l.length c, .int .i64 inst] w fun e w' => e = .returned (.bool true) ∧ Below w.heap.size w w' := by
  have H1 := toHid (ordered_any m inst true true a c l w hops)
  have H2 := toHid (fun (W : World) (hb : Below w.heap.size w W) => ordered_any m inst false true a c l W (hops.below hb))
  have HL := toHid lives17
  clear hops
  go_enter Try.func6, Try.ntmps6
  go_wp2_with fail
  go_at_call 22
  refine Calls.mono H1.out ?_
  rintro e w1 ⟨rfl, hB1⟩
  have HB1 := toHid hB1
  clear hB1
  go_wp2_with fail
  go_at_call 22
  refine Calls.mono (H2.out _ HB1.out) ?_
  rintro e w2 ⟨rfl, hB2⟩
  have HB2 := toHid (HB1.out.trans (hB2.mono HB1.out.size))
  clear hB2
  go_wp2_with fail
  go_at_call 9
  refine Calls.mono (new_yes w2 m hm hm8) ?_
  rintro e w3 ⟨rfl, hN3, hB3, hz3⟩
  have HB3 := toHid (HB2.out.trans (hB3.mono HB2.out.size))
  clear hN3 hB3 hz3
  go_wp2_with fail
  go_at_call 17
  refine Calls.mono (HL.out _) ?_
  rintro e w4 ⟨rfl, hB4⟩
  have HB4 := toHid (HB3.out.trans (hB4.mono HB3.out.size))
  clear hB4
  go_wp2_with fail
  go_ret
  exact ⟨rfl, HB4.out⟩

set_option maxRecDepth 100000 in
set_option maxHeartbeats 3000000 in
theorem cuts_out2 (inst : Int) (m : Nat) (hm : 1 ≤ m) (hm8 : m ≤ 8) (hi1 : ¬ inst < 1) (hi : (m : Int) < inst) (a : Option Addr) (c : Nat) (l : List Op1) (w : World) (hops : SlO w a l) :
    Calls Try.prog 6 #[.int .i64 m, .slice a l.length c, .int .i64 inst] w fun e w' => e = .returned (.bool true) ∧ Below w.heap.size w w' := by
  have H1 := toHid (ordered_any m inst true true a c l w hops)
  have H2 := toHid (fun (W : World) (hb : Below w.heap.size w W) => ordered_any m inst false true a c l W (hops.below hb))
  have HL := toHid lives17
  clear hops
  go_enter Try.func6, Try.ntmps6
  go_wp2_with fail
  go_at_call 22
  refine Calls.mono H1.out ?_
  rintro e w1 ⟨rfl, hB1⟩
  have HB1 := toHid hB1
  clear hB1
  go_wp2_with fail
  go_at_call 22
  refine Calls.mono (H2.out _ HB1.out) ?_
  rintro e w2 ⟨rfl, hB2⟩
  have HB2 := toHid (HB1.out.trans (hB2.mono HB1.out.size))
  clear hB2
  go_wp2_with fail
  go_at_call 9
  refine Calls.mono (new_yes w2 m hm hm8) ?_
  rintro e w3 ⟨rfl, hN3, hB3, hz3⟩
  have HB3 := toHid (HB2.out.trans (hB3.mono HB2.out.size))
  clear hN3 hB3 hz3
  go_wp2_with fail
  go_at_call 17
  refine Calls.mono (HL.out _) ?_
  rintro e w4 ⟨rfl, hB4⟩
  have HB4 := toHid (HB3.out.trans (hB4.mono HB3.out.size))
  clear hB4
  go_wp2_with fail
  go_ret
  exact ⟨rfl, HB4.out⟩

theorem cuts_walk (n inst : Int) (a : Option Addr) (c : Nat) (l : List Op1) (w : World) (hops : SlO w a l) :
    Calls Try.prog 6 #[.int .i64 n, .slice a l.length c, .int .i64 inst] w fun e w' => e = .returned (.bool true) ∧ Below w.heap.size w w' := by
  by_cases hn : n < 1 ∨ 8 < n
  · exact cuts_out0 inst n hn a c l w hops
  · obtain ⟨m, rfl⟩ : ∃ m : Nat, n = m := ⟨n.toNat, by omega⟩
    by_cases h1 : inst < 1
    · exact cuts_out1 inst m (by omega) (by omega) h1 a c l w hops
    · by_cases h2 : (m : Int) < inst
      · exact cuts_out2 inst m (by omega) (by omega) h1 h2 a c l w hops
      · exact cuts_in m inst a c l w hops (by omega) (by omega) (by omega) (by omega)

end Go.Proofs.Ytfdpmffoajjchaa
