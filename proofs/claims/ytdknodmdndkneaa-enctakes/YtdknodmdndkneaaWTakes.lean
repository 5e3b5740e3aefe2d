/-
  The walk of EncTakes.
-/
import Derived.Test.YtdknodmdndkneaaWTk
import Derived.Deep.DeepCutAuto
import Derived.Deep.CutBlock
import Derived.Deep.RegionHeld
namespace Go.Proofs.Ytdknodmdndkneaa
open Go.RowKit

set_option maxRecDepth 100000 in
set_option maxHeartbeats 2000000 in
theorem takes_walk (a : Option Addr) (c : Nat) (s : ByteArray) (a2 : Option Addr) (n c2 : Nat) (K M : Nat → Int) (w : World) (hv : SlB w a s.data.toList) (hl : s.size ≤ 140737488355328) (hnil : a = none → c = 0) (hA : Asks w a2 n K M) (hn : n ≤ maxLen) :
    Calls Try.prog 4 #[.slice a s.size c, .slice a2 n c2] w fun e w' => e = .returned (.bool true) ∧ Below w.heap.size w w' := by
  have hsl : s.data.toList.length = s.size := by simp
  have hread := read_any a c s.data.toList w hv (by omega) hnil
  rw [hsl] at hread
  unfold maxLen at hn
  go_enter Try.func4, Try.ntmps4
  go_wp2_with fail
  refine (rfail_nil _ _).mono ?_
  rintro e w' ⟨rfl, hw⟩
  obtain rfl := hw.symm
  go_wp2_with fail
  refine hread.mono ?_
  rintro e w1 ⟨p, ar, cr, rfl, hr1, hb1⟩
  have hcv1 : (convert 30 9 (.slice a s.size c)).run Try.prog w1 = .ok (.string s) w1 := conv_str (hv.below hb1)
  have hp1 := lt_of_block hr1.blk
  have hsz1 := hb1.size
  clear hread hv
  go_wp2_with fail
  go_loopw [10] (fun i wr => ∃ (k j : Nat) (e : Int), k ≤ n ∧ k ≤ 60 ∧ i = .int .i64 k ∧ Both wr w.heap.size p w1.heap.size s j e ∧ Below w.heap.size w wr) (fun i _ => 60 - (intOf i).toNat)
  case atStart => exact ⟨0, 0, 0, by omega, by omega, rfl, ⟨⟨_, _, hr1.below ((Below.refl _ _).alloc (Nat.le_refl _) _) (Nat.le_refl _)⟩, heap_alloc_new _ _, hp1, by omega⟩, hb1.alloc hsz1 _⟩
  case round =>
    obtain ⟨k, j, e, hk, hk60, rfl, hB, hbel⟩ := hrel
    clear hcv1 hr1 hb1
    have hsz := hbel.size
    by_cases hlt : k < n ∧ k < 60
    · obtain ⟨hlt1, hlt2⟩ := hlt
      obtain ⟨b, o, rfl, hb, hc0, hc1⟩ := hA.at hbel k hlt1
      have hju := hB.le
      obtain ⟨⟨q0, q1, q2⟩, v0, v1, v2⟩ := cells3 hB.blk
      have hkind : askOf (K k) = 0 ∨ askOf (K k) = 1 ∨ askOf (K k) = 2 ∨ askOf (K k) = 3 ∨ askOf (K k) = 4 ∨ askOf (K k) = 5 := by unfold askOf; omega
      have hw6 : IntKind.u64.wrap (K k) % 6 = ((askOf (K k) : Nat) : Int) := by unfold askOf; omega
      have hw0 : 0 ≤ IntKind.u64.wrap (K k) := by rw [IntKind.wrap_u64]; omega
      go_upto_block 2 with fail
      go_cut [11, 35] (fun t _ wc => t = .bool true ∧ ∃ (j : Nat) (e : Int), Both wc w.heap.size p w1.heap.size s j e ∧ Below w.heap.size w wc)
      case rest =>
        obtain ⟨rfl, j4, e4, hB4, hbel4⟩ := hcut
        clear hB hbel hsz q0 q1 q2 v0 v1 v2 hc0 hc1 hkind hw6 hw0 hju
        have hsz4 := hbel4.size
        have hj4 := hB4.le
        obtain ⟨⟨q0, q1, q2⟩, _, _, _⟩ := cells3 hB4.blk
        have hlq := lt_of_block hB4.blk
        have HB := (show Hid (∀ W, Below wc.heap.size wc W → Both W w.heap.size p w1.heap.size s j4 e4) from fun W hb => hB4.below hb)
        have HS := (show Hid (∀ W, Below wc.heap.size wc W → (W.cell? ⟨w1.heap.size, 0, none⟩ = some (.string s) ∧ W.cell? ⟨w1.heap.size, 1, none⟩ = some (.int .i64 j4) ∧ W.cell? ⟨w1.heap.size, 2, none⟩ = some (.int .i64 e4))) from fun W hb => (cells3 (hB4.below hb).blk).1)
        clear hB4
        go_upto_region 31 with fail
        go_region_held (fun W => W.cell? ⟨w1.heap.size, 0, none⟩ = some (.string s) ∧ W.cell? ⟨w1.heap.size, 1, none⟩ = some (.int .i64 j4) ∧ W.cell? ⟨w1.heap.size, 2, none⟩ = some (.int .i64 e4)) (first | assumption | (refine HS.out _ ?_; repeat (first | exact Below.refl _ _ | refine Below.drew ?_ | refine Below.alloc ?_ (by simp; try omega) _))) (first | (go_at_call 22; refine (Both.left (HB.out _ (by repeat (first | exact Below.refl _ _ | refine Below.drew ?_ | refine Below.alloc ?_ (by simp; try omega) _)))).mono ?_; rintro en w5 ⟨rfl, rfl⟩) | (go_at_call 23; refine (rleft_ref s j4 e4 _ (by unfold maxLen; omega) hj4).mono ?_; rintro en w5 ⟨rfl, rfl⟩) | (go_at_call 24; refine (Both.err (HB.out _ (by repeat (first | exact Below.refl _ _ | refine Below.drew ?_ | refine Below.alloc ?_ (by simp; try omega) _)))).mono ?_; rintro en w5 ⟨rfl, rfl⟩) | (go_at_call 25; refine (Both.ends (HB.out _ (by repeat (first | exact Below.refl _ _ | refine Below.drew ?_ | refine Below.alloc ?_ (by simp; try omega) _)))).mono ?_; rintro en w5 ⟨rfl, rfl⟩) | (go_at_call 26; refine (rend_ref s j4 e4 _ (by unfold maxLen; omega) hj4).mono ?_; rintro en w5 ⟨rfl, hb5⟩; have hb6 : Below wc.heap.size wc w5 := (by refine Below.trans ?_ (hb5.mono (by simp; try omega)); repeat (first | exact Below.refl _ _ | refine Below.drew ?_ | refine Below.alloc ?_ (by simp; try omega) _)); have hS5 := HS.out w5 hb6))
        all_goals
          go_wp2
          have hb7 := hbel4.trans (hb6.mono hsz4)
          have hB7 := HB.out _ hb6
          go_roundw
          case rel => exact ⟨k + 1, j4, e4, by omega, by omega, by go_num, hB7, hb7⟩
          case measure => simp [intOf]; omega
      case first =>
        rcases hkind with hq | hq | hq | hq | hq | hq
        · rw [hq] at hw6
          clear hq
          have ht := take_ref_any s j 1 e wr (by unfold maxLen; omega) hju (by decide) (by decide)
          have hby := fun W a c hr => rbyte_any w.heap.size p a c (s.data.toList.drop j) e W hr
          have hR3 := takeN_lt 1 (s.data.toList.drop j) e
          generalize takeN 1 (s.data.toList.drop j) e = R at *
          obtain ⟨R1, R2, R3⟩ := R
          simp only at ht hby hR3
          have hR3' : (R3 : Int) < 256 := by omega
          have Hby := (show Hid _ from hby)
          clear hby hR3
          go_wp2_with fail
          refine ht.mono ?_
          rintro en w2 ⟨k', hk', hRl, rfl, hb2⟩
          obtain ⟨⟨s0, s1, s2⟩, z0, z1, z2⟩ := cells3 (hB.below hb2).blk
          obtain ⟨⟨a3, c3, hr3⟩, hblk3, hbel3⟩ := hB.mid hb2 (.string s) (.int .i64 k') (.int .i64 R2)
          have HRl := (show Hid _ from hRl)
          clear ht hRl
          go_wp2_with fail
          refine (Hby.out _ a3 c3 hr3).mono ?_
          rintro en w4 ⟨rfl, hr4, hg4⟩
          have hB4 := hB.fin hblk3 hg4 hr4 HRl.out hk'
          have hbel4 : Below w.heap.size w w4 := hbel.trans (hbel3.trans (hr3.toBelow hg4))
          clear hr3 hr4 hg4 hblk3 hbel3 s0 s1 s2 z0 z1 z2 hb2 q0 q1 q2 v0 v1 v2 hc0 hc1
          go_wp2_with fail
          go_meet
          case rel => exact ⟨rfl, _, _, hB4, hbel4⟩
        · rw [hq] at hw6
          clear hq
          have ht := take_ref_any s j 2 e wr (by unfold maxLen; omega) hju (by decide) (by decide)
          have hby := fun W a c hr => rtwo_any w.heap.size p a c (s.data.toList.drop j) e W hr
          have hR3 := takeN_lt 2 (s.data.toList.drop j) e
          generalize takeN 2 (s.data.toList.drop j) e = R at *
          obtain ⟨R1, R2, R3⟩ := R
          simp only at ht hby hR3
          have hR3' : (R3 : Int) < 65536 := by omega
          have Hby := (show Hid _ from hby)
          clear hby hR3
          go_wp2_with fail
          refine ht.mono ?_
          rintro en w2 ⟨k', hk', hRl, rfl, hb2⟩
          obtain ⟨⟨s0, s1, s2⟩, z0, z1, z2⟩ := cells3 (hB.below hb2).blk
          obtain ⟨⟨a3, c3, hr3⟩, hblk3, hbel3⟩ := hB.mid hb2 (.string s) (.int .i64 k') (.int .i64 R2)
          have HRl := (show Hid _ from hRl)
          clear ht hRl
          go_wp2_with fail
          refine (Hby.out _ a3 c3 hr3).mono ?_
          rintro en w4 ⟨rfl, hr4, hg4⟩
          have hB4 := hB.fin hblk3 hg4 hr4 HRl.out hk'
          have hbel4 : Below w.heap.size w w4 := hbel.trans (hbel3.trans (hr3.toBelow hg4))
          clear hr3 hr4 hg4 hblk3 hbel3 s0 s1 s2 z0 z1 z2 hb2 q0 q1 q2 v0 v1 v2 hc0 hc1
          go_wp2_with fail
          go_meet
          case rel => exact ⟨rfl, _, _, hB4, hbel4⟩
        · rw [hq] at hw6
          clear hq
          have ht := take_ref_any s j 4 e wr (by unfold maxLen; omega) hju (by decide) (by decide)
          have hby := fun W a c hr => rfour_any w.heap.size p a c (s.data.toList.drop j) e W hr
          have hR3 := takeN_lt 4 (s.data.toList.drop j) e
          generalize takeN 4 (s.data.toList.drop j) e = R at *
          obtain ⟨R1, R2, R3⟩ := R
          simp only at ht hby hR3
          have hR3' : (R3 : Int) < 4294967296 := by omega
          have Hby := (show Hid _ from hby)
          clear hby hR3
          go_wp2_with fail
          refine ht.mono ?_
          rintro en w2 ⟨k', hk', hRl, rfl, hb2⟩
          obtain ⟨⟨s0, s1, s2⟩, z0, z1, z2⟩ := cells3 (hB.below hb2).blk
          obtain ⟨⟨a3, c3, hr3⟩, hblk3, hbel3⟩ := hB.mid hb2 (.string s) (.int .i64 k') (.int .i64 R2)
          have HRl := (show Hid _ from hRl)
          clear ht hRl
          go_wp2_with fail
          refine (Hby.out _ a3 c3 hr3).mono ?_
          rintro en w4 ⟨rfl, hr4, hg4⟩
          have hB4 := hB.fin hblk3 hg4 hr4 HRl.out hk'
          have hbel4 : Below w.heap.size w w4 := hbel.trans (hbel3.trans (hr3.toBelow hg4))
          clear hr3 hr4 hg4 hblk3 hbel3 s0 s1 s2 z0 z1 z2 hb2 q0 q1 q2 v0 v1 v2 hc0 hc1
          go_wp2_with fail
          go_meet
          case rel => exact ⟨rfl, _, _, hB4, hbel4⟩
        · rw [hq] at hw6
          clear hq
          have ht := take_ref_any s j 8 e wr (by unfold maxLen; omega) hju (by decide) (by decide)
          have hby := fun W a c hr => reight_any w.heap.size p a c (s.data.toList.drop j) e W hr
          have hR3 := takeN_lt 8 (s.data.toList.drop j) e
          generalize takeN 8 (s.data.toList.drop j) e = R at *
          obtain ⟨R1, R2, R3⟩ := R
          simp only at ht hby hR3
          have hR3' : (R3 : Int) < 18446744073709551616 := by omega
          have Hby := (show Hid _ from hby)
          clear hby hR3
          go_wp2_with fail
          refine ht.mono ?_
          rintro en w2 ⟨k', hk', hRl, rfl, hb2⟩
          obtain ⟨⟨s0, s1, s2⟩, z0, z1, z2⟩ := cells3 (hB.below hb2).blk
          obtain ⟨⟨a3, c3, hr3⟩, hblk3, hbel3⟩ := hB.mid hb2 (.string s) (.int .i64 k') (.int .i64 R2)
          have HRl := (show Hid _ from hRl)
          clear ht hRl
          go_wp2_with fail
          refine (Hby.out _ a3 c3 hr3).mono ?_
          rintro en w4 ⟨rfl, hr4, hg4⟩
          have hB4 := hB.fin hblk3 hg4 hr4 HRl.out hk'
          have hbel4 : Below w.heap.size w w4 := hbel.trans (hbel3.trans (hr3.toBelow hg4))
          clear hr3 hr4 hg4 hblk3 hbel3 s0 s1 s2 z0 z1 z2 hb2 q0 q1 q2 v0 v1 v2 hc0 hc1
          go_wp2_with fail
          go_meet
          case rel => exact ⟨rfl, _, _, hB4, hbel4⟩
        · rw [hq] at hw6
          clear hq
          have ht := takeText_ref s j (M k) e wr.drew (by unfold maxLen; omega) hju
          have hby := fun W a c hr => rtext_any w.heap.size p a c (s.data.toList.drop j) (M k) e W hr
          generalize takeT (M k) (s.data.toList.drop j) e = R at *
          obtain ⟨R1, R2, R3⟩ := R
          simp only at ht hby
          have Hby := (show Hid _ from hby)
          clear hby
          have hB0 : Both wr.drew w.heap.size p w1.heap.size s j e := hB.below ((Below.refl _ _).drew)
          have Hmid := (show Hid _ from fun w2 hb2 x0 x1 x2 => hB0.mid (w1 := w2) hb2 x0 x1 x2)
          have Hcel := (show Hid _ from fun w2 hb2 => cells3 (hB0.below (w' := w2) hb2).blk)
          go_wp2_with fail
          go_region_with (go_at_call 20; refine ht.mono ?_; rintro en w2 ⟨k', hk', hRl, rfl, hb2⟩; have HRl := (show Hid _ from hRl); clear hRl; obtain ⟨⟨s0, s1, s2⟩, z0, z1, z2⟩ := Hcel.out w2 hb2)
          all_goals
            obtain ⟨⟨a3, c3, hr3⟩, hblk3, hbel3⟩ := Hmid.out w2 hb2 (.string s) (.int .i64 k') (.int .i64 R2)
            have hbel3' := hbel.drew.trans hbel3
            obtain ⟨b', o', hbo, _, d0, d1⟩ := hA.at hbel3' k hlt1
            simp at hbo
            obtain ⟨rfl, rfl⟩ := hbo
            clear hc0 hc1
            go_wp2_with fail
            refine (Hby.out _ a3 c3 hr3).mono ?_
            rintro en w4 ⟨rfl, hr4, hg4⟩
            have hB4 := hB.fin hblk3 hg4 hr4 HRl.out hk'
            have hbel4 : Below w.heap.size w w4 := hbel3'.trans (hr3.toBelow hg4)
            clear hr3 hr4 hg4 hblk3 hbel3 s0 s1 s2 z0 z1 z2 hb2 q0 q1 q2 v0 v1 v2 d0 d1 hbel3'
            go_wp2_with fail
            go_meet
            case rel => exact ⟨rfl, _, _, hB4, hbel4⟩
        · rw [hq] at hw6
          clear hq
          obtain ⟨ar, cr, hr⟩ := hB.rd
          by_cases hM : ((M k).tmod 5 == 0) = true
          · by_cases he : e = 0
            · subst he
              have hf := rfail_ok _ _ _ _ _ 7 _ hr
              have hBf := hB.failed
              have hpq := hB.lt
              have hbase := hr.base
              have hplt := lt_of_block hr.blk
              go_wp2_with (go_at_call 13; go_must (refine hf.mono ?_); rintro en w2 ⟨rfl, rfl⟩)
              go_meet
              case rel => exact ⟨rfl, _, _, hBf, (hbel.setCell hbase _).setCell (by simp; omega) _⟩
            · have hf := rfail_err _ _ _ _ _ _ 7 _ hr he
              have he' : (e == 0) = false := by simp [he]
              clear he
              go_wp2_with (go_at_call 13; go_must (refine hf.mono ?_); rintro en w2 ⟨rfl, hw2⟩; obtain rfl := hw2.symm)
              go_meet
              case rel => exact ⟨rfl, _, _, hB, hbel⟩
          · have hM' : ((M k).tmod 5 == 0) = false := by simpa using hM
            clear hM
            go_wp2_with fail
            go_meet
            case rel => exact ⟨rfl, _, _, hB, hbel⟩
    · have hcs : ¬ (k < n) ∨ (k < n ∧ ¬ (k < 60)) := by omega
      clear hlt hB
      rcases hcs with hc4 | ⟨hc4, hc5⟩
      all_goals
        go_wp2_with (first | (go_at_call 16; go_must (refine (rbyte_nil _).mono ?_); rintro en w2 ⟨rfl, rfl⟩) | (go_at_call 17; go_must (refine (rtwo_nil _).mono ?_); rintro en w2 ⟨rfl, rfl⟩) | (go_at_call 18; go_must (refine (rfour_nil _).mono ?_); rintro en w2 ⟨rfl, rfl⟩) | (go_at_call 19; go_must (refine (reight_nil _).mono ?_); rintro en w2 ⟨rfl, rfl⟩) | (go_at_call 21; go_must (refine (rtext_nil _ _).mono ?_); rintro en w2 ⟨rfl, rfl⟩) | (go_at_call 22; go_must (refine (rleft_nil _).mono ?_); rintro en w2 ⟨rfl, rfl⟩) | (go_at_call 24; go_must (refine (rerr_nil _).mono ?_); rintro en w2 ⟨rfl, rfl⟩) | (go_at_call 25; go_must (refine (rend_nil _).mono ?_); rintro en w2 ⟨rfl, rfl⟩) | (go_at_call 12; go_must (refine (lives_any _).mono ?_); rintro en w3 ⟨rfl, hb3⟩))
        go_ret
        exact ⟨rfl, hbel.trans (hb3.mono hsz)⟩

end Go.Proofs.Ytdknodmdndkneaa
