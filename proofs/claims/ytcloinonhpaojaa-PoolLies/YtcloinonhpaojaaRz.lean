/-
  The walk of PoolLies.
-/
import Derived.Test.YtcloinonhpaojaaRc
import Derived.Deep.RegionHeld3
import Derived.Deep.CutBlock
import Derived.Deep.CutRange
namespace Go.Proofs.Ytcloinonhpaojaa
open Go.RowKit

set_option linter.unusedSimpArgs false in
set_option maxRecDepth 20000 in
set_option maxHeartbeats 16000000 in
theorem lies_walk (n : Int) (a : Option Addr) (c : Nat) (l : List Ov) (w : World) (hsl : SlO w a l) (hll : l.length ≤ maxLen) :
    Calls Try.prog 4 #[.int .i64 n, .slice a l.length c] w fun e w' => e = .returned (.bool true) ∧ Below w.heap.size w w' := by
  have HLv := toHid lives_any
  by_cases hn : 1 ≤ n ∧ n ≤ 16
  · obtain ⟨m, rfl⟩ : ∃ m : Nat, n = (m : Int) := ⟨n.toNat, by omega⟩
    have HO := toHid (opened_yes m w (by omega) (by omega))
    have HSl := toHid hsl
    have hll' : l.length ≤ 9223372036854775807 := hll
    clear hsl hn hll
    go_enter Try.func4, Try.ntmps4
    go_wp2_with fail
    refine Calls.mono HO.out ?_
    rintro e w1 ⟨z, p, d, ra, rc, rfl, hpr, hm, hb⟩
    have HA := toHid (show LiL w w1 z p d (po0 m ra rc) dk0 pg0 from ⟨hpr, hm, hb, inv0 m ra rc⟩)
    clear HO hpr hm hb
    go_upto_block 0 with fail
    go_cut [7, 8, 9] from 35 to 122 (fun _ _ _ wx => ∃ s k h, LiL w wx z p d s k h)
    case first =>
      go_wp2_with fail
      go_loopw [7] (fun v7 wr => ∃ (i : Nat), v7 = .int .i64 (i : Int) ∧ i ≤ l.length ∧ i ≤ 80 ∧ ∃ s k h, LiL w wr z p d s k h) (fun v _ => 80 - (intOf v).toNat)
      case atStart => exact ⟨0, rfl, Nat.zero_le _, by decide, _, _, _, HA.out⟩
      case round =>
        obtain ⟨i, rfl, hi, h80, s, k, h, hL⟩ := hrel
        have HL := toHid hL
        clear hL HA
        by_cases hgo : i < l.length ∧ i < 80
        · obtain ⟨hlt, hlt8⟩ := hgo
          have kd : decide ((i : Int) < (l.length : Int)) = true := by simp; omega
          have kd8 : decide ((i : Int) < 80) = true := by simp; omega
          obtain ⟨sb, so, rfl, hsb, s0, s1, s2, s3, s4, s5⟩ := (HSl.out.below HL.out.below rfl).at i hlt
          have HR := toHid (li_new HL.out l[i])
          have HI := toHid HL.out.inv
          have HW := toHid (HSl.out.small l[i] (List.getElem_mem hlt))
          generalize l[i] = o at *
          obtain ⟨W, hWq⟩ : ∃ W, W = wr.alloc (.cells #[.int .i64 o.kind, .int .i64 o.page, .int .u64 (o.tm : Int), .int .u64 (o.rec_ : Int), .string (txt o.key), .string (txt o.val)] 30) := ⟨_, rfl⟩
          have HWq := toHid hWq
          replace HR : Hid (Rd w W wr.heap.size z p d s k h o) := by rw [hWq]; exact HR.out
          clear hWq
          cases hg : decide (1000 < wrap64 (((txt o.key).size : Int) + ((txt o.val).size : Int)))
          · by_cases hK : o.kind = 0
            · have hk0 : (o.kind == 0) = true := by simpa using hK
              clear hK
              go_wp2_with fail
              rw [← HWq.out]
              clear HWq s0 s1 s2 s3 s4 s5 hsb
              obtain ⟨b0, b1, b2, b3, b4, b5, hbl⟩ := HR.out.cells
              obtain ⟨z0, z1, hzl⟩ := HR.out.pr.cells
              obtain ⟨n0, n1, f0, f1, hdl⟩ := HR.out.mem.dk.nums
              refine wp_region_quiet_tail 6 Try.mixed (by kernel_rfl) ?_
              simp only [List.take_succ_cons, List.take_zero, List.drop_succ_cons, List.drop_zero]
              repeat (go_big_quiet_step (fail))
              refine wpQuiet_nil ?_
              go_wp2_with fail
              refine Calls.mono (load_rd HR.out.drew o.page) ?_
              rintro e w2 ⟨n2, s2, h2, rfl, hr2, hc2⟩
              have HR := toHid hr2
              have HI := toHid (HI.out.load hc2)
              clear hr2 hc2
              clear b0 b1 b2 b3 b4 b5 hbl z0 z1 hzl n0 n1 f0 f1 hdl
              go_wp2_with fail
              go_roundw
              case rel => exact li_rel HR.out HI.out hlt hlt8
              case measure => first | omega | (simp only [intOf]; omega)
            have hN0 := hK
            clear hK
            by_cases hK : o.kind = 2
            · have hk0 : (o.kind == 0) = false := by simpa using hN0
              have hk2 : (o.kind == 2) = true := by simpa using hK
              clear hK
              go_wp2_with fail
              rw [← HWq.out]
              clear HWq s0 s1 s2 s3 s4 s5 hsb
              obtain ⟨b0, b1, b2, b3, b4, b5, hbl⟩ := HR.out.cells
              obtain ⟨z0, z1, hzl⟩ := HR.out.pr.cells
              obtain ⟨n0, n1, f0, f1, hdl⟩ := HR.out.mem.dk.nums
              refine wp_region_quiet_tail 6 Try.mixed (by kernel_rfl) ?_
              simp only [List.take_succ_cons, List.take_zero, List.drop_succ_cons, List.drop_zero]
              repeat (go_big_quiet_step (fail))
              refine wpQuiet_nil ?_
              go_wp2_with fail
              refine Calls.mono (get_rd HR.out.drew o.page) ?_
              rintro e w2 hg2
              rcases hg2 with ⟨rfl, hr2⟩ | ⟨x, s2, hx, hx16, hh2, rfl, hr2, hD2, hR2, hq2⟩
              · have HR := toHid hr2
                clear hr2
                clear b0 b1 b2 b3 b4 b5 hbl z0 z1 hzl n0 n1 f0 f1 hdl
                obtain ⟨b0, b1, b2, b3, b4, b5, hbl⟩ := HR.out.cells
                obtain ⟨z0, z1, hzl⟩ := HR.out.pr.cells
                obtain ⟨n0, n1, f0, f1, hdl⟩ := HR.out.mem.dk.nums
                go_wp2_with fail
                go_roundw
                case rel => exact li_rel HR.out HI.out hlt hlt8
                case measure => first | omega | (simp only [intOf]; omega)
              · have HR := toHid hr2
                have HX := toHid hx
                have HH := toHid hh2
                have HI := toHid (HI.out.get hD2 hR2 hq2)
                clear hr2 hx hh2 hD2 hR2 hq2
                clear b0 b1 b2 b3 b4 b5 hbl z0 z1 hzl n0 n1 f0 f1 hdl
                obtain ⟨b0, b1, b2, b3, b4, b5, hbl⟩ := HR.out.cells
                obtain ⟨z0, z1, hzl⟩ := HR.out.pr.cells
                obtain ⟨n0, n1, f0, f1, hdl⟩ := HR.out.mem.dk.nums
                by_cases htm : 0 < o.tm
                · have ht : decide (0 < (o.tm : Int)) = true := by simp; omega
                  go_wp2_with fail
                  refine Calls.mono (insert_rd HR.out HW.out x hx16 HH.out) ?_
                  rintro e w3 ⟨n3, v3, l3, rfl, hr3⟩
                  have HR := toHid hr3
                  clear hr3
                  clear b0 b1 b2 b3 b4 b5 hbl z0 z1 hzl n0 n1 f0 f1 hdl
                  obtain ⟨b0, b1, b2, b3, b4, b5, hbl⟩ := HR.out.cells
                  obtain ⟨z0, z1, hzl⟩ := HR.out.pr.cells
                  obtain ⟨n0, n1, f0, f1, hdl⟩ := HR.out.mem.dk.nums
                  have HS := toHid (stamp_rd HR.out HW.out x hx16 HH.out)
                  simp only [upd_self] at HS
                  go_wp2_with fail
                  refine Calls.mono HS.out ?_
                  rintro e w4 ⟨rfl, hr4⟩
                  have HR := toHid hr4
                  clear hr4 HS
                  clear b0 b1 b2 b3 b4 b5 hbl z0 z1 hzl n0 n1 f0 f1 hdl
                  obtain ⟨b0, b1, b2, b3, b4, b5, hbl⟩ := HR.out.cells
                  obtain ⟨z0, z1, hzl⟩ := HR.out.pr.cells
                  obtain ⟨n0, n1, f0, f1, hdl⟩ := HR.out.mem.dk.nums
                  rw [HX.out] at b1
                  go_wp2_with fail
                  refine wp_region_quiet_tail 8 Try.mixed (by kernel_rfl) ?_
                  simp only [List.take_succ_cons, List.take_zero, List.drop_succ_cons, List.drop_zero]
                  repeat (go_big_quiet_step (fail))
                  refine wpQuiet_nil ?_
                  go_wp2_with fail
                  refine Calls.mono (soil_rd HR.out.drew x o.tm hx16 HH.out) ?_
                  rintro e w5 ⟨m5, rfl, hr5⟩
                  have HR := toHid hr5
                  have HI := toHid (HI.out.soil x m5 (h' := upd (upd h x ⟨(h x).b, (h x).lsn, v3, l3⟩) x ⟨(h x).b, o.tm, v3, l3⟩) (fun j hj => by rw [upd_ne _ _ hj, upd_ne _ _ hj]))
                  clear hr5
                  clear b0 b1 b2 b3 b4 b5 hbl z0 z1 hzl n0 n1 f0 f1 hdl
                  go_wp2_with fail
                  go_roundw
                  case rel => exact li_rel HR.out HI.out hlt hlt8
                  case measure => first | omega | (simp only [intOf]; omega)
                · have ht : decide (0 < (o.tm : Int)) = false := by simp; omega
                  go_wp2_with fail
                  go_roundw
                  case rel => exact li_rel HR.out HI.out hlt hlt8
                  case measure => first | omega | (simp only [intOf]; omega)
            have hN2 := hK
            clear hK
            by_cases hK : o.kind = 3
            · have hk0 : (o.kind == 0) = false := by simpa using hN0
              have hk2 : (o.kind == 2) = false := by simpa using hN2
              have hk3 : (o.kind == 3) = true := by simpa using hK
              clear hK
              go_wp2_with fail
              rw [← HWq.out]
              clear HWq s0 s1 s2 s3 s4 s5 hsb
              obtain ⟨b0, b1, b2, b3, b4, b5, hbl⟩ := HR.out.cells
              obtain ⟨z0, z1, hzl⟩ := HR.out.pr.cells
              obtain ⟨n0, n1, f0, f1, hdl⟩ := HR.out.mem.dk.nums
              refine wp_region_quiet_tail 6 Try.mixed (by kernel_rfl) ?_
              simp only [List.take_succ_cons, List.take_zero, List.drop_succ_cons, List.drop_zero]
              repeat (go_big_quiet_step (fail))
              refine wpQuiet_nil ?_
              go_wp2_with fail
              refine Calls.mono (clean_rd HR.out.drew o.page) ?_
              rintro e w2 ⟨n2, s2, k2, rfl, hr2, hc2⟩
              have HR := toHid hr2
              have HI := toHid (HI.out.clean hc2)
              clear hr2 hc2
              clear b0 b1 b2 b3 b4 b5 hbl z0 z1 hzl n0 n1 f0 f1 hdl
              go_wp2_with fail
              go_roundw
              case rel => exact li_rel HR.out HI.out hlt hlt8
              case measure => first | omega | (simp only [intOf]; omega)
            have hN3 := hK
            clear hK
            by_cases hK : o.kind = 6
            · have hk0 : (o.kind == 0) = false := by simpa using hN0
              have hk2 : (o.kind == 2) = false := by simpa using hN2
              have hk3 : (o.kind == 3) = false := by simpa using hN3
              have hk6 : (o.kind == 6) = true := by simpa using hK
              clear hK
              go_wp2_with fail
              rw [← HWq.out]
              clear HWq s0 s1 s2 s3 s4 s5 hsb
              obtain ⟨b0, b1, b2, b3, b4, b5, hbl⟩ := HR.out.cells
              obtain ⟨z0, z1, hzl⟩ := HR.out.pr.cells
              obtain ⟨n0, n1, f0, f1, hdl⟩ := HR.out.mem.dk.nums
              go_region
              have HR := toHid (HR.out.stable o.tm).drew
              generalize World.drew _ = W2 at HR ⊢
              clear b0 b1 b2 b3 b4 b5 hbl z0 z1 hzl n0 n1 f0 f1 hdl
              go_wp2_with fail
              go_roundw
              case rel => exact li_rel HR.out HI.out hlt hlt8
              case measure => first | omega | (simp only [intOf]; omega)
            have hN6 := hK
            clear hK
            have hk0 : (o.kind == 0) = false := by simpa using hN0
            have hk2 : (o.kind == 2) = false := by simpa using hN2
            have hk3 : (o.kind == 3) = false := by simpa using hN3
            have hk6 : (o.kind == 6) = false := by simpa using hN6
            go_wp2_with fail
            rw [← HWq.out]
            go_roundw
            case rel => exact li_rel HR.out HI.out hlt hlt8
            case measure => first | omega | (simp only [intOf]; omega)
          · go_wp2_with fail
            rw [← HWq.out]
            refine Calls.mono (HLv.out _) ?_
            rintro e w2 ⟨rfl, hb2⟩
            have hB := HR.out.below.trans (hb2.mono HR.out.below.size)
            go_wp2
            go_ret
            exact ⟨rfl, hB⟩
        · have kd9 : ¬ (i < l.length ∧ i < 80) := hgo
          clear HSl
          by_cases hlt : i < l.length
          · have kd : decide ((i : Int) < (l.length : Int)) = true := by simp; omega
            have kd8 : decide ((i : Int) < 80) = false := by simp; omega
            go_wp2_with fail
            go_meet
            case rel => exact ⟨s, k, h, HL.out⟩
          · have kd : decide ((i : Int) < (l.length : Int)) = false := by simp; omega
            go_wp2_with fail
            go_meet
            case rel => exact ⟨s, k, h, HL.out⟩
    case rest =>
      obtain ⟨s, k, h, hL⟩ := hcut
      have HL := toHid hL
      clear hL HA HSl
      obtain ⟨z0, z1, hzl⟩ := HL.out.pr.cells
      go_wp2_with fail
      refine Calls.mono (dirty_any p (stV d) s wc HL.out.mem.po) ?_
      rintro e w2 ⟨ya, yc, xs', ys, rfl, hyr, hpg', hdr, hb2⟩
      have hyl : ys.length ≤ 16 := Nat.le_trans hdr.len hpg'.len
      have HY := toHid hyr
      have HPg' := toHid hpg'
      have HDr := toHid hdr
      have HB2 := toHid hb2
      clear hyr hpg' hdr hb2 z0 z1 hzl
      obtain ⟨z0, z1, hzl⟩ := (HL.out.pr.stp (Stp.of HB2.out HL.out.mem.B_le)).cells
      go_wp2_with fail
      refine Calls.mono (pages_any p (stV d) s w2 (HL.out.mem.po.below HB2.out)) ?_
      rintro e w3 ⟨xa, xc, xs, rfl, hxr, hpg, hb3⟩
      have hxl : xs.length ≤ 16 := hpg.len
      have HQ := toHid (q2_new HL.out HY.out HPg'.out HDr.out HB2.out hxr hpg hb3)
      clear hxr hpg hb3 HY HPg' HDr HB2 HL z0 z1 hzl
      go_wp2_with fail
      go_loopw [12] (fun v12 wr => ∃ (i : Nat), v12 = .int .i64 (i : Int) ∧ i ≤ xs.length ∧ ∃ s h, Q2 w wr z p d s k h xs ys xa xc ya yc) (fun v _ => xs.length - (intOf v).toNat)
      case atStart => exact ⟨0, rfl, Nat.zero_le _, _, _, HQ.out⟩
      case round =>
        obtain ⟨i, rfl, hi, s, h, hq⟩ := hrel
        have HQ := toHid hq
        clear hq
        by_cases hlt : i < xs.length
        · have kd : decide ((i : Int) < (xs.length : Int)) = true := by simp; omega
          obtain ⟨j, hj⟩ : ∃ j, xs[i] = j := ⟨_, rfl⟩
          have HJ := toHid hj
          have hmem : j ∈ xs := by rw [← hj]; exact List.getElem_mem hlt
          have HMem := toHid hmem
          clear hj hmem
          go_wp2_with fail
          go_loopw [13, 14] (fun v13 v14 wr2 => ∃ (t : Nat) (b : Bool), v14 = .int .i64 (t : Int) ∧ t ≤ ys.length ∧ v13 = .bool b ∧ (b = true ↔ ∀ x (hx : x < ys.length), x < t → ys[x].1 ≠ j) ∧ Q2 w wr2 z p d s k h xs ys xa xc ya yc) (fun _ v _ => ys.length - (intOf v).toNat)
          case atStart => exact ⟨0, true, rfl, Nat.zero_le _, rfl, by simp, HQ.out⟩
          case round =>
            obtain ⟨t, b, rfl, ht, rfl, hbt, hq⟩ := hrel
            have HQ := toHid hq
            have HBt := toHid hbt
            clear hq hbt
            by_cases htl : t < ys.length
            · have kt : decide ((t : Int) < (ys.length : Int)) = true := by simp; omega
              obtain ⟨gx, rfl, hgx, x0⟩ := own_int HQ.out.xr i hlt
              obtain ⟨gy, rfl, hgy, y0⟩ := own_dr HQ.out.yr t htl
              rw [HJ.out] at x0
              cases b
              · go_wp2_with fail
                go_quiet (fail)
                go_wp2_with fail
                go_roundw
                case rel =>
                  refine ⟨t + 1, false, by simp, by omega, rfl, ?_, HQ.out.on (bdn (Below.refl _ _) _)⟩
                  have := HBt.out
                  simp only [Bool.false_eq_true, false_iff] at this ⊢
                  intro hall
                  exact this fun x hx hxt => hall x hx (by omega)
                case measure => first | omega | (simp only [intOf]; omega)
              · by_cases heq : ys[t].1 = j
                · have hne : (((ys[t].1 : Nat) : Int) != (j : Int)) = false := by simp; omega
                  have HEq := toHid heq
                  clear heq
                  generalize hyt : ys[t].1 = yt at y0 hne HEq
                  have HYt := toHid hyt
                  clear hyt
                  go_wp2_with fail
                  go_quiet (fail)
                  go_wp2_with fail
                  go_roundw
                  case rel =>
                    refine ⟨t + 1, false, by simp, by omega, rfl, ?_, HQ.out.on (bdn (Below.refl _ _) _)⟩
                    simp only [Bool.false_eq_true, false_iff]
                    intro hall
                    exact hall t htl (by omega) (by rw [HYt.out]; exact HEq.out)
                  case measure => first | omega | (simp only [intOf]; omega)
                · have hne : (((ys[t].1 : Nat) : Int) != (j : Int)) = true := by simp; omega
                  have HEq := toHid heq
                  clear heq
                  generalize hyt : ys[t].1 = yt at y0 hne HEq
                  have HYt := toHid hyt
                  clear hyt
                  go_wp2_with fail
                  go_quiet (fail)
                  go_wp2_with fail
                  go_roundw
                  case rel =>
                    refine ⟨t + 1, true, by simp, by omega, rfl, ?_, HQ.out.on (bdn (Below.refl _ _) _)⟩
                    simp only [true_iff]
                    intro x hx hxt
                    by_cases e : x = t
                    · subst e
                      rw [HYt.out]
                      exact HEq.out
                    · exact (HBt.out.1 (by first | rfl | trivial)) x hx (by omega)
                  case measure => first | omega | (simp only [intOf]; omega)
            · have kt : decide ((t : Int) < (ys.length : Int)) = false := by simp; omega
              have hte : t = ys.length := by omega
              have HTe := toHid hte
              clear hte
              cases b
              · go_wp2_with fail
                go_roundw
                case rel => exact ⟨i + 1, by simp, by omega, s, h, HQ.out⟩
                case measure => first | omega | (simp only [intOf]; omega)
              · have hD : s.D j = false := by
                  cases hd : s.D j
                  · rfl
                  · obtain ⟨r, hr⟩ := (HQ.out.hy j HMem.out).2 hd
                    obtain ⟨x, hx, hxe⟩ := List.getElem_of_mem hr
                    exact absurd (by rw [hxe]) ((HBt.out.1 (by first | rfl | trivial)) x hx (by rw [HTe.out]; exact hx))
                obtain ⟨hj16, hhj⟩ := HQ.out.hx j HMem.out
                obtain ⟨hR0, -, -⟩ := HQ.out.inv j hj16 hhj hD
                have hP := (HQ.out.mem.pg j hj16 hhj).1
                have hRz : ((s.R j : Nat) : Int) = 0 := by rw [hR0]; rfl
                have HHj := toHid hhj
                have HD := toHid hD
                clear hR0 hhj hD HBt HTe
                obtain ⟨gx, rfl, hgx, x0⟩ := own_int HQ.out.xr i hlt
                rw [HJ.out] at x0
                obtain ⟨z0, z1, hzl⟩ := HQ.out.pr.cells
                have hS0 : wr.drew.cell? ⟨z, 0, none⟩ = some (.pointer (some ⟨p, 0, none⟩)) ∧ wr.drew.cell? ⟨gx, i, none⟩ = some (.int .i64 (j : Int)) := ⟨z0, x0⟩
                go_wp2_with fail
                go_region_held3 (fun W => W.cell? ⟨z, 0, none⟩ = some (.pointer (some ⟨p, 0, none⟩)) ∧ W.cell? ⟨gx, i, none⟩ = some (.int .i64 (j : Int))) (with_reducible assumption) ((go_at_call 15; refine Calls.mono (take_yes p (stV d) s j wr.drew (HQ.out.on (Below.refl _ _).drew).mem.po hj16 HHj.out) ?_; rintro e w4 ⟨rfl, ho4, r4, a4, c4, hpo4, hf4, hh4, hn4⟩; have HZ := toHid (q2_take HQ.out hj16 HHj.out HD.out ho4 hpo4 hh4 hn4); have HPut : Hid ((Ck.putR r4 (j : Int)).2 = 0) := (put_is hpo4.may (by omega) (by omega) (fun hx => ((hh4 j (by omega)).1 hx).1 rfl) hf4); have HH4 := toHid hh4; rw [hP, hRz]; have hS4 := HZ.out.cells hlt HJ.out; clear ho4 hpo4 hf4 hh4 hn4 z0 z1 hzl x0 hgx hS0))
                clear hS4
                have hS4 : w4.drew.cell? ⟨z, 1, none⟩ = some (.pointer (some ⟨d, 0, none⟩)) ∧ w4.drew.cell? ⟨gx, i, none⟩ = some (.int .i64 (j : Int)) := ⟨HZ.out.pr.cells.2.1, (HZ.out.cells hlt HJ.out).2⟩
                have z1 : w4.cell? ⟨z, 1, none⟩ = some (.pointer (some ⟨d, 0, none⟩)) := hS4.1
                have x0 : w4.cell? ⟨gx, i, none⟩ = some (.int .i64 (j : Int)) := hS4.2
                go_wp2_with fail
                go_region_held3 (fun W => W.cell? ⟨z, 1, none⟩ = some (.pointer (some ⟨d, 0, none⟩)) ∧ W.cell? ⟨gx, i, none⟩ = some (.int .i64 (j : Int))) (with_reducible assumption) ((go_at_call 18; refine Calls.mono (fetch_any d j k w4.drew HZ.out.drew.mem.dk hj16) ?_; rintro e w5 ⟨b2, v2, rfl, hpy, hb5⟩; have HZ6 := toHid (HZ.out.drew.fetch hb5 hpy); have hS5 : w5.cell? ⟨z, 1, none⟩ = some (.pointer (some ⟨d, 0, none⟩)) ∧ w5.cell? ⟨gx, i, none⟩ = some (.int .i64 (j : Int)) := (⟨HZ6.out.pr.cells.2.1, (HZ6.out.cells hlt HJ.out).2⟩); clear hpy hb5 z1 x0 hS4))
                clear hS5 HZ
                go_upto_region 36 with fail
                refine wp36 (by kernel_rfl) (reg36_at HQ HD hlt HJ hj16 HZ6 HPut HH4 ?_ ?_)
                · rfl
                rintro t9 w9 ht9 ⟨s7, h7, hq7⟩
                have HQ7 := toHid hq7
                clear hq7
                unfold put36
                simp only [Act.put, ht9, List.getElem_toArray, List.getElem_cons_zero, List.getElem_cons_succ, List.setIfInBounds_toArray, List.set_cons_zero, List.set_cons_succ]
                go_wp2_with fail
                go_roundw
                case rel => exact ⟨i + 1, by simp, by omega, s7, h7, HQ7.out⟩
                case measure => first | omega | (simp only [intOf]; omega)
        · have kd : decide ((i : Int) < (xs.length : Int)) = false := by simp; omega
          go_wp2_with fail
          refine Calls.mono (HLv.out _) ?_
          rintro e w4 ⟨rfl, hb4⟩
          have hB := HQ.out.below.trans (hb4.mono HQ.out.below.size)
          go_wp2
          go_ret
          exact ⟨rfl, hB⟩
  · have HO := toHid (opened_no n w hn)
    go_enter Try.func4, Try.ntmps4
    go_wp2_with fail
    refine Calls.mono HO.out ?_
    rintro e w1 ⟨rfl, hb⟩
    go_wp2_with fail
    refine Calls.mono (HLv.out _) ?_
    rintro e w2 ⟨rfl, hb2⟩
    have hB := hb.trans (hb2.mono hb.size)
    go_wp2
    go_ret
    exact ⟨rfl, hB⟩
end Go.Proofs.Ytcloinonhpaojaa
