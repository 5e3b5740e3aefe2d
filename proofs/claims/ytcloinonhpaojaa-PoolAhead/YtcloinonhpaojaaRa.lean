/-
  The walk of PoolAhead.
-/
import Derived.Test.YtcloinonhpaojaaQq
namespace Go.Proofs.Ytcloinonhpaojaa
open Go.RowKit

/-- What the loop of PoolAhead holds. -/
structure AhL (w wr : World) (z p d : Nat) (s : Po) (k : Dk) (h : Nat → Pg) (M : Nat) : Prop where
  pr : PrIn wr z p d
  mem : Mem wr w.heap.size p d s k h
  below : Below w.heap.size w wr
  most : k.most ≤ M
  stable : k.stable ≤ M
theorem Rd.ah {w W : World} {b z p d : Nat} {s : Po} {k : Dk} {h : Nat → Pg} {o : Ov} (r : Rd w W b z p d s k h o) {M : Nat} (h1 : k.most ≤ M) (h2 : k.stable ≤ M) : AhL w W z p d s k h M := ⟨r.pr, r.mem, r.below, h1, h2⟩
theorem rd_new {w wr : World} {z p d : Nat} {s : Po} {k : Dk} {h : Nat → Pg} {M : Nat} (L : AhL w wr z p d s k h M) (o : Ov) : Rd w (wr.alloc (.cells o.cells 30)) wr.heap.size z p d s k h o := by
  have hb : Below wr.heap.size wr (wr.alloc (.cells o.cells 30)) := (Below.refl _ _).alloc (Nat.le_refl _) _
  exact ⟨heap_alloc_new _ _, L.pr.stp (Stp.of hb L.mem.B_le), L.mem.below hb, L.below.trans (hb.mono L.below.size)⟩

theorem ah_rel {w W : World} {b z p d : Nat} {s : Po} {k : Dk} {h : Nat → Pg} {o : Ov} {l : List Ov} {M i : Nat} (r : Rd w W b z p d s k h o) (h1 : k.most ≤ M) (h2 : k.stable ≤ M) (hi : i < l.length) (h80 : i < 80) :
    ∃ (M' i' : Nat), (Value.int .u64 (M : Int)) = .int .u64 (M' : Int) ∧ (Value.int .i64 ((i : Int) + 1)) = .int .i64 (i' : Int) ∧ i' ≤ l.length ∧ i' ≤ 80 ∧ ∃ s k h, AhL w W z p d s k h M' :=
  ⟨M, i + 1, rfl, by simp, by omega, by omega, s, k, h, r.ah h1 h2⟩

set_option maxRecDepth 20000 in
set_option maxHeartbeats 8000000 in
theorem ahead_walk (n : Int) (a : Option Addr) (c : Nat) (l : List Ov) (w : World) (hsl : SlO w a l) (hll : l.length ≤ maxLen) :
    Calls Try.prog 3 #[.int .i64 n, .slice a l.length c] w fun e w' => e = .returned (.bool true) ∧ Below w.heap.size w w' := by
  have HLv := toHid lives_any
  by_cases hn : 1 ≤ n ∧ n ≤ 16
  · obtain ⟨m, rfl⟩ : ∃ m : Nat, n = (m : Int) := ⟨n.toNat, by omega⟩
    have HO := toHid (opened_yes m w (by omega) (by omega))
    have HSl := toHid hsl
    have hll' : l.length ≤ 9223372036854775807 := hll
    clear hsl hn hll
    go_enter Try.func3, Try.ntmps3
    go_wp2_with fail
    refine Calls.mono HO.out ?_
    rintro e w1 ⟨z, p, d, ra, rc, rfl, hpr, hm, hb⟩
    have HA := toHid (show AhL w w1 z p d (po0 m ra rc) dk0 pg0 0 from ⟨hpr, hm, hb, Nat.le_refl _, Nat.le_refl _⟩)
    clear HO hpr hm hb
    go_wp2_with fail
    go_loopw [7, 8] (fun v7 v8 wr => ∃ (M i : Nat), v7 = .int .u64 (M : Int) ∧ v8 = .int .i64 (i : Int) ∧ i ≤ l.length ∧ i ≤ 80 ∧ ∃ s k h, AhL w wr z p d s k h M) (fun _ v _ => 80 - (intOf v).toNat)
    case atStart => exact ⟨0, 0, rfl, rfl, Nat.zero_le _, by decide, _, _, _, HA.out⟩
    case round =>
      obtain ⟨M, i, rfl, rfl, hi, h80, s, k, h, hL⟩ := hrel
      have HL := toHid hL
      clear hL HA
      have HLB := toHid HL.out.below
      by_cases hlt : i < l.length
      · by_cases hlt8 : i < 80
        · have kd : decide ((i : Int) < (l.length : Int)) = true := by simp; omega
          have kd8 : decide ((i : Int) < 80) = true := by simp; omega
          obtain ⟨sb, so, rfl, hsb, s0, s1, s2, s3, s4, s5⟩ := (HSl.out.below HL.out.below rfl).at i hlt
          have HR := toHid (rd_new HL.out l[i])
          have HW := toHid (HSl.out.small l[i] (List.getElem_mem hlt))
          have hM1 := HL.out.most
          have hM2 := HL.out.stable
          generalize l[i] = o at *
          obtain ⟨W, hWq⟩ : ∃ W, W = wr.alloc (.cells #[.int .i64 o.kind, .int .i64 o.page, .int .u64 (o.tm : Int), .int .u64 (o.rec_ : Int), .string (txt o.key), .string (txt o.val)] 30) := ⟨_, rfl⟩
          have HWq := toHid hWq
          replace HR : Hid (Rd w W wr.heap.size z p d s k h o) := by rw [hWq]; exact HR.out
          clear hWq
          clear HLB
          cases hg : decide (1000 < wrap64 (((txt o.key).size : Int) + ((txt o.val).size : Int)))
          · by_cases hK : o.kind = 0
            · have hk0 : (o.kind == 0) = true := by simpa using hK
              clear hK
              go_wp2_with fail
              rw [← HWq.out]
              clear HWq s0 s1 s2 s3 s4 s5 hsb
              obtain ⟨b0, b1, b2, b3, b4, b5, hbl⟩ := HR.out.cells
              obtain ⟨z0, z1, hzl⟩ := HR.out.pr.cells
              obtain ⟨n0, n1, f0, f1, hdl⟩ := HR.out.mem.dk.nums
              refine wp_region_quiet_tail 6 Try.mixed (by kernel_rfl) ?_
              simp only [List.take_succ_cons, List.take_zero, List.drop_succ_cons, List.drop_zero]
              repeat (go_big_quiet_step (fail))
              refine wpQuiet_nil ?_
              go_wp2_with fail
              refine Calls.mono (load_rd HR.out.drew o.page) ?_
              rintro e w2 ⟨n2, s2, h2, rfl, hr2, -⟩
              have HR := toHid hr2
              clear hr2
              clear b0 b1 b2 b3 b4 b5 hbl z0 z1 hzl n0 n1 f0 f1 hdl
              obtain ⟨b0, b1, b2, b3, b4, b5, hbl⟩ := HR.out.cells
              obtain ⟨z0, z1, hzl⟩ := HR.out.pr.cells
              obtain ⟨n0, n1, f0, f1, hdl⟩ := HR.out.mem.dk.nums
              have mm : decide ((M : Int) < (k.most : Int)) = false := by simp; omega
              go_wp2_with fail
              go_roundw
              case rel => exact ah_rel HR.out (by simpa [laid] using hM1) hM2 hlt hlt8
              case measure => first | omega | (simp only [intOf]; omega)
            have hN0 := hK
            clear hK
            by_cases hK : o.kind = 2
            · have hk0 : (o.kind == 0) = false := by simpa using hN0
              have hk2 : (o.kind == 2) = true := by simpa using hK
              clear hK
              go_wp2_with fail
              rw [← HWq.out]
              clear HWq s0 s1 s2 s3 s4 s5 hsb
              obtain ⟨b0, b1, b2, b3, b4, b5, hbl⟩ := HR.out.cells
              obtain ⟨z0, z1, hzl⟩ := HR.out.pr.cells
              obtain ⟨n0, n1, f0, f1, hdl⟩ := HR.out.mem.dk.nums
              refine wp_region_quiet_tail 6 Try.mixed (by kernel_rfl) ?_
              simp only [List.take_succ_cons, List.take_zero, List.drop_succ_cons, List.drop_zero]
              repeat (go_big_quiet_step (fail))
              refine wpQuiet_nil ?_
              go_wp2_with fail
              refine Calls.mono (get_rd HR.out.drew o.page) ?_
              rintro e w2 hg2
              rcases hg2 with ⟨rfl, hr2⟩ | ⟨x, s2, hx, hx16, hh2, rfl, hr2, -, -, -⟩
              · have HR := toHid hr2
                clear hr2
                clear b0 b1 b2 b3 b4 b5 hbl z0 z1 hzl n0 n1 f0 f1 hdl
                obtain ⟨b0, b1, b2, b3, b4, b5, hbl⟩ := HR.out.cells
                obtain ⟨z0, z1, hzl⟩ := HR.out.pr.cells
                obtain ⟨n0, n1, f0, f1, hdl⟩ := HR.out.mem.dk.nums
                have mm : decide ((M : Int) < (k.most : Int)) = false := by simp; omega
                go_wp2_with fail
                go_roundw
                case rel => exact ah_rel HR.out (by simpa [laid] using hM1) hM2 hlt hlt8
                case measure => first | omega | (simp only [intOf]; omega)
              · have HR := toHid hr2
                have HX := toHid hx
                have HH := toHid hh2
                clear hr2 hx hh2
                clear b0 b1 b2 b3 b4 b5 hbl z0 z1 hzl n0 n1 f0 f1 hdl
                obtain ⟨b0, b1, b2, b3, b4, b5, hbl⟩ := HR.out.cells
                obtain ⟨z0, z1, hzl⟩ := HR.out.pr.cells
                obtain ⟨n0, n1, f0, f1, hdl⟩ := HR.out.mem.dk.nums
                go_wp2_with fail
                refine Calls.mono (insert_rd HR.out HW.out x hx16 HH.out) ?_
                rintro e w3 ⟨n3, v3, l3, rfl, hr3⟩
                have HR := toHid hr3
                clear hr3
                clear b0 b1 b2 b3 b4 b5 hbl z0 z1 hzl n0 n1 f0 f1 hdl
                obtain ⟨b0, b1, b2, b3, b4, b5, hbl⟩ := HR.out.cells
                obtain ⟨z0, z1, hzl⟩ := HR.out.pr.cells
                obtain ⟨n0, n1, f0, f1, hdl⟩ := HR.out.mem.dk.nums
                have HS := toHid (stamp_rd HR.out HW.out x hx16 HH.out)
                simp only [upd_self] at HS
                go_wp2_with fail
                refine Calls.mono HS.out ?_
                rintro e w4 ⟨rfl, hr4⟩
                have HR := toHid hr4
                clear hr4 HS
                clear b0 b1 b2 b3 b4 b5 hbl z0 z1 hzl n0 n1 f0 f1 hdl
                obtain ⟨b0, b1, b2, b3, b4, b5, hbl⟩ := HR.out.cells
                obtain ⟨z0, z1, hzl⟩ := HR.out.pr.cells
                obtain ⟨n0, n1, f0, f1, hdl⟩ := HR.out.mem.dk.nums
                rw [HX.out] at b1
                go_wp2_with fail
                refine wp_region_quiet_tail 8 Try.mixed (by kernel_rfl) ?_
                simp only [List.take_succ_cons, List.take_zero, List.drop_succ_cons, List.drop_zero]
                repeat (go_big_quiet_step (fail))
                refine wpQuiet_nil ?_
                go_wp2_with fail
                refine Calls.mono (soil_rd HR.out.drew x o.tm hx16 HH.out) ?_
                rintro e w5 ⟨m5, rfl, hr5⟩
                have HR := toHid hr5
                clear hr5
                clear b0 b1 b2 b3 b4 b5 hbl z0 z1 hzl n0 n1 f0 f1 hdl
                obtain ⟨b0, b1, b2, b3, b4, b5, hbl⟩ := HR.out.cells
                obtain ⟨z0, z1, hzl⟩ := HR.out.pr.cells
                obtain ⟨n0, n1, f0, f1, hdl⟩ := HR.out.mem.dk.nums
                have mm : decide ((M : Int) < (k.most : Int)) = false := by simp; omega
                go_wp2_with fail
                go_roundw
                case rel => exact ah_rel HR.out (by simpa [laid] using hM1) hM2 hlt hlt8
                case measure => first | omega | (simp only [intOf]; omega)
            have hN2 := hK
            clear hK
            by_cases hK : o.kind = 3
            · have hk0 : (o.kind == 0) = false := by simpa using hN0
              have hk2 : (o.kind == 2) = false := by simpa using hN2
              have hk3 : (o.kind == 3) = true := by simpa using hK
              clear hK
              go_wp2_with fail
              rw [← HWq.out]
              clear HWq s0 s1 s2 s3 s4 s5 hsb
              obtain ⟨b0, b1, b2, b3, b4, b5, hbl⟩ := HR.out.cells
              obtain ⟨z0, z1, hzl⟩ := HR.out.pr.cells
              obtain ⟨n0, n1, f0, f1, hdl⟩ := HR.out.mem.dk.nums
              refine wp_region_quiet_tail 6 Try.mixed (by kernel_rfl) ?_
              simp only [List.take_succ_cons, List.take_zero, List.drop_succ_cons, List.drop_zero]
              repeat (go_big_quiet_step (fail))
              refine wpQuiet_nil ?_
              go_wp2_with fail
              refine Calls.mono (clean_rd HR.out.drew o.page) ?_
              rintro e w2 ⟨n2, s2, k2, rfl, hr2, hc2⟩
              have HR := toHid hr2
              have hM1' : k2.most ≤ M ∧ k2.stable ≤ M := by
                rcases hc2 with ⟨-, e⟩ | ⟨x, -, -, hle, -, e⟩
                · rw [e]; exact ⟨hM1, hM2⟩
                · rw [e]; simp only [laid]; omega
              obtain ⟨hM1, hM2⟩ := hM1'
              clear hr2 hc2
              clear b0 b1 b2 b3 b4 b5 hbl z0 z1 hzl n0 n1 f0 f1 hdl
              obtain ⟨b0, b1, b2, b3, b4, b5, hbl⟩ := HR.out.cells
              obtain ⟨z0, z1, hzl⟩ := HR.out.pr.cells
              obtain ⟨n0, n1, f0, f1, hdl⟩ := HR.out.mem.dk.nums
              have mm : decide ((M : Int) < (k2.most : Int)) = false := by simp; omega
              go_wp2_with fail
              go_roundw
              case rel => exact ah_rel HR.out (by simpa [laid] using hM1) hM2 hlt hlt8
              case measure => first | omega | (simp only [intOf]; omega)
            have hN3 := hK
            clear hK
            by_cases hK : o.kind = 4
            · have hk0 : (o.kind == 0) = false := by simpa using hN0
              have hk2 : (o.kind == 2) = false := by simpa using hN2
              have hk3 : (o.kind == 3) = false := by simpa using hN3
              have hk4 : (o.kind == 4) = true := by simpa using hK
              clear hK
              go_wp2_with fail
              rw [← HWq.out]
              clear HWq s0 s1 s2 s3 s4 s5 hsb
              obtain ⟨b0, b1, b2, b3, b4, b5, hbl⟩ := HR.out.cells
              obtain ⟨z0, z1, hzl⟩ := HR.out.pr.cells
              obtain ⟨n0, n1, f0, f1, hdl⟩ := HR.out.mem.dk.nums
              refine wp_region_quiet_tail 6 Try.mixed (by kernel_rfl) ?_
              simp only [List.take_succ_cons, List.take_zero, List.drop_succ_cons, List.drop_zero]
              repeat (go_big_quiet_step (fail))
              refine wpQuiet_nil ?_
              go_wp2_with fail
              refine Calls.mono (take_rd HR.out.drew o.page) ?_
              rintro e w2 ⟨v2, s2, rfl, hr2⟩
              have HR := toHid hr2
              clear hr2
              clear b0 b1 b2 b3 b4 b5 hbl z0 z1 hzl n0 n1 f0 f1 hdl
              obtain ⟨b0, b1, b2, b3, b4, b5, hbl⟩ := HR.out.cells
              obtain ⟨z0, z1, hzl⟩ := HR.out.pr.cells
              obtain ⟨n0, n1, f0, f1, hdl⟩ := HR.out.mem.dk.nums
              have mm : decide ((M : Int) < (k.most : Int)) = false := by simp; omega
              go_wp2_with fail
              go_roundw
              case rel => exact ah_rel HR.out (by simpa [laid] using hM1) hM2 hlt hlt8
              case measure => first | omega | (simp only [intOf]; omega)
            have hN4 := hK
            clear hK
            by_cases hK : o.kind = 6
            · have hk0 : (o.kind == 0) = false := by simpa using hN0
              have hk2 : (o.kind == 2) = false := by simpa using hN2
              have hk3 : (o.kind == 3) = false := by simpa using hN3
              have hk4 : (o.kind == 4) = false := by simpa using hN4
              have hk6 : (o.kind == 6) = true := by simpa using hK
              clear hK
              go_wp2_with fail
              rw [← HWq.out]
              clear HWq s0 s1 s2 s3 s4 s5 hsb
              obtain ⟨b0, b1, b2, b3, b4, b5, hbl⟩ := HR.out.cells
              obtain ⟨z0, z1, hzl⟩ := HR.out.pr.cells
              obtain ⟨n0, n1, f0, f1, hdl⟩ := HR.out.mem.dk.nums
              go_region
              have HR := toHid (HR.out.stable o.tm).drew
              generalize World.drew _ = W2 at HR ⊢
              clear b0 b1 b2 b3 b4 b5 hbl z0 z1 hzl n0 n1 f0 f1 hdl
              obtain ⟨b0, b1, b2, b3, b4, b5, hbl⟩ := HR.out.cells
              obtain ⟨z0, z1, hzl⟩ := HR.out.pr.cells
              obtain ⟨n0, n1, f0, f1, hdl⟩ := HR.out.mem.dk.nums
              simp only at n0
              by_cases hgt : M < o.tm
              · have md : decide ((M : Int) < (o.tm : Int)) = true := by simp; omega
                have mm : decide ((o.tm : Int) < (k.most : Int)) = false := by simp; omega
                go_wp2_with fail
                go_roundw
                case rel => exact ah_rel HR.out (by simp only; omega) (by simp) hlt hlt8
                case measure => first | omega | (simp only [intOf]; omega)
              · have md : decide ((M : Int) < (o.tm : Int)) = false := by simp; omega
                have mm : decide ((M : Int) < (k.most : Int)) = false := by simp; omega
                go_wp2_with fail
                go_roundw
                case rel => exact ah_rel HR.out hM1 (by simp only; omega) hlt hlt8
                case measure => first | omega | (simp only [intOf]; omega)
            have hN6 := hK
            clear hK
            have hk0 : (o.kind == 0) = false := by simpa using hN0
            have hk2 : (o.kind == 2) = false := by simpa using hN2
            have hk3 : (o.kind == 3) = false := by simpa using hN3
            have hk4 : (o.kind == 4) = false := by simpa using hN4
            have hk6 : (o.kind == 6) = false := by simpa using hN6
            obtain ⟨z0, z1, hzl⟩ := HL.out.pr.cells
            obtain ⟨n0, n1, f0, f1, hdl⟩ := HL.out.mem.dk.nums
            have hzn : z ≠ wr.heap.size := by omega
            have hdn : d ≠ wr.heap.size := by omega
            have mm : decide ((M : Int) < (k.most : Int)) = false := by simp; omega
            go_wp2_with fail
            rw [← HWq.out]
            go_roundw
            case rel => exact ah_rel HR.out (by simpa [laid] using hM1) hM2 hlt hlt8
            case measure => first | omega | (simp only [intOf]; omega)
          · go_wp2_with fail
            rw [← HWq.out]
            refine Calls.mono (HLv.out _) ?_
            rintro e w2 ⟨rfl, hb2⟩
            have hB := HR.out.below.trans (hb2.mono HR.out.below.size)
            go_wp2
            go_ret
            exact ⟨rfl, hB⟩
        · have kd : decide ((i : Int) < (l.length : Int)) = true := by simp; omega
          have kd8 : decide ((i : Int) < 80) = false := by simp; omega
          clear HL HSl
          go_wp2_with fail
          refine Calls.mono (HLv.out _) ?_
          rintro e w2 ⟨rfl, hb2⟩
          have hB := HLB.out.trans (hb2.mono HLB.out.size)
          go_wp2
          go_ret
          exact ⟨rfl, hB⟩
      · have kd : decide ((i : Int) < (l.length : Int)) = false := by simp; omega
        clear HL HSl
        go_wp2_with fail
        refine Calls.mono (HLv.out _) ?_
        rintro e w2 ⟨rfl, hb2⟩
        have hB := HLB.out.trans (hb2.mono HLB.out.size)
        go_wp2
        go_ret
        exact ⟨rfl, hB⟩
  · have HO := toHid (opened_no n w hn)
    go_enter Try.func3, Try.ntmps3
    go_wp2_with fail
    refine Calls.mono HO.out ?_
    rintro e w1 ⟨rfl, hb⟩
    go_wp2_with fail
    refine Calls.mono (HLv.out _) ?_
    rintro e w2 ⟨rfl, hb2⟩
    have hB := hb.trans (hb2.mono hb.size)
    go_wp2
    go_ret
    exact ⟨rfl, hB⟩
end Go.Proofs.Ytcloinonhpaojaa
