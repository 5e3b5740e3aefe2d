/-
  Texts put together: Bd Be Rf.
-/
import Derived.Test.YtebchgoaelamcaaDoorX5
namespace Go.Proofs.YtebchgoaelamcaaDoor
open Go.RowKit
set_option maxRecDepth 100000

theorem slotAt' (x : Int) (i s : Nat) (w : World) (hx : x = (i : Int)) (hs : s = 16 + 4 * i) (h : i ≤ 1000000) : Calls Tryd.prog 41 #[.int .i64 x] w fun e w' => e = .returned (.int .i64 (s : Int)) ∧ w' = w := by
  subst hx hs
  exact slotAt_any i w h

/-- A new block of noughts. -/
theorem make_buf (W : World) : (Instr.makeSlice 42 (.int .i64 512) (.int .i64 512)).run Tryd.prog W = .ok (.slice (some ⟨W.heap.size, 0, none⟩) 512 512) (W.alloc (.cells (bcells (List.replicate 512 0)).toArray 5)) := by
  obtain ⟨i0, hi, hz0, hz1, hz2⟩ := info_parts Tryd.info5
  have h := run_make (P := Tryd.prog) W 42 5 i0 (.int .u8 0) Tryd.underlying42 hi hz0 .i64 .i64 512 512 (by omega) (by omega) (by rw [hz2]; omega) (by omega)
  rw [hz1] at h
  have e : madeCells (Value.int .u8 0).cells (Int.toNat 512 * 1) = (bcells (List.replicate 512 0)).toArray := by kernel_rfl
  rw [e] at h
  exact h

theorem wrap_u (k : Int) (h : 0 ≤ k) (h' : k < 18446744073709551616) : IntKind.u64.wrap k = k := by
  rw [IntKind.wrap_u64]
  omega

end Go.Proofs.YtebchgoaelamcaaDoor

namespace Go.Proofs.YtebchgoaelamcaaDoor
open Go.RowKit
set_option maxRecDepth 100000

set_option maxRecDepth 20000 in
set_option maxHeartbeats 2000000 in
theorem bytes_any (B p : Nat) (id lsn : Nat) (v : Value) (l : List Cl) (w : World) (h : PgOk w B p (id : Int) lsn v l) (hg : GoodL l) (hid : id < 16) :
    Calls Tryd.prog 19 #[.pointer (some ⟨p, 0, none⟩)] w fun e w' => ∃ G, e = .returned (.slice (some ⟨G, 0, none⟩) 512 512) ∧ w.heap.size ≤ G ∧ Buf w' G (pageB id lsn l) ∧ Below w.heap.size w w' := by
  have h64 := hg.few
  have hroom := hg.room
  have HG := (show Hid _ from hg)
  have HP := (show Hid _ from h)
  have hpz := lt_of_blk h.blk
  obtain ⟨a, cap, rfl⟩ := ownsRow_shape h.own
  have hmk := make_buf
  have HZ : Hid (Buf (w.alloc (.cells (bcells (List.replicate 512 0)).toArray 5)) w.heap.size (List.replicate 512 0)) := heap_alloc_new _ _
  have hzl : (List.replicate 512 (0 : UInt8)).length = 512 := List.length_replicate
  have HCZ : Hid (∀ L, L = List.replicate 512 (0 : UInt8) → over (over (over L 4 (leB lsn 8)) 12 (leB id 2)) 14 (leB l.length 2) = contP id lsn l 0) := fun L hL => by subst hL; exact cont_zero id lsn l
  generalize hZd : List.replicate 512 (0 : UInt8) = Z at *
  have HB0 : Hid (Below w.heap.size w (w.alloc (.cells (bcells Z).toArray 5))) := (Below.refl _ _).alloc (Nat.le_refl _) _
  obtain ⟨p0, p1, p2, f0, f1, f2, hz⟩ := (h.below HB0.out (Nat.le_refl _)).cells
  clear h hg
  have hw1 := wrap_u (id : Int) (by omega) (by omega)
  have hw2 := wrap_u (l.length : Int) (by omega) (by omega)
  go_enter Tryd.func19, Tryd.ntmps19
  go_wp2_with fail
  refine wp_region_quiet_tail 6 Tryd.mixed (by kernel_rfl) ?_
  simp only [List.take_succ_cons, List.take_zero, List.drop_succ_cons, List.drop_zero]
  repeat (go_big_quiet_step (fail))
  refine wpQuiet_nil ?_
  go_wp2_with fail
  have hG0 : w.heap.size < (w.alloc (.cells (bcells Z).toArray 5)).heap.size := by simp
  have HBB : Hid (∀ {W W' : World}, Below w.heap.size w W → w.heap.size < W.heap.size → Touch w.heap.size none W W' → Below w.heap.size w W' ∧ w.heap.size < W'.heap.size) := fun hW hz hT => ⟨hW.trans (hT.below (Nat.le_refl _) (by simp) (by omega)), Nat.lt_of_lt_of_le hz hT.size⟩
  refine Calls.mono (lay_any w.heap.size 4 8 508 lsn Z _ HZ.out (by omega) (by omega)) ?_
  rintro e w1 ⟨rfl, hb1, ht1⟩
  obtain ⟨hB1, hz1⟩ := HBB.out HB0.out.drew (by simp) ht1
  have l1 := over_length Z 4 (leB lsn 8) (by rw [leB_length]; omega)
  have HB1 := (show Hid _ from hB1)
  have HU1 := (show Hid _ from hb1)
  clear hB1 ht1 hb1 p0 p1 p2 f0 f1 f2 hz hmk
  obtain ⟨p0, p1, p2, f0, f1, f2, hz⟩ := (HP.out.below HB1.out (Nat.le_refl _)).cells
  go_wp2_with fail
  refine wp_region_quiet_tail 7 Tryd.mixed (by kernel_rfl) ?_
  simp only [List.take_succ_cons, List.take_zero, List.drop_succ_cons, List.drop_zero]
  repeat (go_big_quiet_step (fail))
  refine wpQuiet_nil ?_
  go_wp2_with fail
  refine Calls.mono (lay_any w.heap.size 12 2 500 id _ _ HU1.out (by omega) (by omega)) ?_
  rintro e w2 ⟨rfl, hb2, ht2⟩
  obtain ⟨hB2, hz2⟩ := HBB.out HB1.out.drew hz1 ht2
  have l2 := over_length (over Z 4 (leB lsn 8)) 12 (leB id 2) (by rw [leB_length]; omega)
  have HB2 := (show Hid _ from hB2)
  have HU2 := (show Hid _ from hb2)
  clear hB2 ht2 hb2 p0 p1 p2 f0 f1 f2 hz
  obtain ⟨p0, p1, p2, f0, f1, f2, hz⟩ := (HP.out.below HB2.out (Nat.le_refl _)).cells
  go_wp2_with fail
  refine wp_region_quiet_tail 8 Tryd.mixed (by kernel_rfl) ?_
  simp only [List.take_succ_cons, List.take_zero, List.drop_succ_cons, List.drop_zero]
  repeat (go_big_quiet_step (fail))
  refine wpQuiet_nil ?_
  go_wp2_with fail
  refine Calls.mono (lay_any w.heap.size 14 2 498 l.length _ _ HU2.out (by omega) (by omega)) ?_
  rintro e w3 ⟨rfl, hb3, ht3⟩
  obtain ⟨hB3, hz3⟩ := HBB.out HB2.out.drew hz2 ht3
  rw [HCZ.out Z rfl] at hb3
  have HB3 := (show Hid _ from hB3)
  have HU3 := (show Hid _ from hb3)
  have HSL := (show Hid _ from (slC_of_own HP.out.own).1)
  clear hB3 ht3 hb3 p0 p1 p2 f0 f1 f2 hz HCZ HU1 HU2 hw1 hw2
  obtain ⟨p0, p1, p2, f0, f1, f2, hz⟩ := (HP.out.below HB3.out (Nat.le_refl _)).cells
  go_wp2_with fail
  go_loopw [4, 44] (fun e i wr => ∃ k : Nat, k ≤ l.length ∧ i = .int .i64 k ∧ e = .int .i64 ((512 - sumC (l.take k) : Nat) : Int) ∧ Buf wr w.heap.size (contP id lsn l k) ∧ Below w.heap.size w wr ∧ w.heap.size < wr.heap.size) (fun _ i _ => l.length - (intOf i).toNat)
  case atStart => exact ⟨0, Nat.zero_le _, rfl, by simp [sumC], HU3.out, HB3.out, hz3⟩
  case round =>
    obtain ⟨k, hk, rfl, rfl, hbuf, hB, hzr⟩ := hrel
    have HBr := (show Hid _ from hB)
    have HUr := (show Hid _ from hbuf)
    have hlc := contP_length id lsn l hroom k hk
    by_cases hlt : k < l.length
    · obtain ⟨b, o, rfl, hbl, c0, c1, c2⟩ := (HSL.out.below hB).at k hlt
      have hgd := HG.out.cells l[k] (List.getElem_mem hlt)
      have hsm := HG.out.small l[k] (List.getElem_mem hlt)
      have hrt := room_take l hroom (k + 1) hlt
      have hst := sumC_take l k hlt
      have hk1 : k ≤ 64 := by omega
      clear hB hbuf
      have hBA := (show Hid _ from HBr.out.alloc HBr.out.size (.cells (cellV l[k]) 55))
      have HX := (show Hid _ from cellSize_any l[k] (wr.alloc (.cells (cellV l[k]) 55)) (by omega))
      have HUA : Hid (Buf (wr.alloc (.cells (cellV l[k]) 55)) w.heap.size (contP id lsn l k)) := Buf.below HUr.out ((Below.refl wr.heap.size wr).alloc (Nat.le_refl _) _) (Nat.le_refl _)
      simp only [cellV] at hBA HX HUA
      obtain ⟨E, hE⟩ : ∃ E, 512 - sumC (l.take k) = E := ⟨_, rfl⟩
      rw [hE]
      go_wp2_with fail
      refine Calls.mono HX.out ?_
      rintro e w4 ⟨rfl, hb4⟩
      have hk4 := box_in hb4
      have HB4 := (show Hid _ from below_on hBA.out hb4)
      have HU4 := (show Hid _ from Buf.below HUA.out hb4 (Nat.le_refl _))
      have hz4 : wr.heap.size < w4.heap.size := lt_of_blk hk4
      obtain ⟨q0, q1, q2, _⟩ := cell3 hk4
      clear HX hb4 hBA HUA HUr
      cases hu : l[k].used
      · have hz0 : sizeC l[k] = 0 := by simp [sizeC, hu]
        rw [hz0]
        go_wp2_with fail
        go_roundw
        case rel =>
          refine ⟨k + 1, by omega, by simp, by rw [hst, hz0, Nat.add_zero, hE], ?_, HB4.out, by omega⟩
          rw [cont_free id lsn l hroom k hlt hu]
          exact HU4.out
        case measure => first | omega | (simp only [intOf]; omega)
      · have hgk : 1 ≤ l[k].key.length := by have := hgd; simp [goodC, hu] at this; omega
        have hsz : sizeC l[k] = 1 + l[k].key.length + l[k].val.length := by simp [sizeC, hu]
        obtain ⟨bg, hbg⟩ : ∃ bg : Nat, bg + sizeC l[k] = E := ⟨E - sizeC l[k], by omega⟩
        have hb1 : (E : Int) - (sizeC l[k] : Int) = (bg : Int) := by omega
        have hne0 : ((sizeC l[k] : Int) == 0) = false := by simp; omega
        have HCU := (show Hid _ from cont_used id lsn l hroom k hlt hu bg (by omega))
        have hcb := cellB_length l[k]
        have hE5 : E ≤ 512 := by omega
        rw [hu] at q0
        obtain ⟨s, hs⟩ : ∃ s, s = 16 + 4 * k := ⟨_, rfl⟩
        obtain ⟨s2, hs2⟩ : ∃ s2, s2 = 16 + 4 * (k + 1) := ⟨_, rfl⟩
        have hs4 : s2 - s = 4 := by omega
        have d1 : s ≤ s2 := by omega
        have d2 : s2 ≤ 512 := by omega
        have d3 : bg ≤ E := by omega
        have d4 : E - bg = sizeC l[k] := by omega
        have d5 : s + 4 ≤ 512 := by omega
        have hws := wrap_u (sizeC l[k] : Int) (by omega) (by omega)
        have hwb := wrap_u (bg : Int) (by omega) (by omega)
        have HX := (show Hid _ from layCell_any w.heap.size bg (512 - bg) (contP id lsn l k) l[k] w4.drew HU4.out hu (by omega) (by omega) (by omega))
        simp only [cellV] at HX
        rw [hu] at HX
        have d6 : ¬ bg = 512 := by omega
        have d7 : ¬ 512 - bg = 0 := by omega
        have d8 : ¬ 512 ≤ bg := by omega
        have d9 : ¬ s = 512 := by omega
        have d10 : ¬ 512 ≤ s := by omega
        have d11 : ¬ 512 - s = 0 := by omega
        have d12 : s ≤ 512 := by omega
        have d13 : bg ≤ 512 := by omega
        have HS := (show Hid _ from hs)
        have HS2 := (show Hid _ from hs2)
        clear hs hs2 hrt hst hsz hcb
        go_wp2_with fail
        refine wp_region_quiet_tail 5 Tryd.mixed (by kernel_rfl) ?_
        simp only [List.take_succ_cons, List.take_zero, List.drop_succ_cons, List.drop_zero]
        repeat (go_big_quiet_step (fail))
        refine wpQuiet_nil ?_
        go_wp2_with fail
        refine Calls.mono HX.out ?_
        rintro e w5 ⟨rfl, hb5, ht5⟩
        obtain ⟨hB5, hz5⟩ := HBB.out HB4.out.drew (by simp; omega) ht5
        have l5 := over_length (contP id lsn l k) bg (cellB l[k]) (by rw [cellB_length]; omega)
        have HU5 := (show Hid _ from hb5)
        have HB5 := (show Hid _ from hB5)
        clear hb5 hB5 ht5 HX HU4 HB4 q0 q1 q2 hk4
        go_wp2_with fail
        refine Calls.mono (slotAt' _ k s _ (by simp) HS.out (by omega)) ?_
        rintro e w6 ⟨rfl, hw6⟩
        obtain rfl := hw6.symm
        go_wp2_with fail
        refine Calls.mono (slotAt' _ (k + 1) s2 _ (by simp) HS2.out (by omega)) ?_
        rintro e w7 ⟨rfl, hw7⟩
        obtain rfl := hw7.symm
        go_wp2_with fail
        refine Calls.mono (lay_any w.heap.size s 2 (512 - s) bg _ _ HU5.out (by omega) (by omega)) ?_
        rintro e w8 ⟨rfl, hb8, ht8⟩
        obtain ⟨hB8, hz8⟩ := HBB.out HB5.out hz5 ht8
        have l8 := over_length (over (contP id lsn l k) bg (cellB l[k])) s (leB bg 2) (by rw [leB_length]; omega)
        have HU8 := (show Hid _ from hb8)
        have HB8 := (show Hid _ from hB8)
        clear hb8 hB8 ht8 HU5 HB5
        have d14 : ¬ 512 - s = 2 := by omega
        have d15 : 2 ≤ 512 - s := by omega
        go_wp2_with fail
        refine Calls.mono (lay_any w.heap.size (s + 2) 2 (512 - s - 2) (sizeC l[k]) _ _ HU8.out (by omega) (by omega)) ?_
        rintro e w9 ⟨rfl, hb9, ht9⟩
        obtain ⟨hB9, hz9⟩ := HBB.out HB8.out hz8 ht9
        have HU9 : Hid (Buf w9 w.heap.size (contP id lsn l (k + 1))) := by
          have := HCU.out
          rw [← HS.out] at this
          rw [← this]
          exact hb9
        have HB9 := (show Hid _ from hB9)
        clear hb9 hB9 ht9 HU8 HB8
        go_wp2_with fail
        go_roundw
        case rel => exact ⟨k + 1, by omega, by simp, by rw [sumC_take l k hlt]; congr 2; omega, HU9.out, HB9.out, hz9⟩
        case measure => first | omega | (simp only [intOf]; omega)
    · obtain rfl : k = l.length := by omega
      have hd : ((contP id lsn l l.length).drop 4).length = 508 := by rw [List.length_drop, hlc]
      have HX := (show Hid _ from sum_any (some ⟨w.heap.size, 4, none⟩) 508 ((contP id lsn l l.length).drop 4) wr.drew (Buf.slB (w := wr.drew) hbuf 4) (by rw [hd]; unfold maxLen; omega))
      rw [hd] at HX
      have hml := more_lt 0 ((contP id lsn l l.length).drop 4)
      have hwm := wrap_u (more 0 ((contP id lsn l l.length).drop 4) : Int) (by omega) (by omega)
      have HCE := (show Hid _ from cont_end id lsn l)
      have HL : Hid (∀ W, Below wr.drew.heap.size wr.drew W → Calls Tryd.prog 38 #[.slice (some ⟨w.heap.size, 0, none⟩) 4 512, .int .u64 (more 0 ((contP id lsn l l.length).drop 4) : Nat)] W fun e w' => e = .returned (.tuple #[]) ∧ Buf w' w.heap.size (pageB id lsn l) ∧ Below w.heap.size w w') := fun W hW => by
        have hU : Buf W w.heap.size (contP id lsn l l.length) := Buf.below (w := wr.drew) HUr.out hW (Nat.le_refl _)
        refine Calls.mono (lay_any w.heap.size 0 4 512 (more 0 ((contP id lsn l l.length).drop 4)) _ W hU (by omega) (by omega)) ?_
        rintro e w6 ⟨rfl, hb6, ht6⟩
        rw [HCE.out] at hb6
        exact ⟨rfl, hb6, (HBB.out (below_on HBr.out.drew hW) (Nat.lt_of_lt_of_le hzr hW.size) ht6).1⟩
      clear hbuf hB
      go_wp2_with fail
      go_region_with (first | (go_at_call 42; refine Calls.mono HX.out ?_; rintro e w5 ⟨rfl, hb5⟩) | (go_at_call 38; refine Calls.mono (HL.out _ hb5) ?_; rintro e w6 ⟨rfl, hb6, hB6⟩))
      all_goals
        go_wp2
        go_ret
        exact ⟨_, rfl, Nat.le_refl _, hb6, hB6⟩

end Go.Proofs.YtebchgoaelamcaaDoor

namespace Go.Proofs.YtebchgoaelamcaaDoor
open Go.RowKit
set_option maxRecDepth 100000

theorem crun_snoc8 (n : Nat) (l : List UInt8) (b : UInt8) : crun n (l ++ [b]) = zrun 8 (crun n l ^^^ b.toNat) := by
  rw [crun_append]
  rfl

theorem conv_slB {W : World} {a : Option Addr} {c : Nat} {l : List UInt8} (h : SlB W a l) : (convert 42 9 (.slice a l.length c)).run Tryd.prog W = .ok (.string ⟨l.toArray⟩) W := by
  cases a with
  | none =>
    have := h.nonil rfl
    subst this
    exact run_convert_bytes_nil W 42 5 Tryd.underlying42 Tryd.underlying5 _ _ 9 Tryd.underlying9
  | some x =>
    exact run_convert_bytes_back W 42 9 5 x c l Tryd.underlying42 Tryd.underlying5 Tryd.underlying9 (fun j hj => h.cells x rfl j _ (by simp [bcells, List.getElem?_eq_getElem hj]))

theorem slB_new (w : World) (l : List UInt8) (fr : Nat × Nat) : SlB (w.alloc (.cells (bcells l).toArray 5 fr)) (some ⟨w.heap.size, 0, none⟩) l :=
  ⟨fun h => by simp at h, fun x hx j u hu => by
    simp at hx
    subst hx
    have e : (⟨w.heap.size, 0, none⟩ : Addr).add j = ⟨w.heap.size, j, none⟩ := by unfold Addr.add; split <;> simp_all
    rw [e]
    have hh := heap_alloc_new w (.cells (bcells l).toArray 5 fr)
    simp only [World.cell?, hh]
    rw [← hu]
    simp⟩

theorem four_cells (n : Nat) (hn : n < 4294967296) : (#[.int .u8 ((n : Int) % 256), .int .u8 ((n : Int) / 256 % 256), .int .u8 ((n : Int) / 65536 % 256), .int .u8 ((n : Int) / 16777216)] : Array Value) = (bcells (leB n 4)).toArray := by
  simp [bcells, leB]
  omega

/-- A sum's bytes behind what it is the sum of. -/
def sealB (l : List UInt8) : List UInt8 := l ++ leB (more 0 l) 4
theorem sealB_length (l : List UInt8) : (sealB l).length = l.length + 4 := by simp [sealB, leB_length]

end Go.Proofs.YtebchgoaelamcaaDoor

