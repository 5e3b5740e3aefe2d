/-
  The walk of RecOwn.
-/
import Derived.Test.YtjhjicokbdloiabWo
namespace Go.Proofs.Ytjhjicokbdloiab
open Go.RowKit

set_option maxRecDepth 20000 in
set_option maxHeartbeats 8000000 in
theorem own_walk (r : Rc) (ta : Option Addr) (tc : Nat) (da : Option Addr) (dc : Nat) (w : World) (h : RI w r ta da) :
    Calls Try.prog 3 #[recV r ta tc da dc] w fun e w' => e = .returned (.bool true) ∧ Below w.heap.size w w' := by
  have HRI := (show Hid _ from h)
  have hlt1 := h.lt
  have hld1 := h.ld
  unfold maxLen at hlt1 hld1
  have HK0 : Hid (Below (w.heap.size + 1) (w.alloc (.cells (recC r ta tc da dc) 31)) (w.alloc (.cells (recC r ta tc da dc) 31))) := Below.refl _ _
  have HBB : Hid (∀ W, Below (w.heap.size + 1) (w.alloc (.cells (recC r ta tc da dc) 31)) W → Below w.heap.size w W) := fun W hW => box1_below hW
  have HLv : Hid (∀ W, Calls Try.prog 6 #[] W fun e w' => e = .returned (.bool true) ∧ Below W.heap.size W w') := fun W => lives_any W
  clear h
  go_enter Try.func3, Try.ntmps3
  go_wp2_with fail
  refine (light_any r ta tc da dc _).mono ?_
  rintro e w0 ⟨la, rfl, hb0⟩
  have HK0' := (show Hid _ from box1_on HK0.out hb0)
  clear hb0
  obtain ⟨⟨x0, x1, x2, x3, x4, x5, x6, x7, x8, x9, x10, x11⟩, _⟩ := rw_cells' (box1_kept HK0'.out)
  have hza := lt_of_block (box1_kept HK0'.out)
  cases la
  · go_wp2_with fail
    refine (HLv.out _).mono ?_
    rintro e wz ⟨rfl, hbz⟩
    have hfin := HBB.out _ (box1_on HK0'.out hbz)
    clear hbz
    go_wp2
    go_ret
    exact ⟨rfl, hfin⟩
  go_wp2_with fail
  have ri0 := (show Hid _ from HRI.out.below (HBB.out _ HK0'.out))
  refine (check_any r ta tc da dc _ ri0.out.t ri0.out.d ri0.out.lt ri0.out.ld).mono ?_
  rintro e w0c ⟨rfl, hb0c⟩
  have HKc := (show Hid _ from box1_on HK0'.out hb0c)
  clear hb0c ri0 x0 x1 x2 x3 x4 x5 x6 x7 x8 x9 x10 x11 hza
  obtain ⟨⟨x0, x1, x2, x3, x4, x5, x6, x7, x8, x9, x10, x11⟩, _⟩ := rw_cells' (box1_kept HKc.out)
  have hza := lt_of_block (box1_kept HKc.out)
  cases hm : mayB r
  · unfold argE
    go_wp2_with fail
    refine (HLv.out _).mono ?_
    rintro e wz ⟨rfl, hbz⟩
    have hfin := HBB.out _ (box1_on HKc.out hbz)
    clear hbz
    go_wp2
    go_ret
    exact ⟨rfl, hfin⟩
  have HM := (show Hid _ from hm)
  clear hm
  unfold argE
  have hel : 0 < (encB r).length ∧ (encB r).length ≤ 2000 := by have := encB_length r HM.out; omega
  have hfl : 0 < (frameB r).length ∧ (frameB r).length ≤ 3000 := by have := frameB_length r; have := encB_length r HM.out; omega
  have eB : outB r = encB r := by unfold outB; rw [HM.out]; rfl
  have eF : outF r = frameB r := by unfold outF; rw [HM.out]; rfl
  go_wp2_with fail
  refine (bytes_any r ta tc da dc _ HM.out (HRI.out.below (HBB.out _ HKc.out))).mono ?_
  rintro e w1 ⟨rfl, hb1⟩
  have HK1 := (show Hid _ from box1_on HKc.out hb1)
  clear hb1 x0 x1 x2 x3 x4 x5 x6 x7 x8 x9 x10 x11 hza
  obtain ⟨⟨x0, x1, x2, x3, x4, x5, x6, x7, x8, x9, x10, x11⟩, _⟩ := rw_cells' (box1_kept HK1.out)
  have hza := lt_of_block (box1_kept HK1.out)
  go_wp2_with fail
  have ri1 := (show Hid _ from HRI.out.below (HBB.out _ HK1.out))
  refine (encode_any r ta tc da dc _ ri1.out.t ri1.out.d ri1.out.lt ri1.out.ld).mono ?_
  rintro e w2 ⟨vb, rfl, hob, hb2⟩
  rw [eB] at hob
  rw [HM.out]
  obtain ⟨bx, bc, rfl⟩ := ownsRow_shape hob
  obtain ⟨gb, rfl, hgb1, hgb2⟩ := own_some hob (by omega)
  have HK2 := (show Hid _ from box1_on HK1.out hb2)
  have HOB := (show Hid _ from hob)
  have hs12 := hb2.size
  clear hb2 hob ri1 x0 x1 x2 x3 x4 x5 x6 x7 x8 x9 x10 x11 hza
  obtain ⟨⟨x0, x1, x2, x3, x4, x5, x6, x7, x8, x9, x10, x11⟩, _⟩ := rw_cells' (box1_kept HK2.out)
  have hza := lt_of_block (box1_kept HK2.out)
  unfold argE
  simp only [if_true]
  go_wp2_with fail
  have ri2 := (show Hid _ from HRI.out.below (HBB.out _ HK2.out))
  refine (frame_any r ta tc da dc _ ri2.out.t ri2.out.d ri2.out.lt ri2.out.ld).mono ?_
  rintro e w3 ⟨vf, rfl, hof, hb3⟩
  rw [eF] at hof
  rw [HM.out]
  obtain ⟨fx, fc, rfl⟩ := ownsRow_shape hof
  obtain ⟨gf, rfl, hgf1, hgf2⟩ := own_some hof (by omega)
  have HK3 := (show Hid _ from box1_on HK2.out hb3)
  have HOB3 := (show Hid _ from ownsRow_below HOB.out hb3 (ownsRow_lt HOB.out))
  have HOF := (show Hid _ from hof)
  have hs23 := hb3.size
  clear hb3 hof HOB ri2 x0 x1 x2 x3 x4 x5 x6 x7 x8 x9 x10 x11 hza
  obtain ⟨⟨x0, x1, x2, x3, x4, x5, x6, x7, x8, x9, x10, x11⟩, _⟩ := rw_cells' (box1_kept HK3.out)
  have hza := lt_of_block (box1_kept HK3.out)
  unfold argE
  simp only [if_true]
  go_wp2_with fail
  obtain ⟨_, hR, hE⟩ := dec_may r HM.out
  have HDX := (show Hid _ from decode_any (some ⟨gb, 0, none⟩) bc (encB r) w3 (slB_of_own HOB3.out).1 (by omega) (by simp))
  rw [hR, hE] at HDX
  refine Calls.mono HDX.out ?_
  rintro e w4 ⟨xa, xc, xd, xe, rfl, hot, hod, hb4⟩
  have HK4 := (show Hid _ from box1_on HK3.out hb4)
  have HOB4 := (show Hid _ from ownsRow_below HOB3.out hb4 (ownsRow_lt HOB3.out))
  have HOF4 := (show Hid _ from ownsRow_below HOF.out hb4 (ownsRow_lt HOF.out))
  have HOT := (show Hid _ from hot)
  have HOD := (show Hid _ from hod)
  have hs34 := hb4.size
  clear hb4 hot hod HOB3 HOF HDX hR hE x0 x1 x2 x3 x4 x5 x6 x7 x8 x9 x10 x11 hza

  have HX5 : Hid (Below w4.heap.size w4 (w4.alloc (.cells (recC r xa xc xd xe) 31))) := (Below.refl _ _).alloc (Nat.le_refl _) _
  have hu := unf_back r HM.out []
  rw [List.append_nil] at hu
  have HUX := (show Hid _ from unframe_any (some ⟨gf, 0, none⟩) fc (frameB r) (w4.alloc (.cells (recC r xa xc xd xe) 31)) (slB_of_own (ownsRow_below HOF4.out HX5.out (ownsRow_lt HOF4.out))).1 (by omega) (own_len HOF4.out) (by simp))
  rw [hu] at HUX
  clear hu
  go_wp2_with fail
  refine Calls.mono HUX.out ?_
  rintro e w6 ⟨ya, yc, yd, ye, rfl, hyt, hyd, hb6⟩
  have HK6 := (show Hid _ from box1_on (box1_on HK4.out HX5.out) hb6)
  have hB46 := below_on HX5.out hb6
  have hx6 := (show Hid _ from box_kept hb6)
  have hs46 : w4.heap.size + 1 ≤ w6.heap.size := by simpa using hb6.size
  have HOB6 := (show Hid _ from ownsRow_below HOB4.out hB46 (ownsRow_lt HOB4.out))
  have HOF6 := (show Hid _ from ownsRow_below HOF4.out hB46 (ownsRow_lt HOF4.out))
  have HOT6 := (show Hid _ from ownsRow_below HOT.out hB46 (ownsRow_lt HOT.out))
  have HOD6 := (show Hid _ from ownsRow_below HOD.out hB46 (ownsRow_lt HOD.out))
  have HTL := (show Hid _ from ownsRow_lt HOT.out)
  have HDL := (show Hid _ from ownsRow_lt HOD.out)
  have HYT := (show Hid _ from hyt)
  have HYD := (show Hid _ from hyd)
  clear hb6 hyt hyd HUX HOB4 HOF4 HOT HOD hB46 HX5 HK4
  have HA : Hid (Below w6.heap.size w6 (w6.alloc (.cells (recC r ya yc yd ye) 31))) := (Below.refl _ _).alloc (Nat.le_refl _) _
  have HYA := (show Hid _ from heap_alloc_new w6 (.cells (recC r ya yc yd ye) 31))
  have HKA := (show Hid _ from box1_on HK6.out HA.out)
  have HXA : Hid ((w6.alloc (.cells (recC r ya yc yd ye) 31)).heap[w4.heap.size]? = some (.cells (recC r xa xc xd xe) 31)) := by
    show _ = _
    rw [HA.out.block _ (by omega)]
    exact hx6.out
  have HOBA := (show Hid _ from ownsRow_below HOB6.out HA.out (ownsRow_lt HOB6.out))
  have HOFA := (show Hid _ from ownsRow_below HOF6.out HA.out (ownsRow_lt HOF6.out))
  have HOTA := (show Hid _ from ownsRow_below HOT6.out HA.out (ownsRow_lt HOT6.out))
  have HODA := (show Hid _ from ownsRow_below HOD6.out HA.out (ownsRow_lt HOD6.out))
  have HYTA := (show Hid _ from ownsRow_below HYT.out HA.out (ownsRow_lt HYT.out))
  have HYDA := (show Hid _ from ownsRow_below HYD.out HA.out (ownsRow_lt HYD.out))
  have hsA : w6.heap.size < (w6.alloc (.cells (recC r ya yc yd ye) 31)).heap.size := by simp
  have hs1 : w.heap.size + 1 ≤ w1.heap.size := by simpa using HK1.out.size
  clear HOB6 HOF6 HOT6 HOD6 HYT HYD hx6 HK6 HA
  go_wp2_with fail
  generalize (w6.alloc (.cells (recC r ya yc yd ye) 31)) = wA at *
  go_loopw [13] (fun i wr => ∃ k : Nat, k ≤ (encB r).length ∧ i = .int .i64 k ∧ (∃ L : List UInt8, L.length = (encB r).length ∧ wr.ownsRow w1.heap.size 5 1 (.slice (some ⟨gb, 0, none⟩) (encB r).length bc) (encB r).length (bcells L)) ∧ Mid w1.heap.size w2.heap.size wA wr) (fun i _ => (encB r).length - (intOf i).toNat)
  case atStart => exact ⟨0, Nat.zero_le _, rfl, ⟨_, rfl, HOBA.out⟩, Mid.refl _ _ _⟩
  case round =>
    obtain ⟨k, hk, rfl, ⟨L, hL, ho⟩, hmid⟩ := hrel
    by_cases hlt : k < (encB r).length
    · obtain ⟨⟨u, hu1, hu2⟩, hfz⟩ := own_cell ho k (by omega)
      have hkL : k < L.length := by omega
      have huv : u = .int .u8 (L[k].toNat : Int) := by
        simp [bcells, List.getElem?_eq_getElem hkL] at hu2
        exact hu2.symm
      subst huv
      have hbt := L[k].toNat_lt
      obtain ⟨bb, hbb⟩ := xor_ff (L[k].toNat : Int) (by omega) (by omega)
      have HO := (show Hid _ from own_set ho k (.int .u8 (bb.toNat : Int)))
      have HMd := (show Hid _ from Mid.set hmid gb k (.int .u8 (bb.toNat : Int)) (by omega) (by omega))
      have HLs : Hid (L.length = (encB r).length) := hL
      clear ho hmid hu2 hL
      go_wp2_with fail
      go_roundw
      case rel => exact ⟨k + 1, by omega, by simp, ⟨L.set k bb, by rw [List.length_set]; exact HLs.out, by rw [show bcells (L.set k bb) = (bcells L).set k (.int .u8 (bb.toNat : Int)) by simp [bcells]]; exact HO.out⟩, HMd.out⟩
      case measure => first | omega | (simp only [intOf]; omega)
    · have HMd := (show Hid _ from hmid)
      clear ho hmid hL
      go_wp2_with fail
      go_loopw [14] (fun i wr => ∃ k : Nat, k ≤ (frameB r).length ∧ i = .int .i64 k ∧ (∃ L : List UInt8, L.length = (frameB r).length ∧ wr.ownsRow w2.heap.size 5 1 (.slice (some ⟨gf, 0, none⟩) (frameB r).length fc) (frameB r).length (bcells L)) ∧ Mid w1.heap.size w3.heap.size wA wr) (fun i _ => (frameB r).length - (intOf i).toNat)
      case atStart => exact ⟨0, Nat.zero_le _, rfl, ⟨_, rfl, HMd.out.own HOFA.out (fun k hk => .inr (by simp [Value.ownBlock] at hk; omega))⟩, HMd.out.mono (Nat.le_refl _) (by omega)⟩
      case round =>
        obtain ⟨k, hk, rfl, ⟨L, hL, ho⟩, hmid⟩ := hrel
        by_cases hlt : k < (frameB r).length
        · obtain ⟨⟨u, hu1, hu2⟩, hfz⟩ := own_cell ho k (by omega)
          have hkL : k < L.length := by omega
          have huv : u = .int .u8 (L[k].toNat : Int) := by
            simp [bcells, List.getElem?_eq_getElem hkL] at hu2
            exact hu2.symm
          subst huv
          have hbt := L[k].toNat_lt
          obtain ⟨bb, hbb⟩ := xor_ff (L[k].toNat : Int) (by omega) (by omega)
          have HO := (show Hid _ from own_set ho k (.int .u8 (bb.toNat : Int)))
          have HMd := (show Hid _ from Mid.set hmid gf k (.int .u8 (bb.toNat : Int)) (by omega) (by omega))
          have HLs : Hid (L.length = (frameB r).length) := hL
          clear ho hmid hu2 hL
          go_wp2_with fail
          go_roundw
          case rel => exact ⟨k + 1, by omega, by simp, ⟨L.set k bb, by rw [List.length_set]; exact HLs.out, by rw [show bcells (L.set k bb) = (bcells L).set k (.int .u8 (bb.toNat : Int)) by simp [bcells]]; exact HO.out⟩, HMd.out⟩
          case measure => first | omega | (simp only [intOf]; omega)
        · have HMd := (show Hid _ from hmid)
          clear ho hmid hL
          have hst0 := HMd.out.own HOTA.out (fun k hk => .inr (World.ownsRow.lt HOTA.out k hk).1)
          have hod0 := HMd.out.own HODA.out (fun k hk => .inr (World.ownsRow.lt HODA.out k hk).1)
          go_wp2_with fail
          go_loopw [15] (fun i wr => ∃ k : Nat, k ≤ r.txns.length ∧ i = .int .i64 k ∧ (∃ xs, wr.ownsRow w3.heap.size 46 3 (.slice xa r.txns.length xc) r.txns.length xs) ∧ Mid w1.heap.size w4.heap.size wA wr ∧ wr.ownsRow w3.heap.size 48 2 (.slice xd r.dirty.length xe) r.dirty.length (disC r.dirty)) (fun i _ => r.txns.length - (intOf i).toNat)
          case atStart => exact ⟨0, Nat.zero_le _, rfl, ⟨_, hst0⟩, HMd.out.mono (Nat.le_refl _) (by omega), hod0⟩
          case round =>
            obtain ⟨k, hk, rfl, ⟨xs, ho⟩, hmid, hod⟩ := hrel
            obtain ⟨⟨z0, z1, z2, z3, z4, z5, z6, z7, z8, z9, z10, z11⟩, _⟩ := rw_cells' (show wr.heap[w4.heap.size]? = some (.cells (recC r xa xc xd xe) 31) by rw [hmid.block _ (.inr (Nat.le_refl _))]; exact HXA.out)
            have hzx : w4.heap.size < wr.heap.size := by have := hmid.size; omega
            by_cases hlt : k < r.txns.length
            · obtain ⟨g, rfl, hg1, _⟩ := own_some ho (by omega)
              have hg2 : g < w4.heap.size := HTL.out g rfl
              obtain ⟨⟨u0, hu0, _⟩, hf0⟩ := own_cell ho (k * 3 ) (by omega)
              obtain ⟨⟨u1, hu1, _⟩, hf1⟩ := own_cell ho (k * 3 + 1) (by omega)
              obtain ⟨⟨u2, hu2, _⟩, hf2⟩ := own_cell ho (k * 3 + 2) (by omega)
              have hne : (Value.slice xd r.dirty.length xe).ownBlock ≠ some g := fun e => by
                obtain ⟨g', hg', hgg⟩ := own_some' hod g e
                subst hg'; subst hgg; exact own_ne ho hod (by decide) rfl
              have HOo := (show Hid _ from (ownsRow_setCell_other (ownsRow_setCell_other (ownsRow_setCell_other hod (a := ⟨g, k * 3, none⟩) hne (.int .i64 0)) (a := ⟨g, k * 3 + 1, none⟩) hne (.int .i64 0)) (a := ⟨g, k * 3 + 2, none⟩) hne (.int .u64 0)))
              have HO := (show Hid _ from (own_set (own_set (own_set ho (k * 3) (.int .i64 0)) (k * 3 + 1) (.int .i64 0)) (k * 3 + 2) (.int .u64 0)))
              have HMd2 := (show Hid _ from (Mid.set (Mid.set (Mid.set hmid g (k * 3) (.int .i64 0) (by omega) (by omega)) g (k * 3 + 1) (.int .i64 0) (by omega) (by omega)) g (k * 3 + 2) (.int .u64 0) (by omega) (by omega)))
              clear ho hmid hod
              go_wp2_with fail
              go_roundw
              case rel => exact ⟨k + 1, by omega, by simp, ⟨_, HO.out⟩, HMd2.out, HOo.out⟩
              case measure => first | omega | (simp only [intOf]; omega)
            · have HMd := (show Hid _ from hmid)
              have HODn := (show Hid _ from hod)
              clear ho hmid hod
              have hst0 := HODn.out
              go_wp2_with fail
              clear z0 z1 z2 z3 z4 z5 z6 z7 z8 z9 z10 z11 hzx
              go_loopw [16] (fun i wr => ∃ k : Nat, k ≤ r.dirty.length ∧ i = .int .i64 k ∧ (∃ xs, wr.ownsRow w3.heap.size 48 2 (.slice xd r.dirty.length xe) r.dirty.length xs) ∧ Mid w1.heap.size w4.heap.size wA wr) (fun i _ => r.dirty.length - (intOf i).toNat)
              case atStart => exact ⟨0, Nat.zero_le _, rfl, ⟨_, hst0⟩, HMd.out.mono (Nat.le_refl _) (by omega)⟩
              case round =>
                obtain ⟨k, hk, rfl, ⟨xs, ho⟩, hmid⟩ := hrel
                obtain ⟨⟨z0, z1, z2, z3, z4, z5, z6, z7, z8, z9, z10, z11⟩, _⟩ := rw_cells' (show wr.heap[w4.heap.size]? = some (.cells (recC r xa xc xd xe) 31) by rw [hmid.block _ (.inr (Nat.le_refl _))]; exact HXA.out)
                have hzx : w4.heap.size < wr.heap.size := by have := hmid.size; omega
                by_cases hlt : k < r.dirty.length
                · obtain ⟨g, rfl, hg1, _⟩ := own_some ho (by omega)
                  have hg2 : g < w4.heap.size := HDL.out g rfl
                  obtain ⟨⟨u0, hu0, _⟩, hf0⟩ := own_cell ho (k * 2 ) (by omega)
                  obtain ⟨⟨u1, hu1, _⟩, hf1⟩ := own_cell ho (k * 2 + 1) (by omega)
                  have HO := (show Hid _ from (own_set (own_set ho (k * 2) (.int .i64 0)) (k * 2 + 1) (.int .u64 0)))
                  have HMd2 := (show Hid _ from (Mid.set (Mid.set hmid g (k * 2) (.int .i64 0) (by omega) (by omega)) g (k * 2 + 1) (.int .u64 0) (by omega) (by omega)))
                  clear ho hmid
                  go_wp2_with fail
                  go_roundw
                  case rel => exact ⟨k + 1, by omega, by simp, ⟨_, HO.out⟩, HMd2.out⟩
                  case measure => first | omega | (simp only [intOf]; omega)
                · have HMd := (show Hid _ from hmid)
                  clear ho hmid
                  have HKw := (show Hid _ from HKA.out.trans (HMd.out.below.mono (by omega)))
                  obtain ⟨⟨x0, x1, x2, x3, x4, x5, x6, x7, x8, x9, x10, x11⟩, _⟩ := rw_cells' (box1_kept HKw.out)
                  have hza := lt_of_block (box1_kept HKw.out)
                  go_wp2_with fail
                  clear z0 z1 z2 z3 z4 z5 z6 z7 z8 z9 z10 z11 hzx
                  have ri8 := (show Hid _ from HRI.out.below (HBB.out _ HKw.out))
                  refine (encode_any r ta tc da dc _ ri8.out.t ri8.out.d ri8.out.lt ri8.out.ld).mono ?_
                  rintro e w8 ⟨vc, rfl, hoc, hb8⟩
                  rw [eB] at hoc
                  rw [HM.out]
                  obtain ⟨cx, cc, rfl⟩ := ownsRow_shape hoc
                  have HK8 := (show Hid _ from box1_on HKw.out hb8)
                  have hy8 : w8.heap[w6.heap.size]? = some (.cells (recC r ya yc yd ye) 31) := by
                    rw [hb8.block _ (by have := HMd.out.size; omega), HMd.out.block _ (.inr (by omega))]
                    exact HYA.out
                  have HYT8 := (show Hid _ from ownsRow_below (HMd.out.own HYTA.out (fun k hk => .inr (by have := (World.ownsRow.lt HYTA.out k hk).1; simp at this; omega))) hb8 (ownsRow_lt (HMd.out.own HYTA.out (fun k hk => .inr (by have := (World.ownsRow.lt HYTA.out k hk).1; simp at this; omega)))))
                  have HYD8 := (show Hid _ from ownsRow_below (HMd.out.own HYDA.out (fun k hk => .inr (by have := (World.ownsRow.lt HYDA.out k hk).1; simp at this; omega))) hb8 (ownsRow_lt (HMd.out.own HYDA.out (fun k hk => .inr (by have := (World.ownsRow.lt HYDA.out k hk).1; simp at this; omega)))))
                  have HOC := (show Hid _ from hoc)
                  clear hb8 hoc ri8 x0 x1 x2 x3 x4 x5 x6 x7 x8 x9 x10 x11 hza
                  obtain ⟨⟨x0, x1, x2, x3, x4, x5, x6, x7, x8, x9, x10, x11⟩, _⟩ := rw_cells' (box1_kept HK8.out)
                  have hza := lt_of_block (box1_kept HK8.out)
                  obtain ⟨⟨z0, z1, z2, z3, z4, z5, z6, z7, z8, z9, z10, z11⟩, _⟩ := rw_cells' hy8
                  have hzy := lt_of_block hy8
                  have riy : RI w8 r ya yd := ⟨(slT_of_own HYT8.out).1, (slD_of_own HYD8.out).1, (slT_of_own HYT8.out).2, (slD_of_own HYD8.out).2⟩
                  have HSM := (show Hid _ from refsame_any r r ya yc yd ye ta tc da dc w8 riy (HRI.out.below (HBB.out _ HK8.out)))
                  rw [decide_eq_true rfl] at HSM
                  clear hy8 riy HYT8 HYD8
                  unfold argE
                  simp only [if_true]
                  go_wp2_with fail
                  refine Calls.mono HSM.out ?_
                  rintro e w9 ⟨rfl, hb9⟩
                  have HK9 := (show Hid _ from box1_on HK8.out hb9)
                  have hcv := conv_txt (ownsRow_below HOC.out hb9 (ownsRow_lt HOC.out))
                  clear hb9 x0 x1 x2 x3 x4 x5 x6 x7 x8 x9 x10 x11 hza z0 z1 z2 z3 z4 z5 z6 z7 z8 z9 z10 z11 hzy HSM
                  go_wp2_with fail
                  refine (HLv.out _).mono ?_
                  rintro e w10 ⟨rfl, hb10⟩
                  have hfin := HBB.out _ (box1_on HK9.out hb10)
                  clear hb10 HOC
                  go_wp2
                  go_ret
                  exact ⟨by simp, hfin⟩

end Go.Proofs.Ytjhjicokbdloiab
