/-
  TablePlans: the walk.
-/
import Derived.Test.YtebchgoaelamcaaDoorKf
import Derived.Test.YtebchgoaelamcaaDoorKe
import Derived.Test.YtebchgoaelamcaaDoorX9
namespace Go.Proofs.YtebchgoaelamcaaDoor
open Go.RowKit
set_option maxRecDepth 100000

theorem eql46 (k : Int) (a b c : ByteArray) (w : World) : (binOp .eql 46 (.agg #[.int .i64 k, .string a, .string b, .string c]) (.agg #[.int .i64 k, .string a, .string b, .string c])).run Tryd.prog w = .ok (.bool true) w := by
  have h : (Op.equalIn 10000 46 (.agg #[.int .i64 k, .string a, .string b, .string c]) (.agg #[.int .i64 k, .string a, .string b, .string c])).run Tryd.prog w = .ok true w := by
    rw [show (10000 : Nat) = 9999 + 1 from rfl, run_equalIn_struct w 9999 46 _ _ Tryd.struct46 Tryd.held46]
    simp [Program.fieldsOf, Tryd.underlying46, Op.eqFields, go_sem, Tryd.underlying9]
  rw [run_eql_struct, h]
  simp [Result.andThen]

set_option maxHeartbeats 8000000 in
theorem plans_walk (a0 : Option Addr) (c0 : Nat) (l0 : List Pr) (o : As) (w : World) (hs0 : SlP w a0 l0) (hl0 : l0.length ≤ maxLen) (_hky : o.key.length ≤ maxLen) (_hvl : o.val.length ≤ maxLen) (ht : Tb w) :
    Calls Tryd.prog 4 #[.slice a0 l0.length c0, .agg (askC o)] w fun e w' => e = .returned (.bool true) ∧ Below w.heap.size w w' := by
  obtain ⟨kd, key, val⟩ := o
  clear _hky _hvl
  have hB0 := (Below.refl w.heap.size w).alloc (Nat.le_refl _) (.cells (askC ⟨kd, key, val⟩) 23)
  have hn := heap_alloc_new w (.cells (askC ⟨kd, key, val⟩) 23)
  have hz : (w.alloc (.cells (askC ⟨kd, key, val⟩) 23)).heap.size = w.heap.size + 1 := by rw [World.alloc, Array.size_push]
  have HS : Hid (∀ W, Below (w.heap.size + 1) (w.alloc (.cells (askC ⟨kd, key, val⟩) 23)) W → (W.cell? ⟨w.heap.size, 0, none⟩ = some (.int .i64 kd) ∧ W.cell? ⟨w.heap.size, 1, none⟩ = some (.string (txt key)) ∧ W.cell? ⟨w.heap.size, 2, none⟩ = some (.string (txt val))) ∧ Tb W ∧ Below w.heap.size w W ∧ w.heap.size + 1 ≤ W.heap.size) := fun W hW => by
    have e := (hW.block w.heap.size (by omega)).trans hn
    have b := hB0.trans (hW.mono (by omega))
    exact ⟨⟨cell_of e 0 rfl, cell_of e 1 rfl, cell_of e 2 rfl⟩, ht.below b, b, by have := hW.size; omega⟩
  have HPr := toHid (pair_any a0 c0 l0 (w.alloc (.cells (askC ⟨kd, key, val⟩) 23)) (hs0.on hB0) hl0)
  rw [hz] at HPr
  have B0 := toHid (Below.refl (w.heap.size + 1) (w.alloc (.cells (askC ⟨kd, key, val⟩) 23)))
  clear hB0 hn hz ht hs0 hl0
  simp only [askC] at *
  generalize hw0 : w.alloc (.cells #[.int .i64 kd, .string (txt key), .string (txt val)] 23) = w0 at *
  go_enter Tryd.func4, Tryd.ntmps4
  go_wp2_with fail
  clear hw0
  refine Calls.mono HPr.out ?_
  rintro e w1 ⟨L, v, a', c', rfl, hp1, hb1⟩
  have HG := toHid hp1.good
  have hB2 := (Below.refl w1.heap.size w1).alloc (Nat.le_refl _) (.cells #[.int .i64 0, .int .u64 0, .slice a' L.length c'] 39)
  have P2 := toHid (hp1.pg.below hB2 (Nat.le_refl _))
  have C2 := toHid (hp1.sl.below hB2)
  have B2 := toHid (B0.out.trans (hb1.alloc (Nat.le_trans (HS.out _ B0.out).2.2.2 hb1.size) (.cells #[.int .i64 0, .int .u64 0, .slice a' L.length c'] 39)))
  have D2 := toHid (heap_alloc_new w1 (.cells #[.int .i64 0, .int .u64 0, .slice a' L.length c'] 39))
  clear hp1 hb1 HPr hB2 B0
  simp only [refP, show (((0 : Nat) : Int)) = 0 from rfl]
  generalize hw2 : w1.alloc (.cells #[.int .i64 0, .int .u64 0, .slice a' L.length c'] 39) = w2 at *
  obtain ⟨⟨c0, c1, c2⟩, _⟩ := HS.out _ B2.out
  go_wp2_with fail
  refine Calls.mono (short_any kd key val _) ?_
  rintro e w3 ⟨x3, rfl, b3⟩
  have B3 := toHid (B2.out.trans (b3.mono (HS.out _ B2.out).2.2.2))
  have P3 := toHid (P2.out.below b3 (Nat.le_refl _))
  have C3 := toHid (C2.out.below b3)
  have D3 := toHid ((b3.block _ (lt_of_blk D2.out)).trans D2.out)
  clear b3 B2 P2 C2 D2 c0 c1 c2 hw2
  cases x3
  case false =>
    go_wp2_with fail
    refine Calls.mono (lives_any _ (HS.out _ B3.out).2.1) ?_
    rintro e wz ⟨rfl, bz⟩
    have BZ := toHid ((HS.out _ B3.out).2.2.1.trans (bz.mono (by have := (HS.out _ B3.out).2.2.2; omega)))
    clear bz
    go_wp2_with fail
    go_ret
    exact ⟨rfl, BZ.out⟩
  case true =>
  go_wp2_with fail
  refine Calls.mono (bytes_any _ _ 0 0 v L _ P3.out HG.out (by decide)) ?_
  rintro e w4 ⟨G, rfl, _, hbuf, b4⟩
  have hcv := conv_buf hbuf (pageB_length 0 0 L HG.out.room)
  have B4 := toHid (B3.out.trans (b4.mono (HS.out _ B3.out).2.2.2))
  have P4 := toHid (P3.out.below b4 (Nat.le_refl _))
  have C4 := toHid (C3.out.below b4)
  have D4 := toHid ((b4.block _ (lt_of_blk D3.out)).trans D3.out)
  clear b4 B3 P3 C3 D3 hbuf
  obtain ⟨⟨c0, c1, c2⟩, _⟩ := HS.out _ B4.out
  go_wp2_with fail
  clear hcv
  refine Calls.mono (tplan_any _ _ 0 0 v L kd key val _ P4.out HG.out) ?_
  rintro e w5 ⟨rfl, b5⟩
  have HRef : Hid (∀ W, SlC W a' L → Calls Tryd.prog 21 #[.agg #[.int .i64 0, .int .u64 0, .slice a' L.length c'], .int .i64 kd, .string (txt key), .string (txt val)] W fun e w' => e = .returned (.tuple #[actV (planL L kd key val).1, .int .i64 (planL L kd key val).2]) ∧ Below W.heap.size W w') := fun W hW => refplan_any a' c' L kd key val W hW HG.out
  generalize planL L kd key val = r at HRef
  obtain ⟨⟨r0, r1, r2, r3⟩, rr⟩ := r
  simp only [actV, actC] at HRef ⊢
  have b6 := b5.alloc b5.size (.cells #[.int .i64 r0, .string (txt r1), .string (txt r2), .string (txt r3)] 46)
  have B6 := toHid (B4.out.trans (b6.mono (HS.out _ B4.out).2.2.2))
  have P6 := toHid (P4.out.below b6 (Nat.le_refl _))
  have C6 := toHid (C4.out.below b6)
  have D6 := toHid ((b6.block _ (lt_of_blk D4.out)).trans D4.out)
  have X6 := toHid (heap_alloc_new w5 (.cells #[.int .i64 r0, .string (txt r1), .string (txt r2), .string (txt r3)] 46))
  clear b5 b6 B4 P4 C4 D4 c0 c1 c2
  generalize hw6 : w5.alloc (.cells #[.int .i64 r0, .string (txt r1), .string (txt r2), .string (txt r3)] 46) = w6 at *
  obtain ⟨⟨c0, c1, c2⟩, _⟩ := HS.out _ B6.out
  obtain ⟨d0, d1, d2, _, _, _, _⟩ := cell3 D6.out
  go_wp2_with fail
  refine Calls.mono (HRef.out _ C6.out) ?_
  rintro e w7 ⟨rfl, b7⟩
  have b8 := b7.alloc b7.size (.cells #[.int .i64 r0, .string (txt r1), .string (txt r2), .string (txt r3)] 46)
  have B8 := toHid (B6.out.trans (b8.mono (HS.out _ B6.out).2.2.2))
  have P8 := toHid (P6.out.below b8 (Nat.le_refl _))
  have C8 := toHid (C6.out.below b8)
  have D8 := toHid ((b8.block _ (lt_of_blk D6.out)).trans D6.out)
  have X8 := toHid ((b8.block _ (lt_of_blk X6.out)).trans X6.out)
  have Y8 := toHid (heap_alloc_new w7 (.cells #[.int .i64 r0, .string (txt r1), .string (txt r2), .string (txt r3)] 46))
  clear b7 b8 B6 P6 C6 D6 X6 c0 c1 c2 d0 d1 d2 hw6 HRef
  generalize hw8 : w7.alloc (.cells #[.int .i64 r0, .string (txt r1), .string (txt r2), .string (txt r3)] 46) = w8 at *
  obtain ⟨⟨c0, c1, c2⟩, _⟩ := HS.out _ B8.out
  go_wp2_with fail
  clear hw8
  refine Calls.mono (tget_any _ _ 0 0 v L key _ P8.out HG.out) ?_
  rintro e w9 ⟨rfl, b9⟩
  have B9 := toHid (B8.out.trans (b9.mono (HS.out _ B8.out).2.2.2))
  have P9 := toHid (P8.out.below b9 (Nat.le_refl _))
  have C9 := toHid (C8.out.below b9)
  have D9 := toHid ((b9.block _ (lt_of_blk D8.out)).trans D8.out)
  have X9 := toHid ((b9.block _ (lt_of_blk X8.out)).trans X8.out)
  have Y9 := toHid ((b9.block _ (lt_of_blk Y8.out)).trans Y8.out)
  clear b9 B8 P8 C8 D8 X8 Y8 c0 c1 c2
  obtain ⟨⟨c0, c1, c2⟩, _⟩ := HS.out _ B9.out
  obtain ⟨d0, d1, d2, _, _, _, _⟩ := cell3 D9.out
  go_wp2_with fail
  have HFd : Hid (Calls Tryd.prog 23 #[.agg #[.int .i64 0, .int .u64 0, .slice a' L.length c'], .string (txt key)] w9 fun e w' => e = .returned (.int .i64 (ixI (L.findIdx? (isKey key)))) ∧ Below w9.heap.size w9 w') := reffind_any 0 0 a' c' L key w9 C9.out (by have := HG.out.few; omega)
  refine Calls.mono HFd.out ?_
  rintro e wa ⟨rfl, ba⟩
  have BA := toHid (B9.out.trans (ba.mono (HS.out _ B9.out).2.2.2))
  have PA := toHid (P9.out.below ba (Nat.le_refl _))
  have CA := toHid (C9.out.below ba)
  have DA := toHid ((ba.block _ (lt_of_blk D9.out)).trans D9.out)
  have XA := toHid ((ba.block _ (lt_of_blk X9.out)).trans X9.out)
  have YA := toHid ((ba.block _ (lt_of_blk Y9.out)).trans Y9.out)
  clear ba B9 P9 C9 D9 X9 Y9 c0 c1 c2 d0 d1 d2 HFd
  obtain ⟨⟨c0, c1, c2⟩, _⟩ := HS.out _ BA.out
  obtain ⟨d0, d1, d2, _, _, _, _⟩ := cell3 DA.out
  have hfew := HG.out.few
  rcases find_get (l := L) (key := key) with ⟨ef, eg⟩ | ⟨i, hi, ef, eg⟩
  · have ht : tgetL L key = ([], 4) := by simp [tgetL, eg]
    rw [ht, ef]
    simp only [ixI, show txt [] = ⟨#[]⟩ from rfl]
    go_wp2_with fail
    refine Calls.mono (show Calls Tryd.prog 20 #[.pointer none, .int .i64 3, .string ⟨#[97]⟩, .string ⟨#[98]⟩] wa _ from tplan_nil 3 [97] [98] wa) ?_
    rintro e wb ⟨rfl, bb⟩
    simp only [actV, actC, show txt [] = ⟨#[]⟩ from rfl]
    have bc := bb.alloc bb.size (.cells #[.int .i64 0, .string ⟨#[]⟩, .string ⟨#[]⟩, .string ⟨#[]⟩] 46)
    have BC := toHid (BA.out.trans (bc.mono (HS.out _ BA.out).2.2.2))
    have PC := toHid (PA.out.below bc (Nat.le_refl _))
    have XC := toHid ((bc.block _ (lt_of_blk XA.out)).trans XA.out)
    have YC := toHid ((bc.block _ (lt_of_blk YA.out)).trans YA.out)
    have ZC := toHid (heap_alloc_new wb (.cells #[.int .i64 0, .string ⟨#[]⟩, .string ⟨#[]⟩, .string ⟨#[]⟩] 46))
    clear bb bc BA PA XA YA CA DA c0 c1 c2 d0 d1 d2
    obtain ⟨⟨c0, c1, c2⟩, _⟩ := HS.out _ BC.out
    go_wp2_with fail
    refine Calls.mono (tget_nil key _) ?_
    rintro e wd ⟨rfl, rfl⟩
    generalize wb.alloc (.cells #[.int .i64 0, .string ⟨#[]⟩, .string ⟨#[]⟩, .string ⟨#[]⟩] 46) = wc at *
    obtain ⟨x0, x1, x2, x3, _, _, _, _, _⟩ := cell4 XC.out
    obtain ⟨y0, y1, y2, y3, _, _, _, _, _⟩ := cell4 YC.out
    have q1 := eql46 r0 (txt r1) (txt r2) (txt r3)
    have q2 := eql46 0 ⟨#[]⟩ ⟨#[]⟩ ⟨#[]⟩
    simp only [show txt [] = ⟨#[]⟩ from rfl]
    go_wp2_with fail
    refine Calls.mono (bytes_any _ _ 0 0 v L _ PC.out HG.out (by decide)) ?_
    rintro e we ⟨G2, rfl, _, hbuf2, be⟩
    have hcv := conv_buf hbuf2 (pageB_length 0 0 L HG.out.room)
    have BE := toHid (BC.out.trans (be.mono (HS.out _ BC.out).2.2.2))
    have ZE := toHid ((be.block _ (lt_of_blk ZC.out)).trans ZC.out)
    obtain ⟨z0, z1, z2, z3, _, _, _, _, _⟩ := cell4 ZE.out
    have hbb : ((txt (pageB 0 0 L)).toList == (txt (pageB 0 0 L)).toList) = true := by simp
    clear be hbuf2 BC PC XC YC ZC x0 x1 x2 x3 y0 y1 y2 y3 c0 c1 c2
    go_wp2_with fail
    refine Calls.mono (lives_any _ (HS.out _ BE.out).2.1) ?_
    rintro e wz ⟨rfl, bz⟩
    have BZ := toHid ((HS.out _ BE.out).2.2.1.trans (bz.mono (by have := (HS.out _ BE.out).2.2.2; omega)))
    clear bz
    go_wp2_with fail
    go_ret
    exact ⟨rfl, BZ.out⟩
  · have ht : tgetL L key = (L[i].val, 2) := by simp [tgetL, eg]
    rw [ht, ef]
    simp only [ixI]
    obtain ⟨b, o, rfl, hbl, s0, s1, s2⟩ := CA.out.at i hi
    have hvv : ((txt L[i].val).toList == (txt L[i].val).toList) = true := by simp
    go_wp2_with fail
    refine Calls.mono (show Calls Tryd.prog 20 #[.pointer none, .int .i64 3, .string ⟨#[97]⟩, .string ⟨#[98]⟩] wa _ from tplan_nil 3 [97] [98] wa) ?_
    rintro e wb ⟨rfl, bb⟩
    simp only [actV, actC, show txt [] = ⟨#[]⟩ from rfl]
    have bc := bb.alloc bb.size (.cells #[.int .i64 0, .string ⟨#[]⟩, .string ⟨#[]⟩, .string ⟨#[]⟩] 46)
    have BC := toHid (BA.out.trans (bc.mono (HS.out _ BA.out).2.2.2))
    have PC := toHid (PA.out.below bc (Nat.le_refl _))
    have XC := toHid ((bc.block _ (lt_of_blk XA.out)).trans XA.out)
    have YC := toHid ((bc.block _ (lt_of_blk YA.out)).trans YA.out)
    have ZC := toHid (heap_alloc_new wb (.cells #[.int .i64 0, .string ⟨#[]⟩, .string ⟨#[]⟩, .string ⟨#[]⟩] 46))
    clear bb bc BA PA XA YA CA DA c0 c1 c2 d0 d1 d2
    obtain ⟨⟨c0, c1, c2⟩, _⟩ := HS.out _ BC.out
    go_wp2_with fail
    refine Calls.mono (tget_nil key _) ?_
    rintro e wd ⟨rfl, rfl⟩
    generalize wb.alloc (.cells #[.int .i64 0, .string ⟨#[]⟩, .string ⟨#[]⟩, .string ⟨#[]⟩] 46) = wc at *
    obtain ⟨x0, x1, x2, x3, _, _, _, _, _⟩ := cell4 XC.out
    obtain ⟨y0, y1, y2, y3, _, _, _, _, _⟩ := cell4 YC.out
    have q1 := eql46 r0 (txt r1) (txt r2) (txt r3)
    have q2 := eql46 0 ⟨#[]⟩ ⟨#[]⟩ ⟨#[]⟩
    simp only [show txt [] = ⟨#[]⟩ from rfl]
    go_wp2_with fail
    refine Calls.mono (bytes_any _ _ 0 0 v L _ PC.out HG.out (by decide)) ?_
    rintro e we ⟨G2, rfl, _, hbuf2, be⟩
    have hcv := conv_buf hbuf2 (pageB_length 0 0 L HG.out.room)
    have BE := toHid (BC.out.trans (be.mono (HS.out _ BC.out).2.2.2))
    have ZE := toHid ((be.block _ (lt_of_blk ZC.out)).trans ZC.out)
    obtain ⟨z0, z1, z2, z3, _, _, _, _, _⟩ := cell4 ZE.out
    have hbb : ((txt (pageB 0 0 L)).toList == (txt (pageB 0 0 L)).toList) = true := by simp
    clear be hbuf2 BC PC XC YC ZC x0 x1 x2 x3 y0 y1 y2 y3 c0 c1 c2
    go_wp2_with fail
    refine Calls.mono (lives_any _ (HS.out _ BE.out).2.1) ?_
    rintro e wz ⟨rfl, bz⟩
    have BZ := toHid ((HS.out _ BE.out).2.2.1.trans (bz.mono (by have := (HS.out _ BE.out).2.2.2; omega)))
    clear bz
    go_wp2_with fail
    go_ret
    exact ⟨rfl, BZ.out⟩
end Go.Proofs.YtebchgoaelamcaaDoor
