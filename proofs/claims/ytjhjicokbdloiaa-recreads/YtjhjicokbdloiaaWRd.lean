/-
  The walk of RecReads.
-/
import Derived.Test.YtjhjicokbdloiaaFd
import Derived.Test.YtjhjicokbdloiaaRs
import Derived.Test.YtjhjicokbdloiaaRf
namespace Go.Proofs.Ytjhjicokbdloiaa
open Go.RowKit

/-- A record in block b, its rows where they are. -/
structure RB (w : World) (D b : Nat) (r : Rc) (ta : Option Addr) (tc : Nat) (da : Option Addr) (dc : Nat) : Prop where
  blk : w.heap[b]? = some (.cells (recC r ta tc da dc) 31)
  own1 : w.ownsRow D 71 3 (.slice ta r.txns.length tc) r.txns.length (txsC r.txns)
  own2 : w.ownsRow D 73 2 (.slice da r.dirty.length dc) r.dirty.length (disC r.dirty)
theorem RB.call {w w' : World} {D b : Nat} {r : Rc} {ta : Option Addr} {tc : Nat} {da : Option Addr} {dc : Nat} (h : RB w D b r ta tc da dc) (hb : Below w.heap.size w w') : RB w' D b r ta tc da dc :=
  ⟨by rw [hb.block b (lt_of_block h.blk)]; exact h.blk, own_below h.own1 hb, own_below h.own2 hb⟩
theorem RB.alloc {w : World} {D b : Nat} {r : Rc} {ta : Option Addr} {tc : Nat} {da : Option Addr} {dc : Nat} (h : RB w D b r ta tc da dc) (o : Obj) : RB (w.alloc o) D b r ta tc da dc := h.call ((Below.refl _ _).alloc (Nat.le_refl _) o)
theorem RB.ri {w : World} {D b : Nat} {r : Rc} {ta : Option Addr} {tc : Nat} {da : Option Addr} {dc : Nat} (h : RB w D b r ta tc da dc) : RI w r ta da := ⟨(slT_of_own h.own1).1, (slD_of_own h.own2).1, (slT_of_own h.own1).2, (slD_of_own h.own2).2⟩
theorem RB.new {w : World} {D : Nat} {r : Rc} {ta : Option Addr} {tc : Nat} {da : Option Addr} {dc : Nat} (h1 : w.ownsRow D 71 3 (.slice ta r.txns.length tc) r.txns.length (txsC r.txns)) (h2 : w.ownsRow D 73 2 (.slice da r.dirty.length dc) r.dirty.length (disC r.dirty)) :
    RB (w.alloc (.cells (recC r ta tc da dc) 31)) D w.heap.size r ta tc da dc := ⟨heap_alloc_new _ _, h1.alloc _, h2.alloc _⟩
theorem below_sum {w w1 w2 : World} (h : Below w.heap.size w w1) (hb : Below w1.heap.size w1 w2) : Below w.heap.size w w2 := h.trans (hb.mono h.size)

set_option maxRecDepth 20000 in
set_option maxHeartbeats 4000000 in
theorem reads_walk (a : Option Addr) (c : Nat) (l : List UInt8) (w : World) (hsl : SlB w a l) (hl : l.length ≤ maxLen) :
    Calls Try.prog 4 #[.slice a l.length c] w fun e w' => e = .returned (.bool true) ∧ Below w.heap.size w w' := by
  unfold maxLen at hl
  by_cases h20 : 20000 < l.length
  · go_enter Try.func4, Try.ntmps4
    go_wp2_with fail
    refine Calls.mono (lives_any _) ?_
    rintro e w1 ⟨rfl, hb⟩
    go_wp2
    go_ret
    exact ⟨rfl, hb⟩
  have hcv := conv_slB (c := c) hsl
  have HRD : Hid (∀ W, Calls Try.prog 19 #[.string ⟨l.toArray⟩] W fun e w' => DecP W l e w') := fun W => by
    have := refdecode_any (txt l) W (by rw [txt_size]; unfold maxLen; omega)
    rw [txt_list] at this
    exact this
  have HRU : Hid (∀ W, Calls Try.prog 21 #[.string ⟨l.toArray⟩] W fun e w' => UnfP W l e w') := fun W => by
    have := refunframe_any (txt l) W (by rw [txt_size]; omega)
    rw [txt_list] at this
    exact this
  have HDE : Hid (∀ (W : World) (a : Option Addr) (c : Nat), SlB W a l → (a = none → c = 0) → Calls Try.prog 18 #[.slice a l.length c] W fun e w' => DecP W l e w') := fun W a c h0 h1 => decode_any a c l W h0 (by omega) h1
  have HUN : Hid (∀ (W : World) (a : Option Addr) (c : Nat), SlB W a l → l.length ≤ c → (a = none → c = 0) → Calls Try.prog 20 #[.slice a l.length c] W fun e w' => UnfP W l e w') := fun W a c h0 h1 h2 => unframe_any a c l W h0 (by omega) h1 h2
  obtain ⟨c1, W1, hc1, hs1, hle1, hb1⟩ := bytes_of w l
  unfold txt at hc1
  have HS1 : Hid _ := hs1
  have HB1 : Hid (Below w.heap.size w W1) := hb1
  have hlx : ¬ 20000 < (l.length : Int) := by omega
  clear hs1 hb1 hsl
  go_enter Try.func4, Try.ntmps4
  go_wp2_with fail
  refine Calls.mono (HDE.out W1 _ c1 HS1.out (by simp)) ?_
  rintro e w1 ⟨ta, tc, da, dc, rfl, o1, o2, hb⟩
  have HB2 : Hid (Below w.heap.size w w1) := below_sum HB1.out hb
  have HR4 : Hid _ := RB.new o1 o2
  clear o1 o2 hb HS1 HB1 hc1 hcv
  go_wp2_with fail
  refine Calls.mono (HRD.out _) ?_
  rintro e w2 ⟨ta2, tc2, da2, dc2, rfl, o1, o2, hb⟩
  have HB3 : Hid (Below w.heap.size w w2) := below_sum (HB2.out.alloc HB2.out.size _) hb
  have HR4b : Hid _ := (HR4.out.call hb).alloc (.cells (recC (decR l) ta2 tc2 da2 dc2) 31)
  have HR6 : Hid _ := RB.new o1 o2
  clear o1 o2 hb HR4 HB2
  obtain ⟨c2, W2, hc2, hs2, hle2, hb2⟩ := bytes_of (w2.alloc (.cells (recC (decR l) ta2 tc2 da2 dc2) 31)) l
  unfold txt at hc2
  have HS2 : Hid (SlB W2 (some ⟨w2.heap.size + 1, 0, none⟩) l) := by
    have := hs2
    simp only [World.size_alloc] at this
    exact this
  have HB4 : Hid (Below w.heap.size w W2) := below_sum (HB3.out.alloc HB3.out.size _) hb2
  have HR4c : Hid _ := HR4b.out.call hb2
  have HR6b : Hid _ := HR6.out.call hb2
  have HLE : Hid _ := hle2
  clear hs2 hb2 HR4b HR6 HB3 hle2
  go_wp2_with fail
  refine Calls.mono (HUN.out W2 _ c2 HS2.out HLE.out (by simp)) ?_
  rintro e w3 ⟨ta3, tc3, da3, dc3, rfl, o1, o2, hb⟩
  have HB5 : Hid (Below w.heap.size w w3) := below_sum HB4.out hb
  have HR4d : Hid _ := (HR4c.out.call hb).alloc (.cells (recC (unf l).1 ta3 tc3 da3 dc3) 31)
  have HR6c : Hid _ := (HR6b.out.call hb).alloc (.cells (recC (unf l).1 ta3 tc3 da3 dc3) 31)
  have HR8 : Hid _ := RB.new o1 o2
  clear o1 o2 hb HR4c HR6b HB4 HS2 HLE hc2
  go_wp2_with fail
  refine Calls.mono (HRU.out _) ?_
  rintro e w4 ⟨ta4, tc4, da4, dc4, rfl, o1, o2, hb⟩
  have HB6 : Hid (Below w.heap.size w w4) := below_sum (HB5.out.alloc HB5.out.size _) hb
  have HR4e : Hid _ := HR4d.out.call hb
  have HR6d : Hid _ := HR6c.out.call hb
  have HR8b : Hid _ := HR8.out.call hb
  have HR11 : Hid _ := RB.new o1 o2
  have HB7 : Hid (Below w.heap.size w (w4.alloc (.cells (recC (unf l).1 ta4 tc4 da4 dc4) 31))) := HB6.out.alloc HB6.out.size _
  have z1 := lt_of_block HR4e.out.blk
  have z2 := lt_of_block HR6d.out.blk
  have HZ3 : Hid (w3.heap.size < w4.heap.size) := lt_of_block HR8b.out.blk
  clear o1 o2 hb HR4d HR6c HR8 HB5 HB6
  obtain ⟨⟨x0, x1, x2, x3, x4, x5, x6, x7, x8, x9, x10, x11⟩, _⟩ := rw_cells HR4e.out.blk
  obtain ⟨⟨y0, y1, y2, y3, y4, y5, y6, y7, y8, y9, y10, y11⟩, _⟩ := rw_cells HR6d.out.blk
  have eqE : (decE l == decE l) = true := by simp
  go_wp2_with fail
  clear x0 x1 x2 x3 x4 x5 x6 x7 x8 x9 x10 x11 y0 y1 y2 y3 y4 y5 y6 y7 y8 y9 y10 y11 z1 z2
  refine Calls.mono (refsame_any (decR l) (decR l) ta tc da dc ta2 tc2 da2 dc2 _ (HR4e.out.alloc _).ri (HR6d.out.alloc _).ri) ?_
  rintro e w5 ⟨rfl, hb⟩
  have HB8 : Hid (Below w.heap.size w w5) := below_sum HB7.out hb
  have HR8c : Hid _ := (HR8b.out.alloc (.cells (recC (unf l).1 ta4 tc4 da4 dc4) 31)).call hb
  have HR11b : Hid _ := HR11.out.call hb
  clear hb HR4e HR6d HR8b HR11 HB7
  obtain ⟨⟨x0, x1, x2, x3, x4, x5, x6, x7, x8, x9, x10, x11⟩, _⟩ := rw_cells HR8c.out.blk
  obtain ⟨⟨y0, y1, y2, y3, y4, y5, y6, y7, y8, y9, y10, y11⟩, _⟩ := rw_cells HR11b.out.blk
  rw [show decide (decR l = decR l) = true from decide_eq_true rfl]
  have eqN : (((unf l).2.1 : Int) == ((unf l).2.1 : Int)) = true := by simp
  have eqF : ((unf l).2.2 == (unf l).2.2) = true := by simp
  go_wp2_with fail
  clear x0 x1 x2 x3 x4 x5 x6 x7 x8 x9 x10 x11 y0 y1 y2 y3 y4 y5 y6 y7 y8 y9 y10 y11
  refine Calls.mono (refsame_any (unf l).1 (unf l).1 ta3 tc3 da3 dc3 ta4 tc4 da4 dc4 _ HR8c.out.ri HR11b.out.ri) ?_
  rintro e w6 ⟨rfl, hb⟩
  have HB9 : Hid (Below w.heap.size w w6) := below_sum HB8.out hb
  clear hb HR8c HR11b HB8
  rw [show decide ((unf l).1 = (unf l).1) = true from decide_eq_true rfl]
  go_wp2_with fail
  refine Calls.mono (lives_any _) ?_
  rintro e w7 ⟨rfl, hb⟩
  go_wp2
  go_ret
  exact ⟨rfl, below_sum HB9.out hb⟩

end Go.Proofs.Ytjhjicokbdloiaa
