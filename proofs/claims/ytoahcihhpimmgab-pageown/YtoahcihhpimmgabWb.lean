/-
  The walk of PageOwn.
-/
import Derived.Test.YtoahcihhpimmgabWa
import Derived.Test.YtoahcihhpimmgabLv
namespace Go.Proofs.Ytoahcihhpimmgab
open Go.RowKit

theorem conv_slB {W : World} {a : Option Addr} {c : Nat} {l : List UInt8} (h : SlB W a l) : (convert 30 9 (.slice a l.length c)).run Try.prog W = .ok (.string ⟨l.toArray⟩) W := by
  cases a with
  | none =>
    have := h.nonil rfl
    subst this
    exact run_convert_bytes_nil W 30 5 Try.underlying30 Try.underlying5 _ _ 9 Try.underlying9
  | some x =>
    exact run_convert_bytes_back W 30 9 5 x c l Try.underlying30 Try.underlying5 Try.underlying9 (fun j hj => h.cells x rfl j _ (by simp [bcells, List.getElem?_eq_getElem hj]))
theorem conv_buf {W : World} {G : Nat} {L : List UInt8} (h : Buf W G L) (hl : L.length = 512) : (convert 30 9 (.slice (some ⟨G, 0, none⟩) 512 512)).run Try.prog W = .ok (.string (txt L)) W := by
  have := conv_slB (c := 512) (Buf.slB h 0)
  rw [List.drop_zero, hl] at this
  exact this
theorem cell4 {w : World} {g t : Nat} {a b c d : Value} (h : w.heap[g]? = some (.cells #[a, b, c, d] t)) : w.cell? ⟨g, 0, none⟩ = some a ∧ w.cell? ⟨g, 1, none⟩ = some b ∧ w.cell? ⟨g, 2, none⟩ = some c ∧ w.cell? ⟨g, 3, none⟩ = some d :=
  ⟨by simp [World.cell?, h], by simp [World.cell?, h], by simp [World.cell?, h], by simp [World.cell?, h]⟩

theorem short_any (k : Int) (x y : List UInt8) (z : Nat) (w : World) :
    Calls Try.prog 5 #[.agg #[.int .i64 k, .string (txt x), .string (txt y), .int .u64 (z : Int)]] w fun e w' => ∃ b, e = .returned (.bool b) ∧ Below w.heap.size w w' := by

  have ex := txt_size x
  have ey := txt_size y
  have HB : Hid (Below w.heap.size w (w.alloc (.cells #[.int .i64 k, .string (txt x), .string (txt y), .int .u64 (z : Int)] 25))) := (Below.refl _ _).alloc (Nat.le_refl _) _
  obtain ⟨c0, c1, c2, c3⟩ := cell4 (heap_alloc_new w (.cells #[.int .i64 k, .string (txt x), .string (txt y), .int .u64 (z : Int)] 25))
  go_enter Try.func5, Try.ntmps5
  go_wp2_with fail
  go_ret
  exact ⟨_, rfl, HB.out⟩

set_option maxRecDepth 100000 in
set_option maxHeartbeats 8000000 in
theorem own_in (m : Nat) (a : Option Addr) (c : Nat) (l : List Ov) (o : Ov) (w : World) (hm : m < 16) (hsl : SlO w a l) (hl : l.length ≤ maxLen) (hk : o.key.length ≤ maxLen) (hv : o.val.length ≤ maxLen) :
    Calls Try.prog 3 #[.int .i64 (m : Int), .slice a l.length c, .agg #[.int .i64 o.kind, .string (txt o.key), .string (txt o.val), .int .u64 (o.tm : Int)]] w fun e w' => e = .returned (.bool true) ∧ Below w.heap.size w w' := by
  obtain ⟨kd, key, val, tm⟩ := o
  simp only at hk hv ⊢
  have hb0 : Below w.heap.size w (w.alloc (.cells #[.int .i64 kd, .string (txt key), .string (txt val), .int .u64 (tm : Int)] 25)) := (Below.refl _ _).alloc (Nat.le_refl _) _
  have HB0 := toHid hb0
  have HO := toHid (heap_alloc_new w (.cells #[.int .i64 kd, .string (txt key), .string (txt val), .int .u64 (tm : Int)] 25))
  have HM := toHid (made_yes (m : Int) a c l (w.alloc (.cells #[.int .i64 kd, .string (txt key), .string (txt val), .int .u64 (tm : Int)] 25)) ⟨by omega, by omega⟩ (hsl.below hb0) hl)
  have HK := toHid hk
  have HV := toHid hv
  clear hb0 hsl hl hk hv
  go_enter Try.func3, Try.ntmps3
  refine wp_seq_k fun K0 hK0 => ?_
  have HK0 := toHid hK0
  clear hK0
  go_wp2_with fail
  refine HK0.out _ _ ?_
  clear HK0
  generalize hw0 : w.alloc (.cells #[.int .i64 kd, .string (txt key), .string (txt val), .int .u64 (tm : Int)] 25) = w0 at HB0 HO HM ⊢
  clear hw0
  go_wp2_with fail
  go_at_call 4
  refine Calls.mono HM.out ?_
  rintro e w1 ⟨p, v, rfl, hP1, hG1, hlsn, hB1⟩
  obtain ⟨lsn, hls⟩ : ∃ x, x = (runM (l.take 100)).2 := ⟨_, rfl⟩
  obtain ⟨cl, hcl⟩ : ∃ x, x = (runM (l.take 100)).1 := ⟨_, rfl⟩
  rw [← hls, ← hcl] at hP1
  rw [← hcl] at hG1
  have HP1 := toHid hP1
  have HG := toHid hG1
  have HB1 := toHid (HB0.out.trans (hB1.mono HB0.out.size))
  have HO1 : Hid (w1.heap[w.heap.size]? = some (.cells #[.int .i64 kd, .string (txt key), .string (txt val), .int .u64 (tm : Int)] 25)) := (hB1.block _ (lt_of_blk HO.out)).trans HO.out
  have HL5 := toHid (pageB_length m lsn cl hG1.room)
  clear hP1 hG1 hlsn hB1 hls hcl HM HO HB0
  obtain ⟨c0, c1, c2, c3⟩ := cell4 HO1.out
  go_wp2_with fail
  go_at_call 5
  refine Calls.mono (short_any kd key val tm w1) ?_
  rintro e w2 ⟨sh, rfl, hB2⟩
  have HP2 := toHid (HP1.out.below hB2 (Nat.le_refl _))
  have HB2 := toHid (HB1.out.trans (hB2.mono HB1.out.size))
  have HO2 : Hid (w2.heap[w.heap.size]? = some (.cells #[.int .i64 kd, .string (txt key), .string (txt val), .int .u64 (tm : Int)] 25)) := (hB2.block _ (lt_of_blk HO1.out)).trans HO1.out
  clear hB2 HP1 HB1 HO1 c0 c1 c2 c3
  cases sh
  · skip
    go_wp2_with fail
    go_at_call 6
    refine Calls.mono (lives_any _) ?_
    rintro e w3 ⟨rfl, hB3⟩
    have HB3 := toHid (HB2.out.trans (hB3.mono HB2.out.size))
    clear hB3
    go_wp2_with fail
    go_ret
    exact ⟨rfl, HB3.out⟩
  go_wp2_with fail
  go_at_call 7
  refine Calls.mono (bytes_any _ p m lsn v cl w2 HP2.out HG.out hm) ?_
  rintro e w3 ⟨G0, rfl, hGe, hBuf, hB3⟩
  have HP3 := toHid (HP2.out.below hB3 (Nat.le_refl _))
  have HB3 := toHid (HB2.out.trans (hB3.mono HB2.out.size))
  have HO3 : Hid (w3.heap[w.heap.size]? = some (.cells #[.int .i64 kd, .string (txt key), .string (txt val), .int .u64 (tm : Int)] 25)) := (hB3.block _ (lt_of_blk HO2.out)).trans HO2.out
  have hc0 := conv_buf hBuf HL5.out
  obtain ⟨S, HSd⟩ : ∃ S, Hid (S = txt (pageB m lsn cl)) := ⟨_, rfl⟩
  rw [← HSd.out] at hc0
  clear hGe hBuf hB3 HP2 HB2 HO2
  go_wp2_with fail
  go_at_call 8
  clear hc0
  refine Calls.mono (clone_any _ p (m : Int) lsn v cl w3 HP3.out HG.out) ?_
  rintro e w4 ⟨q, vq, rfl, hQ4, hB4⟩
  have HQ4 := toHid hQ4
  have HP4 := toHid (HP3.out.below hB4 (Nat.le_refl _))
  have HB34 := toHid hB4
  have HO4 : Hid (w4.heap[w.heap.size]? = some (.cells #[.int .i64 kd, .string (txt key), .string (txt val), .int .u64 (tm : Int)] 25)) := (hB4.block _ (lt_of_blk HO3.out)).trans HO3.out
  clear hQ4 hB4
  go_wp2_with fail
  go_at_call 7
  refine Calls.mono (bytes_any _ p m lsn v cl w4 HP4.out HG.out hm) ?_
  rintro e w5 ⟨G, rfl, hGe, hBuf, hB5⟩
  have HGe := toHid hGe
  have HBz5 := toHid (Bz.of hBuf HL5.out)
  have HB45 := toHid hB5
  have HP5 := toHid (HP4.out.below hB5 (Nat.le_refl _))
  clear hGe hBuf hB5
  go_wp2_with fail
  go_at_call 9
  refine Calls.mono (cells_any _ p (m : Int) lsn v cl w5 HP5.out (by have := HG.out.few; omega)) ?_
  rintro e w6 ⟨r6, rfl, ho6, hB6⟩
  obtain ⟨ac, cc, rfl⟩ := ownsRow_shape ho6
  have HWc6 := toHid (own_wr ho6 HB45.out.size)
  have HBz6 := toHid (HBz5.out.below hB6 (Nat.le_refl _))
  have HB46 := toHid (HB45.out.trans (hB6.mono HB45.out.size))
  have HP6 := toHid (HP5.out.below hB6 (Nat.le_refl _))
  clear ho6 hB6 HP5 HBz5
  go_wp2_with fail
  go_at_call 10
  refine Calls.mono (pairs_any _ p (m : Int) lsn v cl w6 HP6.out HG.out.few) ?_
  rintro e w7 ⟨ad, cd, L7, rfl, hpm, _, ho7, hB7⟩
  have hL7 : L7.length ≤ 64 := by
    have h1 := hpm.length_eq
    have h2 := prs_le cl
    have h3 := HG.out.few
    omega
  have HL7 := toHid hL7
  have HM7 : Hid (M3 w4 G ac cl.length ad L7.length w7) := ⟨HGe.out, HB46.out.trans (hB7.mono HB46.out.size), HBz6.out.below hB7 (Nat.le_refl _), HWc6.out.below hB7 (Nat.le_refl _), own_wr ho7 HB46.out.size⟩
  have HLc : Hid (cl.length ≤ 64) := HG.out.few
  clear hpm ho7 hB7 hL7 HWc6 HBz6 HB46 HP6 HB45 HGe
  generalize cl.length = lc at HM7 HLc ⊢
  generalize L7.length = ld at HM7 HL7 ⊢
  go_wp2_with fail
  refine wp173 rfl rfl (loop3a_wp w4 w.heap.size p q G S ac lc cc ad ld cd (by omega) _ w7 ⟨rfl, rfl, rfl, rfl, rfl, rfl, rfl⟩ rfl HM7.out _ ?_)
  clear HM7
  intro ua wa hua hMa
  have HMa := toHid hMa
  obtain ⟨h5, h7, h8, h9, h10, h11, h12⟩ := hua
  rw [frame_open173, h5, h7, h8, h9, h10, h11, h12]
  clear h5 h7 h8 h9 h10 h11 h12 hMa
  go_wp2_with fail
  refine wp173 rfl rfl (loop3b_wp w4 w.heap.size p q G S ac lc cc ad ld cd (by have := HLc.out; omega) _ wa ⟨rfl, rfl, rfl, rfl, rfl, rfl, rfl⟩ rfl HMa.out _ ?_)
  clear HMa
  intro ub wb hub hMb
  have HMb := toHid hMb
  obtain ⟨h5, h7, h8, h9, h10, h11, h12⟩ := hub
  rw [frame_open173, h5, h7, h8, h9, h10, h11, h12]
  clear h5 h7 h8 h9 h10 h11 h12 hMb
  go_wp2_with fail
  refine wp173 rfl rfl (loop3c_wp w4 w.heap.size p q G S ac lc cc ad ld cd (by have := HL7.out; omega) _ wb ⟨rfl, rfl, rfl, rfl, rfl, rfl, rfl⟩ rfl HMb.out _ ?_)
  clear HMb
  intro uc wc huc hMc
  have HB4c := toHid hMc.bel
  obtain ⟨h5, h7, h8, h9, h10, h11, h12⟩ := huc
  rw [frame_open173, h5, h7, h8, h9, h10, h11, h12]
  clear h5 h7 h8 h9 h10 h11 h12 hMc
  have HPc := toHid (HP4.out.below HB4c.out (Nat.le_refl _))
  have HQc := toHid (HQ4.out.below HB4c.out (Nat.le_refl _))
  have HB3c := toHid (HB34.out.trans (HB4c.out.mono HB34.out.size))
  have HOc : Hid (wc.heap[w.heap.size]? = some (.cells #[.int .i64 kd, .string (txt key), .string (txt val), .int .u64 (tm : Int)] 25)) := (HB4c.out.block _ (lt_of_blk HO4.out)).trans HO4.out
  clear HB4c HP4 HQ4 HB34 HO4
  go_wp2_with fail
  go_at_call 7
  refine Calls.mono (bytes_any _ p m lsn v cl wc HPc.out HG.out hm) ?_
  rintro e w9 ⟨G9, rfl, _, hBuf, hB9⟩
  have HQ9 := toHid (HQc.out.below hB9 (Nat.le_refl _))
  have HB39 := toHid (HB3c.out.trans (hB9.mono HB3c.out.size))
  have HO9 : Hid (w9.heap[w.heap.size]? = some (.cells #[.int .i64 kd, .string (txt key), .string (txt val), .int .u64 (tm : Int)] 25)) := (hB9.block _ (lt_of_blk HOc.out)).trans HOc.out
  have hc9 := conv_buf hBuf HL5.out
  rw [← HSd.out] at hc9
  clear hBuf hB9 HPc HQc HB3c HOc
  go_wp2_with fail
  go_at_call 7
  clear hc9
  refine Calls.mono (bytes_any _ q m lsn vq cl w9 HQ9.out HG.out hm) ?_
  rintro e w10 ⟨G10, rfl, _, hBuf, hB10⟩
  have HQ10 := toHid (HQ9.out.below hB10 (Nat.le_refl _))
  have HB310 := toHid (HB39.out.trans (hB10.mono HB39.out.size))
  have HO10 : Hid (w10.heap[w.heap.size]? = some (.cells #[.int .i64 kd, .string (txt key), .string (txt val), .int .u64 (tm : Int)] 25)) := (hB10.block _ (lt_of_blk HO9.out)).trans HO9.out
  have hc10 := conv_buf hBuf HL5.out
  rw [← HSd.out] at hc10
  clear hBuf hB10 HQ9 HB39 HO9
  obtain ⟨c0, c1, c2, c3⟩ := cell4 HO10.out
  go_wp2_with fail
  go_at_call 11
  clear hc10 c0 c1 c2 c3
  refine Calls.mono (insert_any _ q (m : Int) lsn vq cl key val w10 HQ10.out HG.out HK.out HV.out) ?_
  rintro e w11 ⟨rfl, v11, hQ11, hT11, _⟩
  have hb11 := HQ10.out.touched hT11
  have HQ11 := toHid hQ11
  have HG11 := toHid (ins_good HG.out key val)
  have HB311 := toHid (HB310.out.trans hb11)
  have HO11 : Hid (w11.heap[w.heap.size]? = some (.cells #[.int .i64 kd, .string (txt key), .string (txt val), .int .u64 (tm : Int)] 25)) := (HB311.out.block _ (lt_of_blk HO3.out)).trans HO3.out
  clear hQ11 hT11 hb11 HQ10 HB310 HO10
  obtain ⟨l11, hl11⟩ : ∃ x, x = (insL cl key val).1 := ⟨_, rfl⟩
  obtain ⟨r11, hr11⟩ : ∃ x, x = (insL cl key val).2 := ⟨_, rfl⟩
  rw [← hl11] at HQ11 HG11
  rw [← hr11]
  clear hl11 hr11
  obtain ⟨c0, c1, c2, c3⟩ := cell4 HO11.out
  go_wp2_with fail
  go_at_call 12
  clear c0 c1 c2 c3
  refine Calls.mono (delete_any _ q (m : Int) lsn v11 l11 key w11 HQ11.out HG11.out) ?_
  rintro e w12 ⟨rfl, v12, hQ12, hT12, _⟩
  have hb12 := HQ11.out.touched hT12
  have HQ12 := toHid hQ12
  have HB312 := toHid (HB311.out.trans hb12)
  have HO12 : Hid (w12.heap[w.heap.size]? = some (.cells #[.int .i64 kd, .string (txt key), .string (txt val), .int .u64 (tm : Int)] 25)) := (HB312.out.block _ (lt_of_blk HO3.out)).trans HO3.out
  clear hQ12 hT12 hb12 HQ11 HB311 HO11
  obtain ⟨l12, hl12⟩ : ∃ x, x = (delL l11 key).1 := ⟨_, rfl⟩
  obtain ⟨r12, hr12⟩ : ∃ x, x = (delL l11 key).2 := ⟨_, rfl⟩
  rw [← hl12] at HQ12
  rw [← hr12]
  clear hl12 hr12
  obtain ⟨c0, c1, c2, c3⟩ := cell4 HO12.out
  go_wp2_with fail
  go_at_call 13
  clear c0 c1 c2 c3
  refine Calls.mono (stamp_any _ q (m : Int) lsn v12 l12 tm w12 HQ12.out) ?_
  rintro e w13 ⟨rfl, hQ13, hT13⟩
  have HB313 := toHid (HB312.out.trans (HQ12.out.touched hT13))
  have HP13 := toHid (HP3.out.below HB313.out (Nat.le_refl _))
  clear hQ13 hT13 HQ12 HB312 HO12
  go_wp2_with fail
  go_at_call 7
  refine Calls.mono (bytes_any _ p m lsn v cl w13 HP13.out HG.out hm) ?_
  rintro e w14 ⟨G14, rfl, _, hBuf, hB14⟩
  have HB314 := toHid (HB313.out.trans (hB14.mono HB313.out.size))
  have HO14 : Hid (w14.heap[w.heap.size]? = some (.cells #[.int .i64 kd, .string (txt key), .string (txt val), .int .u64 (tm : Int)] 25)) := (HB314.out.block _ (lt_of_blk HO3.out)).trans HO3.out
  have hc14 := conv_buf hBuf HL5.out
  rw [← HSd.out] at hc14
  have HBe := toHid (HB3.out.trans (HB314.out.mono HB3.out.size))
  clear hBuf hB14 HP13 HB313 HP3 HB3 HO3 HB314
  obtain ⟨c0, c1, c2, c3⟩ := cell4 HO14.out
  go_wp2_with fail
  go_at_call 13
  clear hc14
  refine Calls.mono (stamp_nil 1 w14) ?_
  rintro e w15 ⟨rfl, hw15⟩
  obtain rfl := hw15.symm
  go_wp2_with fail
  go_at_call 14
  refine Calls.mono (get_nil (txt key) w14) ?_
  rintro e w16 ⟨rfl, hB16⟩
  have HBf := toHid (HBe.out.trans (hB16.mono HBe.out.size))
  clear hB16 c0 c1 c2 c3 HO14 HBe
  go_wp2_with fail
  go_at_call 11
  refine Calls.mono (insert_nil _ _ _) ?_
  rintro e wx ⟨rfl, hwx⟩
  obtain rfl := hwx.symm
  go_wp2_with fail
  go_at_call 15
  refine Calls.mono (update_nil _ _ _) ?_
  rintro e wx ⟨rfl, hwx⟩
  obtain rfl := hwx.symm
  go_wp2_with fail
  go_at_call 12
  refine Calls.mono (delete_nil _ _) ?_
  rintro e wx ⟨rfl, hwx⟩
  obtain rfl := hwx.symm
  go_wp2_with fail
  go_at_call 7
  refine Calls.mono (bytes_nil _) ?_
  rintro e wx ⟨rfl, hwx⟩
  obtain rfl := hwx.symm
  go_wp2_with fail
  go_at_call 9
  refine Calls.mono (cells_nil _) ?_
  rintro e wx ⟨rfl, hwx⟩
  obtain rfl := hwx.symm
  go_wp2_with fail
  go_at_call 10
  refine Calls.mono (pairs_nil _) ?_
  rintro e wx ⟨rfl, hwx⟩
  obtain rfl := hwx.symm
  go_wp2_with fail
  go_at_call 16
  refine Calls.mono (free_nil _) ?_
  rintro e wx ⟨rfl, hwx⟩
  obtain rfl := hwx.symm
  go_wp2_with fail
  go_at_call 17
  refine Calls.mono (id_nil _) ?_
  rintro e wx ⟨rfl, hwx⟩
  obtain rfl := hwx.symm
  go_wp2_with fail
  go_at_call 18
  refine Calls.mono (lsn_nil _) ?_
  rintro e wx ⟨rfl, hwx⟩
  obtain rfl := hwx.symm
  go_wp2_with fail
  go_at_call 8
  refine Calls.mono (clone_nil _) ?_
  rintro e wx ⟨rfl, hwx⟩
  obtain rfl := hwx.symm
  go_wp2_with fail
  go_at_call 6
  refine Calls.mono (lives_any _) ?_
  rintro e w17 ⟨rfl, hB17⟩
  have HBg := toHid (HBf.out.trans (hB17.mono HBf.out.size))
  clear hB17
  go_wp2_with fail
  go_ret
  exact ⟨rfl, HBg.out⟩

set_option maxRecDepth 100000 in
set_option maxHeartbeats 3000000 in
theorem own_out (id : Int) (h : ¬ (0 ≤ id ∧ id < 16)) (a : Option Addr) (c : Nat) (l : List Ov) (o : Ov) (w : World) :
    Calls Try.prog 3 #[.int .i64 id, .slice a l.length c, .agg #[.int .i64 o.kind, .string (txt o.key), .string (txt o.val), .int .u64 (o.tm : Int)]] w fun e w' => e = .returned (.bool true) ∧ Below w.heap.size w w' := by
  have HB0 : Hid (Below w.heap.size w (w.alloc (.cells #[.int .i64 o.kind, .string (txt o.key), .string (txt o.val), .int .u64 (o.tm : Int)] 25))) := (Below.refl _ _).alloc (Nat.le_refl _) _
  have HM := toHid (made_no id a c l (w.alloc (.cells #[.int .i64 o.kind, .string (txt o.key), .string (txt o.val), .int .u64 (o.tm : Int)] 25)) h)
  clear h
  go_enter Try.func3, Try.ntmps3
  go_wp2_with fail
  go_at_call 4
  refine Calls.mono HM.out ?_
  rintro e w1 ⟨rfl, hw1⟩
  obtain rfl := hw1.symm
  go_wp2_with fail
  go_at_call 6
  refine Calls.mono (lives_any _) ?_
  rintro e w17 ⟨rfl, hB17⟩
  have HBg := toHid (HB0.out.trans (hB17.mono HB0.out.size))
  clear hB17
  go_wp2_with fail
  go_ret
  exact ⟨rfl, HBg.out⟩

theorem own_walk (id : Int) (a : Option Addr) (c : Nat) (l : List Ov) (o : Ov) (w : World) (hsl : SlO w a l) (hl : l.length ≤ maxLen) (hk : o.key.length ≤ maxLen) (hv : o.val.length ≤ maxLen) :
    Calls Try.prog 3 #[.int .i64 id, .slice a l.length c, .agg #[.int .i64 o.kind, .string (txt o.key), .string (txt o.val), .int .u64 (o.tm : Int)]] w fun e w' => e = .returned (.bool true) ∧ Below w.heap.size w w' := by
  by_cases h : 0 ≤ id ∧ id < 16
  · obtain ⟨m, rfl⟩ : ∃ m : Nat, id = m := ⟨id.toNat, by omega⟩
    exact own_in m a c l o w (by omega) hsl hl hk hv
  · exact own_out id h a c l o w

end Go.Proofs.Ytoahcihhpimmgab
