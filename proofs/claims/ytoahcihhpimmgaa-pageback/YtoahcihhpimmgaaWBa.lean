/-
  The walk of PageBack.
-/
import Derived.Test.YtoahcihhpimmgaaNf
import Derived.Test.YtoahcihhpimmgaaMd
import Derived.Test.YtoahcihhpimmgaaRg
namespace Go.Proofs.Ytoahcihhpimmgaa
open Go.RowKit

theorem below_sum {w w1 w2 : World} (h : Below w.heap.size w w1) (hb : Below w1.heap.size w1 w2) : Below w.heap.size w w2 := h.trans (hb.mono h.size)
theorem buf_on {w w' : World} {G : Nat} {L : List UInt8} (h : Buf w G L) (hb : Below w.heap.size w w') : Buf w' G L := by
  unfold Buf at *
  rw [hb.block _ (lt_of_blk h)]
  exact h
theorem pg_on {w w' : World} {B p : Nat} {id : Int} {lsn : Nat} {v : Value} {l : List Cl} (h : PgOk w B p id lsn v l) (hb : Below w.heap.size w w') : PgOk w' B p id lsn v l := h.below hb (Nat.le_refl _)

theorem buf_cell {w : World} {G j : Nat} {L : List UInt8} (h : Buf w G L) (hj : j < L.length) : w.cell? ⟨G, j, none⟩ = some (.int .u8 (L[j].toNat : Int)) := by
  unfold Buf at h
  simp [World.cell?, h, bcells, hj]
theorem buf_set {w : World} {G : Nat} {L : List UInt8} (h : Buf w G L) (j : Nat) (x : UInt8) : Buf (w.setCell ⟨G, j, none⟩ (.int .u8 (x.toNat : Int))) G (L.set j x) := by
  unfold Buf at *
  rw [← bcells_set]
  show (w.heap.modify G _)[G]? = _
  simp [Array.getElem?_modify, h]
theorem buf_free {w : World} {G : Nat} {L : List UInt8} (h : Buf w G L) (j : Nat) : w.frozen? ⟨G, j, none⟩ = false := by
  unfold Buf at h
  simp [World.frozen?, h]

set_option maxRecDepth 20000 in
set_option maxHeartbeats 4000000 in
theorem back_walk (id at0 : Int) (a : Option Addr) (c : Nat) (l : List Ov) (w : World) (hsl : SlO w a l) (hl : l.length ≤ maxLen) :
    Calls Try.prog 6 #[.int .i64 id, .slice a l.length c, .int .i64 at0] w fun e w' => e = .returned (.bool true) ∧ Below w.heap.size w w' := by
  by_cases hid : 0 ≤ id ∧ id < 16
  rotate_left
  · go_enter Try.func6, Try.ntmps6
    go_wp2_with fail
    refine Calls.mono (made_no id a c l w hid) ?_
    rintro e w1 ⟨rfl, hw⟩
    obtain rfl := hw.symm
    go_wp2_with fail
    refine Calls.mono (lives_any _) ?_
    rintro e w2 ⟨rfl, hb⟩
    go_wp2
    go_ret
    exact ⟨rfl, hb⟩
  have HM : Hid _ := made_yes id a c l w hid hsl hl
  obtain ⟨i, rfl⟩ : ∃ i : Nat, id = (i : Int) := ⟨id.toNat, by omega⟩
  have hi : i < 16 := by omega
  clear hid hsl hl
  go_enter Try.func6, Try.ntmps6
  go_wp2_with fail
  refine Calls.mono HM.out ?_
  rintro e w1 ⟨p, v, rfl, hP, hG, hlsn, hb1⟩
  obtain ⟨L, HL⟩ : ∃ L, Hid (L = (runM (l.take 100)).1) := ⟨_, rfl⟩
  obtain ⟨lsn, HLs⟩ : ∃ n, Hid (n = (runM (l.take 100)).2) := ⟨_, rfl⟩
  rw [← HL.out, ← HLs.out] at hP
  rw [← HL.out] at hG
  rw [← HLs.out] at hlsn
  have HP1 : Hid _ := hP
  have HG : Hid _ := hG
  have HB1 : Hid _ := hb1
  have hfew := hG.few
  clear hP hG hb1 HM HL HLs
  go_wp2_with fail
  refine Calls.mono (bytes_any w.heap.size p i lsn v L _ HP1.out HG.out hi) ?_
  rintro e w2 ⟨G, rfl, hGe, hBuf, hb2⟩
  have HP2 : Hid _ := pg_on HP1.out hb2
  have HB2 : Hid _ := below_sum HB1.out hb2
  have hsz1 : w.heap.size ≤ w1.heap.size := HB1.out.size
  have HGe : Hid (w.heap.size ≤ G) := Nat.le_trans hsz1 hGe
  have HU2 : Hid _ := hBuf
  clear hBuf hb2 HP1 HB1 hGe hsz1
  have hlen := pageB_length i lsn L HG.out.room
  have hss := page_sum i lsn L
  rw [← pg_body] at hss
  obtain ⟨B, HBd⟩ : ∃ B, Hid (B = pageB i lsn L) := ⟨_, rfl⟩
  have HLN : Hid (B.length = 512) := by rw [HBd.out]; exact hlen
  have HSS : Hid (leV (B.take 4) = more 0 (B.drop 4)) := by rw [HBd.out]; exact hss
  clear hlen hss
  go_wp2_with fail
  refine Calls.mono (parse_own G 0 512 i lsn L w2 (by have := Buf.slB HU2.out 0; rw [List.drop_zero] at this; exact this) HG.out (by decide) hi hlsn) ?_
  rintro e w3 ⟨p2, v2, rfl, hP2, hb3⟩
  have HQ3 : Hid _ := hP2
  have HP3 : Hid _ := pg_on HP2.out hb3
  have HU3 : Hid _ := buf_on HU2.out hb3
  have HB3 : Hid _ := below_sum HB2.out hb3
  clear hP2 hb3 HP2 HU2 HB2
  go_wp2_with fail
  refine Calls.mono (cells_any _ p (i : Int) lsn v L _ HP3.out (by omega)) ?_
  rintro e w4 ⟨r1, rfl, ho1, hb4⟩
  obtain ⟨a1, c1, rfl⟩ := ownsRow_shape ho1
  have HO1 : Hid _ := ho1
  have HQ4 : Hid _ := pg_on HQ3.out hb4
  have HP4 : Hid _ := pg_on HP3.out hb4
  have HU4 : Hid _ := buf_on HU3.out hb4
  have HB4 : Hid _ := below_sum HB3.out hb4
  clear ho1 hb4 HQ3 HP3 HU3 HB3
  go_wp2_with fail
  refine Calls.mono (cells_any _ p2 (i : Int) lsn v2 L _ HQ4.out (by omega)) ?_
  rintro e w5 ⟨r2, rfl, ho2, hb5⟩
  obtain ⟨a2, c2, rfl⟩ := ownsRow_shape ho2
  have HS1 : Hid _ := (slC_of_own (ownsRow_below HO1.out hb5 (fun k hk => ownsRow_lt HO1.out k hk))).1
  have HS2 : Hid _ := (slC_of_own ho2).1
  have HQ5 : Hid _ := pg_on HQ4.out hb5
  have HP5 : Hid _ := pg_on HP4.out hb5
  have HU5 : Hid _ := buf_on HU4.out hb5
  have HB5 : Hid _ := below_sum HB4.out hb5
  clear ho2 hb5 HO1 HQ4 HP4 HU4 HB4
  go_wp2_with fail
  refine Calls.mono (samecells_any a1 c1 L a2 c2 L _ HS1.out HS2.out (by omega) (by omega)) ?_
  rintro e w6 ⟨rfl, hb6⟩
  rw [show decide (L = L) = true from decide_eq_true rfl]
  have HQ6 : Hid _ := pg_on HQ5.out hb6
  have HP6 : Hid _ := pg_on HP5.out hb6
  have HU6 : Hid _ := buf_on HU5.out hb6
  have HB6 : Hid _ := below_sum HB5.out hb6
  clear hb6 HS1 HS2 HQ5 HP5 HU5 HB5
  go_wp2_with fail
  refine Calls.mono (lsn_any _ p2 (i : Int) lsn v2 L _ HQ6.out) ?_
  rintro e wx ⟨rfl, hw⟩
  obtain rfl := hw.symm
  go_wp2_with fail
  refine Calls.mono (lsn_any _ p (i : Int) lsn v L _ HP6.out) ?_
  rintro e wx ⟨rfl, hw⟩
  obtain rfl := hw.symm
  have el : ((lsn : Int) != (lsn : Int)) = false := by simp
  go_wp2_with fail
  refine Calls.mono (id_any _ p2 (i : Int) lsn v2 L _ HQ6.out) ?_
  rintro e wx ⟨rfl, hw⟩
  obtain rfl := hw.symm
  have ei : ((i : Int) != (i : Int)) = false := by simp
  have htm : ((i : Int) + 1).tmod 16 = (((i + 1) % 16 : Nat) : Int) := by
    rw [Int.tmod_eq_emod_of_nonneg (by omega)]
    omega
  go_wp2_with fail
  rw [show ((i : Int) + 1) % 16 = (((i + 1) % 16 : Nat) : Int) by omega]
  refine Calls.mono (parse_other G 0 512 ((i + 1) % 16) i lsn L _ (by have := Buf.slB HU6.out 0; rw [List.drop_zero] at this; exact this) HG.out (by decide) (by omega) hi (by omega)) ?_
  rintro e w7 ⟨rfl, hb7⟩
  have HU7 : Hid (Buf w7 G B) := by rw [HBd.out]; exact buf_on HU6.out hb7
  have HB7 : Hid _ := below_sum HB6.out hb7
  clear hb7 HQ6 HP6 HU6 HB6 htm el ei
  obtain ⟨t, ht⟩ : ∃ t, at0.tmod 4096 = t := ⟨_, rfl⟩
  have ht1 : -4096 < t ∧ t < 4096 := by
    rw [← ht]
    have a1 := Int.tmod_lt_of_pos at0 (show (0 : Int) < 4096 by decide)
    have a2 := Int.lt_tmod_of_pos at0 (show (0 : Int) < 4096 by decide)
    omega
  obtain ⟨n, hn⟩ : ∃ n : Nat, (if t < 0 then t + 4096 else t) = (n : Int) := ⟨(if t < 0 then t + 4096 else t).toNat, by split <;> omega⟩
  have hn4 : n < 4096 := by split at hn <;> omega
  obtain ⟨j, hj⟩ : ∃ j, j = n / 8 := ⟨_, rfl⟩
  obtain ⟨k, hk⟩ : ∃ k, k = n % 8 := ⟨_, rfl⟩
  have hj5 : j < 512 := by omega
  have hk8 : k < 8 := by omega
  have hjB : j < B.length := by rw [HLN.out]; exact hj5
  have htd : ((n : Int)).tdiv 8 = (j : Int) := by rw [Int.tdiv_eq_ediv_of_nonneg (by omega)]; omega
  have htr : ((n : Int)).tmod 8 = (k : Int) := by rw [Int.tmod_eq_emod_of_nonneg (by omega)]; omega
  have htd' : (n : Int) / 8 = (j : Int) := by omega
  have htr' : (n : Int) % 8 = (k : Int) := by omega
  have hcl : w7.cell? ⟨G, j, none⟩ = some (.int .u8 (B[j].toNat : Int)) := buf_cell HU7.out hjB
  have hfz : w7.frozen? ⟨G, j, none⟩ = false := buf_free HU7.out j
  have hpw := pow_small k hk8
  have htb := turn_byte B[j] k hk8
  obtain ⟨x, hx⟩ : ∃ x : UInt8, x = B[j] ^^^ UInt8.ofNat (2 ^ k) := ⟨_, rfl⟩
  rw [← hx] at htb
  have HX : Hid _ := hx
  have HJ : Hid (j = n / 8) := hj
  clear hj hk hx
  by_cases hneg : t < 0
  · have hn2 : t + 4096 = (n : Int) := by rw [if_pos hneg] at hn; exact hn
    clear hn
    go_wp2_with fail
    obtain ⟨W, hW⟩ : ∃ W, W = w7.setCell ⟨G, j, none⟩ (.int .u8 (x.toNat : Int)) := ⟨_, rfl⟩
    obtain ⟨B2, hB2⟩ : ∃ B2, B2 = B.set j x := ⟨_, rfl⟩
    have HU8 : Hid (Buf W G B2) := by rw [hW, hB2]; exact buf_set HU7.out j x
    have HB8 : Hid (Below w.heap.size w W) := by rw [hW]; exact HB7.out.setCell HGe.out _
    have HL8 : Hid (B2.length = 512) := by rw [hB2, List.length_set]; exact HLN.out
    have HNE : Hid (leV (B2.take 4) ≠ more 0 (B2.drop 4)) := by rw [hB2, HX.out]; exact turn_seen B HLN.out HSS.out j k hjB hk8
    rw [← hW]
    clear hW hB2 hcl hfz hpw htb htd htr htd' htr' hn2 ht hneg
    obtain ⟨Z, hZ⟩ : ∃ Z, Z = List.replicate 512 (0 : UInt8) := ⟨_, rfl⟩
    have hmk := make_buf
    rw [← hZ] at hmk
    have hlZ : Z.length = 512 := by rw [hZ]; simp
    have HZ : Hid (Z = List.replicate 512 (0 : UInt8)) := hZ
    clear hZ
    have hc1 : (convert 45 9 (.slice (some ⟨G, 0, none⟩) 512 512)).run Try.prog W.drew = .ok (.string (txt B2)) W.drew := conv_buf HU8.out HL8.out
    have hc2 : (convert 45 9 (.slice (some ⟨G, 0, none⟩) 512 512)).run Try.prog (W.alloc (.cells (bcells Z).toArray 5)).drew = .ok (.string (txt B2)) (W.alloc (.cells (bcells Z).toArray 5)).drew := conv_buf (buf_on (w := W) HU8.out (((Below.refl _ _).alloc (Nat.le_refl _) _).drew)) HL8.out
    have hc3 : (convert 45 9 (.slice (some ⟨W.heap.size, 0, none⟩) 512 512)).run Try.prog (W.alloc (.cells (bcells Z).toArray 5)).drew = .ok (.string (txt Z)) (W.alloc (.cells (bcells Z).toArray 5)).drew := conv_buf (W := (W.alloc (.cells (bcells Z).toArray 5)).drew) (heap_alloc_new W (.cells (bcells Z).toArray 5)) hlZ
    clear hlZ
    by_cases hz : B2 = Z
    · have hq : ((txt B2).toList == (txt Z).toList) = true := by rw [hz]; simp
      go_region
      go_wp2_with fail
      refine Calls.mono (lives_any _) ?_
      rintro e w9 ⟨rfl, hb9⟩
      go_wp2
      go_ret
      exact ⟨rfl, below_sum (HB8.out.alloc HB8.out.size _).drew hb9⟩
    · have hq : ((txt B2).toList == (txt Z).toList) = false := by
        rw [beq_eq_false_iff_ne]
        intro e
        exact hz (by simpa [txt, ByteArray.toList_eq] using e)
      have hno : Hid (B2.all (· == 0) = false) := by
        show _ = _
        rw [Bool.eq_false_iff]
        intro ha
        have hall : ∀ x ∈ B2, x = 0 := by simpa [List.all_eq_true] using ha
        exact hz (by rw [HZ.out]; exact List.eq_replicate_iff.2 ⟨HL8.out, hall⟩)
      have HB9 : Hid (Below w.heap.size w (W.alloc (.cells (bcells Z).toArray 5)).drew) := (HB8.out.alloc HB8.out.size _).drew
      have HS9 : Hid (SlB (W.alloc (.cells (bcells Z).toArray 5)).drew (some ⟨G, 0, none⟩) B2) := by
        have := Buf.slB (buf_on (w := W) HU8.out (((Below.refl _ _).alloc (Nat.le_refl _) (.cells (bcells Z).toArray 5)).drew)) 0
        rw [List.drop_zero] at this
        exact this
      clear hz
      go_region
      go_wp2_with fail
      refine Calls.mono (parse_sum G 0 512 i B2 _ HS9.out HL8.out (by decide) hi hno.out _ _ rfl rfl HNE.out) ?_
      rintro e w9 ⟨rfl, hb9⟩
      have HBx : Hid _ := below_sum HB9.out hb9
      clear hb9 hc1 hc2 hc3 hmk
      go_wp2_with fail
      refine Calls.mono (lives_any _) ?_
      rintro e wz ⟨rfl, hbz⟩
      go_wp2
      go_ret
      exact ⟨rfl, below_sum HBx.out hbz⟩
  · have hn2 : t = (n : Int) := by rw [if_neg hneg] at hn; exact hn
    clear hn
    go_wp2_with fail
    obtain ⟨W, hW⟩ : ∃ W, W = w7.setCell ⟨G, j, none⟩ (.int .u8 (x.toNat : Int)) := ⟨_, rfl⟩
    obtain ⟨B2, hB2⟩ : ∃ B2, B2 = B.set j x := ⟨_, rfl⟩
    have HU8 : Hid (Buf W G B2) := by rw [hW, hB2]; exact buf_set HU7.out j x
    have HB8 : Hid (Below w.heap.size w W) := by rw [hW]; exact HB7.out.setCell HGe.out _
    have HL8 : Hid (B2.length = 512) := by rw [hB2, List.length_set]; exact HLN.out
    have HNE : Hid (leV (B2.take 4) ≠ more 0 (B2.drop 4)) := by rw [hB2, HX.out]; exact turn_seen B HLN.out HSS.out j k hjB hk8
    rw [← hW]
    clear hW hB2 hcl hfz hpw htb htd htr htd' htr' hn2 ht hneg
    obtain ⟨Z, hZ⟩ : ∃ Z, Z = List.replicate 512 (0 : UInt8) := ⟨_, rfl⟩
    have hmk := make_buf
    rw [← hZ] at hmk
    have hlZ : Z.length = 512 := by rw [hZ]; simp
    have HZ : Hid (Z = List.replicate 512 (0 : UInt8)) := hZ
    clear hZ
    have hc1 : (convert 45 9 (.slice (some ⟨G, 0, none⟩) 512 512)).run Try.prog W.drew = .ok (.string (txt B2)) W.drew := conv_buf HU8.out HL8.out
    have hc2 : (convert 45 9 (.slice (some ⟨G, 0, none⟩) 512 512)).run Try.prog (W.alloc (.cells (bcells Z).toArray 5)).drew = .ok (.string (txt B2)) (W.alloc (.cells (bcells Z).toArray 5)).drew := conv_buf (buf_on (w := W) HU8.out (((Below.refl _ _).alloc (Nat.le_refl _) _).drew)) HL8.out
    have hc3 : (convert 45 9 (.slice (some ⟨W.heap.size, 0, none⟩) 512 512)).run Try.prog (W.alloc (.cells (bcells Z).toArray 5)).drew = .ok (.string (txt Z)) (W.alloc (.cells (bcells Z).toArray 5)).drew := conv_buf (W := (W.alloc (.cells (bcells Z).toArray 5)).drew) (heap_alloc_new W (.cells (bcells Z).toArray 5)) hlZ
    clear hlZ
    by_cases hz : B2 = Z
    · have hq : ((txt B2).toList == (txt Z).toList) = true := by rw [hz]; simp
      go_region
      go_wp2_with fail
      refine Calls.mono (lives_any _) ?_
      rintro e w9 ⟨rfl, hb9⟩
      go_wp2
      go_ret
      exact ⟨rfl, below_sum (HB8.out.alloc HB8.out.size _).drew hb9⟩
    · have hq : ((txt B2).toList == (txt Z).toList) = false := by
        rw [beq_eq_false_iff_ne]
        intro e
        exact hz (by simpa [txt, ByteArray.toList_eq] using e)
      have hno : Hid (B2.all (· == 0) = false) := by
        show _ = _
        rw [Bool.eq_false_iff]
        intro ha
        have hall : ∀ x ∈ B2, x = 0 := by simpa [List.all_eq_true] using ha
        exact hz (by rw [HZ.out]; exact List.eq_replicate_iff.2 ⟨HL8.out, hall⟩)
      have HB9 : Hid (Below w.heap.size w (W.alloc (.cells (bcells Z).toArray 5)).drew) := (HB8.out.alloc HB8.out.size _).drew
      have HS9 : Hid (SlB (W.alloc (.cells (bcells Z).toArray 5)).drew (some ⟨G, 0, none⟩) B2) := by
        have := Buf.slB (buf_on (w := W) HU8.out (((Below.refl _ _).alloc (Nat.le_refl _) (.cells (bcells Z).toArray 5)).drew)) 0
        rw [List.drop_zero] at this
        exact this
      clear hz
      go_region
      go_wp2_with fail
      refine Calls.mono (parse_sum G 0 512 i B2 _ HS9.out HL8.out (by decide) hi hno.out _ _ rfl rfl HNE.out) ?_
      rintro e w9 ⟨rfl, hb9⟩
      have HBx : Hid _ := below_sum HB9.out hb9
      clear hb9 hc1 hc2 hc3 hmk
      go_wp2_with fail
      refine Calls.mono (lives_any _) ?_
      rintro e wz ⟨rfl, hbz⟩
      go_wp2
      go_ret
      exact ⟨rfl, below_sum HBx.out hbz⟩

end Go.Proofs.Ytoahcihhpimmgaa
