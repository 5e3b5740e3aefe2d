/-
  The document's bytes of a page.
-/
import Derived.Test.YtoahcihhpimmgaaRa
namespace Go.Proofs.Ytoahcihhpimmgaa
open Go.RowKit

/-- How long a text is. -/
def strLen : Value → Nat
  | .string b => b.size
  | _ => 0

theorem layS_take (l : List Cl) (k : Nat) (hk : k < l.length) : layS 512 (l.take (k + 1)) = layS 512 (l.take k) ++ (if l[k].used then leB (512 - sumC (l.take (k + 1))) 2 ++ leB (sizeC l[k]) 2 else leB 0 2 ++ leB 0 2) := by
  have et : l.take (k + 1) = l.take k ++ [l[k]] := by rw [List.take_add_one, List.getElem?_eq_getElem hk]; rfl
  rw [sumC_take l k hk, et, layS_append]
  congr 1
  simp only [layS, List.append_nil]
  split
  · rw [Nat.sub_sub]
  · rfl
theorem layC_take (l : List Cl) (k : Nat) (hk : k < l.length) : layC (l.take (k + 1)) = cellB l[k] ++ layC (l.take k) := by
  have et : l.take (k + 1) = l.take k ++ [l[k]] := by rw [List.take_add_one, List.getElem?_eq_getElem hk]; rfl
  rw [et, layC_append]
  simp [layC]

set_option maxRecDepth 20000 in
set_option maxHeartbeats 1000000 in
theorem refbytes_any (id lsn : Nat) (a : Option Addr) (c : Nat) (l : List Cl) (w : World) (h : SlC w a l) (hg : GoodL l) (hid : id < 16) (hlsn : lsn < 18446744073709551616) :
    Calls Try.prog 33 #[.agg (refP (id : Int) lsn a l.length c)] w fun e w' => e = .returned (.string (txt (pageB id lsn l))) ∧ Below w.heap.size w w' := by
  have hroom := hg.room
  have hfew := hg.few
  have HG := (show Hid _ from hg)
  have HSL := (show Hid _ from h)
  have hts := txt_size
  have HB0 : Hid (Below w.heap.size w (w.alloc (.cells #[.int .i64 (id : Int), .int .u64 (lsn : Int), .slice a l.length c] 33))) := (Below.refl _ _).alloc (Nat.le_refl _) _
  have HT : Hid (∀ W, Below (w.heap.size + 1) (w.alloc (.cells #[.int .i64 (id : Int), .int .u64 (lsn : Int), .slice a l.length c] 33)) W → W.cell? ⟨w.heap.size, 0, none⟩ = some (.int .i64 (id : Int)) ∧ W.cell? ⟨w.heap.size, 1, none⟩ = some (.int .u64 (lsn : Int)) ∧ W.cell? ⟨w.heap.size, 2, none⟩ = some (.slice a l.length c) ∧ Below (w.heap.size + 1) (w.alloc (.cells #[.int .i64 (id : Int), .int .u64 (lsn : Int), .slice a l.length c] 33)) W) := fun W hW => by
    obtain ⟨q0, q1, q2, _⟩ := cell3 (box_in (show Below (w.alloc (.cells #[.int .i64 (id : Int), .int .u64 (lsn : Int), .slice a l.length c] 33)).heap.size _ W by simpa using hW))
    exact ⟨q0, q1, q2, hW⟩
  have HN : Hid (∀ (n k' : Int) (W : World), 0 ≤ n → n < 18446744073709551616 → 0 ≤ k' → k' ≤ 8 → Below (w.heap.size + 1) (w.alloc (.cells #[.int .i64 (id : Int), .int .u64 (lsn : Int), .slice a l.length c] 33)) W → Calls Try.prog 63 #[.int .u64 n, .int .i64 k'] W fun e w' => e = .returned (.string (txt (leB n.toNat k'.toNat))) ∧ Below (w.heap.size + 1) (w.alloc (.cells #[.int .i64 (id : Int), .int .u64 (lsn : Int), .slice a l.length c] 33)) w') := fun n k' W h1 h2 h3 h4 hW =>
    (numT n k' W h1 h2 h3 h4).mono fun e w' ⟨e1, e2⟩ => ⟨e1, hW.trans (e2.mono (by have := hW.size; simpa using this))⟩
  have HBB : Hid (∀ W, Below (w.heap.size + 1) (w.alloc (.cells #[.int .i64 (id : Int), .int .u64 (lsn : Int), .slice a l.length c] 33)) W → Below w.heap.size w W) := fun W hW => HB0.out.trans (hW.mono (by omega))
  have HK0 : Hid (Below (w.heap.size + 1) (w.alloc (.cells #[.int .i64 (id : Int), .int .u64 (lsn : Int), .slice a l.length c] 33)) (w.alloc (.cells #[.int .i64 (id : Int), .int .u64 (lsn : Int), .slice a l.length c] 33))) := Below.refl _ _
  clear h hg
  simp only [refP]
  go_enter Try.func33, Try.ntmps33
  go_wp2_with fail
  go_loopw [3, 4, 5] (fun s t i wr => ∃ k : Nat, k ≤ l.length ∧ i = .int .i64 k ∧ s = .string (txt (layS 512 (l.take k))) ∧ t = .string (txt (layC (l.take k))) ∧ Below (w.heap.size + 1) (w.alloc (.cells #[.int .i64 (id : Int), .int .u64 (lsn : Int), .slice a l.length c] 33)) wr) (fun _ _ i _ => l.length - (intOf i).toNat)
  case atStart => exact ⟨0, Nat.zero_le _, rfl, rfl, rfl, HK0.out⟩
  case round =>
    obtain ⟨k, hk, rfl, rfl, rfl, hBr⟩ := hrel
    obtain ⟨q0, q1, q2, _⟩ := HT.out _ hBr
    have HBr := (show Hid _ from hBr)
    have hls := layS_length 512 (l.take k)
    have hlc := layC_length (l.take k)
    have htk : (l.take k).length = k := by simp; omega
    have hrt := room_take l hroom k hk
    by_cases hlt : k < l.length
    · obtain ⟨b, o, rfl, hbl, c0, c1, c2⟩ := (HSL.out.below (HBB.out _ hBr)).at k hlt
      have hsm := HG.out.small l[k] (List.getElem_mem hlt)
      have HX := (show Hid _ from refcell_any l[k] wr hsm)
      have hcb := cellB_length l[k]
      have hst := sumC_take l k hlt
      have hrt1 := room_take l hroom (k + 1) hlt
      have HLS := (show Hid _ from layS_take l k hlt)
      have HLC := (show Hid _ from layC_take l k hlt)
      simp only [cellV] at HX
      clear hBr
      have ct1 := cat_txt (cellB l[k]) (layC (l.take k)) (by omega)
      go_wp2_with fail
      refine Calls.mono HX.out ?_
      rintro e w2 ⟨rfl, hb2⟩
      have hB2 : Below (w.heap.size + 1) (w.alloc (.cells #[.int .i64 (id : Int), .int .u64 (lsn : Int), .slice (some ⟨b, o, none⟩) l.length c] 33)) w2 := HBr.out.trans (hb2.mono (by have := HBr.out.size; simpa using this))
      have HB2 := (show Hid _ from hB2)
      clear HX hb2 hB2
      rw [← HLC.out] at ct1
      have hl1 : (layC (l.take (k + 1))).length = sumC (l.take (k + 1)) := layC_length _
      generalize hEd : layC (l.take (k + 1)) = E1 at *
      cases hu : l[k].used
      · have hce : cellB l[k] = [] := by simp [cellB, hu]
        have hz0 : sizeC l[k] = 0 := by simp [sizeC, hu]
        rw [hu] at HLS
        simp only [Bool.false_eq_true, if_false] at HLS
        rw [hce] at ct1 ⊢
        have ct2 := cat_txt (layS 512 (l.take k)) (leB 0 2) (by rw [leB_length]; omega)
        have ct3 := cat_txt (layS 512 (l.take k) ++ leB 0 2) (leB 0 2) (by rw [List.length_append, leB_length]; omega)
        have hte : (txt ([] : List UInt8)).toList = [] := txt_toList _
        have hw0 := wrap_u 0 (by omega) (by omega)
        go_wp2_with fail
        refine Calls.mono (HN.out _ _ _ (by omega) (by omega) (by omega) (by omega) HB2.out) ?_
        rintro e w3 ⟨rfl, hb3⟩
        have HB3 := (show Hid _ from hb3)
        clear hb3 HB2
        simp only [Int.toNat_zero, Int.reduceToNat]
        go_wp2_with fail
        refine Calls.mono (HN.out _ _ _ (by omega) (by omega) (by omega) (by omega) HB3.out) ?_
        rintro e w4 ⟨rfl, hb4⟩
        have HB4 := (show Hid _ from hb4)
        clear hb4 HB3
        simp only [Int.toNat_zero, Int.reduceToNat]
        go_wp2_with fail
        go_roundw
        case rel => exact ⟨k + 1, by omega, by simp, by rw [HLS.out], by rw [hEd], HB4.out⟩
        case measure => first | omega | (simp only [intOf]; omega)
      · have hsz : sizeC l[k] = 1 + l[k].key.length + l[k].val.length := by simp [sizeC, hu]
        rw [hu] at HLS
        simp only [if_true] at HLS
        obtain ⟨bg, hbg⟩ : ∃ bg : Nat, bg = 512 - sumC (l.take (k + 1)) := ⟨_, rfl⟩
        rw [← hbg] at HLS
        have hb1 : 512 - (E1.length : Int) = (bg : Int) := by omega
        have hne : ((txt (cellB l[k])).toList == []) = false := by
          rw [txt_toList]
          have : cellB l[k] ≠ [] := fun e => by rw [e] at hcb; simp at hcb; omega
          simpa using this
        have ct2 := cat_txt (layS 512 (l.take k)) (leB bg 2) (by rw [leB_length]; omega)
        have ct3 := cat_txt (layS 512 (l.take k) ++ leB bg 2) (leB (sizeC l[k]) 2) (by rw [List.length_append, leB_length, leB_length]; omega)
        have hwb := wrap_u (bg : Int) (by omega) (by omega)
        have hws := wrap_u (sizeC l[k] : Int) (by omega) (by omega)
        have hE5 : E1.length ≤ 512 := by omega
        have hs49 : sizeC l[k] ≤ 49 := by omega
        clear hbg hsz hst hl1 hrt hrt1 hls hlc htk hts
        have hts1 := txt_size (cellB l[k])
        have hts2 := txt_size E1
        go_wp2_with fail
        refine Calls.mono (HN.out _ _ _ (by omega) (by omega) (by omega) (by omega) HB2.out) ?_
        rintro e w3 ⟨rfl, hb3⟩
        have HB3 := (show Hid _ from hb3)
        clear hb3 HB2
        simp only [Int.toNat_natCast, Int.reduceToNat]
        go_wp2_with fail
        refine Calls.mono (HN.out _ _ _ (by omega) (by omega) (by omega) (by omega) HB3.out) ?_
        rintro e w4 ⟨rfl, hb4⟩
        have HB4 := (show Hid _ from hb4)
        clear hb4 HB3
        simp only [Int.toNat_natCast, Int.reduceToNat]
        go_wp2_with fail
        go_roundw
        case rel => exact ⟨k + 1, by omega, by simp, by rw [HLS.out], by rw [hEd], HB4.out⟩
        case measure => first | omega | (simp only [intOf]; omega)
    · obtain rfl : k = l.length := by omega
      rw [List.take_length] at *
      have hml := more_lt 0 (bodyP id lsn l)
      have hbl := bodyP_length id lsn l hroom
      have HPB : Hid (leB (more 0 (bodyP id lsn l)) 4 ++ bodyP id lsn l = pageB id lsn l) := rfl
      obtain ⟨Hd, HHd⟩ : ∃ Hd, Hid (leB lsn 8 ++ leB id 2 ++ leB l.length 2 ++ layS 512 l = Hd) := ⟨_, rfl⟩
      have hHl : Hd.length = 12 + 4 * l.length := by rw [← HHd.out]; simp [leB_length]; omega
      have HBD : Hid (bodyP id lsn l = Hd ++ List.replicate (496 - 4 * l.length - sumC l) 0 ++ layC l) := by
        show _ = _
        rw [← HHd.out]
        simp [bodyP]
      have ct1 := cat_txt (leB lsn 8) (leB id 2) (by simp [leB_length])
      have ct2 := cat_txt (leB lsn 8 ++ leB id 2) (leB l.length 2) (by simp [leB_length])
      have ct3 := cat_txt (leB lsn 8 ++ leB id 2 ++ leB l.length 2) (layS 512 l) (by simp [leB_length]; omega)
      have ct2' : ∀ W, (Op.stringOp .add (txt (leB lsn 8 ++ leB id 2)) (txt (leB l.length 2))).run Try.prog W = .ok (.string (txt (leB lsn 8 ++ (leB id 2 ++ leB l.length 2)))) W := fun W => by rw [ct2 W, List.append_assoc]
      have ct3' : ∀ W, (Op.stringOp .add (txt (leB lsn 8 ++ (leB id 2 ++ leB l.length 2))) (txt (layS 512 l))).run Try.prog W = .ok (.string (txt Hd)) W := fun W => by rw [← List.append_assoc, ct3 W, HHd.out]
      rw [HHd.out] at ct3
      have hwi := wrap_u (id : Int) (by omega) (by omega)
      have hwl := wrap_u (l.length : Int) (by omega) (by omega)
      clear hBr q0 q1 q2
      have hS0 := HT.out _ HBr.out.drew
      have hS1 := HT.out _ HBr.out
      go_upto_region 11 with fail
      go_cut [8] from 40 to 55 (fun s wc => s = .string (txt Hd) ∧ Below (w.heap.size + 1) (w.alloc (.cells #[.int .i64 (id : Int), .int .u64 (lsn : Int), .slice a l.length c] 33)) wc)
      case first =>
        go_region_held3 (fun W => W.cell? ⟨w.heap.size, 0, none⟩ = some (.int .i64 (id : Int)) ∧ W.cell? ⟨w.heap.size, 1, none⟩ = some (.int .u64 (lsn : Int)) ∧ W.cell? ⟨w.heap.size, 2, none⟩ = some (.slice a l.length c) ∧ Below (w.heap.size + 1) (w.alloc (.cells #[.int .i64 (id : Int), .int .u64 (lsn : Int), .slice a l.length c] 33)) W) (first | with_reducible assumption | (with_reducible refine HT.out _ ?_; first | with_reducible assumption | exact HBr.out | exact Below.drew HBr.out)) (first | (go_at_call 63; refine (HN.out _ _ _ (by omega) (by omega) (by omega) (by omega) (by first | with_reducible assumption | exact HBr.out | exact Below.drew HBr.out | exact And.right (And.right (And.right (by with_reducible assumption))))).mono ?_; rintro e wn ⟨rfl, hbn⟩))
        all_goals
          go_wp2_with fail
          go_meet
          exact ⟨rfl, by with_reducible assumption⟩
      case rest =>
        obtain ⟨rfl, hBc⟩ := hcut
        have HBc := (show Hid _ from hBc)
        clear hBc hS0 hS1 ct1 ct2 ct2' ct3 ct3'
        obtain ⟨R, HR⟩ : ∃ R, Hid (496 - 4 * l.length - sumC l = R) := ⟨_, rfl⟩
        have hR : R + sumC l + 4 * l.length = 496 := by have := HR.out; omega
        rw [HR.out] at HBD
        have hlcl := layC_length l
        have tz : (⟨#[0]⟩ : ByteArray) = txt [0] := rfl
        go_wp2_with fail
        go_loop [8] (fun s => ∃ j : Nat, j ≤ R ∧ s = .string (txt (Hd ++ List.replicate j 0))) (fun s => 508 - strLen s)
        case atStart => exact ⟨0, Nat.zero_le _, by simp⟩
        case round =>
          obtain ⟨j, hj, rfl⟩ := hrel
          have hjl : (Hd ++ List.replicate j 0).length = 12 + 4 * l.length + j := by simp [hHl]
          have ct1 := cat_txt (Hd ++ List.replicate j 0) [0] (by rw [hjl]; simp; omega)
          have hrs : Hd ++ List.replicate j 0 ++ [0] = Hd ++ List.replicate (j + 1) 0 := by rw [List.replicate_succ', List.append_assoc]
          rw [hrs] at ct1
          have hts1 := txt_size (Hd ++ List.replicate j 0)
          have hts2 := txt_size (Hd ++ List.replicate (j + 1) 0)
          have hjl2 : (Hd ++ List.replicate (j + 1) 0).length = 12 + 4 * l.length + (j + 1) := by simp [hHl]
          have hts3 := txt_size (layC l)
          by_cases hlt : j < R
          · generalize hq1 : Hd ++ List.replicate j 0 = Q1 at *
            generalize hq2 : Hd ++ List.replicate (j + 1) 0 = Q2 at *
            have hlt2 : (Q1.length : Int) + (sumC l : Int) < 508 := by omega
            go_wp2_with fail
            go_round
            case rel => exact ⟨j + 1, by omega, by rw [hq2]⟩
            case measure => simp only [strLen]; omega
          · obtain rfl : j = R := by omega
            have ct2 := cat_txt (Hd ++ List.replicate j 0) (layC l) (by omega)
            rw [← HBD.out] at ct2
            have hex : ¬ ((Hd ++ List.replicate j 0).length : Int) + (sumC l : Int) < 508 := by omega
            generalize hq1 : Hd ++ List.replicate j 0 = Q1 at *
            clear hq1
            have HSM := (show Hid _ from refsum_any (txt (bodyP id lsn l)) wc (by rw [txt_size, hbl]; unfold maxLen; omega))
            have e1 : (txt (bodyP id lsn l)).data.toList = bodyP id lsn l := by simp [txt]
            rw [e1] at HSM
            have ct3 := cat_txt (leB (more 0 (bodyP id lsn l)) 4) (bodyP id lsn l) (by rw [leB_length]; omega)
            rw [HPB.out] at ct3
            have HF4 := (show Hid _ from four_any (more 0 (bodyP id lsn l)) wc hml)
            clear hbl hroom e1 HPB HBD tz ct1 hrs hts1 hts2 hjl2
            generalize bodyP id lsn l = BD at *
            have hql : Q1.length ≤ 1000 := by omega
            have hsl9 : sumC l ≤ 1000 := by omega
            clear hjl hR hHl hrt hls hj hlt hlcl htk
            go_wp2_with fail
            refine Calls.mono HSM.out ?_
            rintro e w5 ⟨rfl, hw5⟩
            obtain rfl := hw5.symm
            go_wp2_with fail
            refine Calls.mono HF4.out ?_
            rintro e w6 ⟨rfl, hb6⟩
            have HB6 := (show Hid _ from below_on (HBB.out _ HBc.out) hb6)
            clear hb6
            have tf : ∀ x : List UInt8, (⟨x.toArray⟩ : ByteArray) = txt x := fun _ => rfl
            try rw [tf]
            go_wp2
            go_ret
            exact ⟨rfl, HB6.out⟩

end Go.Proofs.Ytoahcihhpimmgaa
