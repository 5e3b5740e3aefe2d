/-
  The document's bytes of a record with tables.
-/
import Derived.Test.YtjhjicokbdloiaaBq
import Derived.Test.YtjhjicokbdloiaaLa2
namespace Go.Proofs.Ytjhjicokbdloiaa
open Go.RowKit

theorem tx_last (l : List Tx) (h : ∀ t ∈ l, txB t = true) (k : Nat) (hk : k < l.length) : ((l[k].last : Nat) : Int) < 18446744073709551616 := by
  have := h l[k] (List.getElem_mem hk)
  simp only [txB, Bool.and_eq_true, idB_iff, lsnB_iff, decide_eq_true_eq] at this
  omega
theorem di_lsn (l : List Di) (h : ∀ t ∈ l, diB t = true) (k : Nat) (hk : k < l.length) : ((l[k].lsn : Nat) : Int) < 18446744073709551616 := by
  have := h l[k] (List.getElem_mem hk)
  simp only [diB, Bool.and_eq_true, pageB_iff, lsnB_iff] at this
  omega

set_option maxRecDepth 20000 in
set_option maxHeartbeats 4000000 in
theorem bytes_tab (r : Rc) (ta : Option Addr) (tc : Nat) (da : Option Addr) (dc : Nat) (w : World) (hm : MayP r) (hk8 : r.kind = 8) (ht : SlT w ta r.txns) (hd : SlD w da r.dirty) :
    Calls Try.prog 16 #[recV r ta tc da dc] w fun e w' => e = .returned (.string (txt (encB r))) ∧ Below w.heap.size w w' := by
  obtain ⟨⟨n1, n2⟩, n3, n4⟩ := hm.tab hk8
  have HN2 := (show Hid _ from n2)
  have HN4 := (show Hid _ from n4)
  clear n2 n4
  have HTT : Hid (∀ W, Below (w.heap.size + 1) (w.alloc (.cells (recC r ta tc da dc) 31)) W → SlT W ta r.txns) := fun W h => ht.below (((Below.refl _ _).alloc (Nat.le_refl _) _).trans (h.mono (by omega)))
  have HDD : Hid (∀ W, Below (w.heap.size + 1) (w.alloc (.cells (recC r ta tc da dc) 31)) W → SlD W da r.dirty) := fun W h => hd.below (((Below.refl _ _).alloc (Nat.le_refl _) _).trans (h.mono (by omega)))
  have HE : Hid (encB r = headE r ++ tabE r) := by
    show _ = _
    unfold encB
    rw [hk8, if_neg (by decide), if_pos rfl]
    simp
  have hca := refchg_any r.kind
  rw [show chgB r.kind = false by rw [hk8]; rfl] at hca
  obtain ⟨t0, t1⟩ := hm.txn
  have l1 := hm.lsn
  have l2 := hm.prev
  clear hm ht hd
  have l3 : (r.lsn : Int) < 18446744073709551616 := by omega
  have l4 : (r.prev : Int) < 18446744073709551616 := by omega
  have k0 : 0 < r.kind := by omega
  have k1 : r.kind < 9 := by omega
  have HK8k : Hid (r.kind = 8) := hk8
  have hts := txt_size
  have hta := txt_app
  have htl := leB_length
  have hw1 := wrap_u r.kind (by omega) (by omega)
  have hw2 := wrap_u r.txn (by omega) (by omega)
  have HT1 : Hid (∀ W, Below (w.heap.size + 1) (w.alloc (.cells (recC r ta tc da dc) 31)) W → W.cell? ⟨w.heap.size, 0, none⟩ = some (.int .i64 r.kind) ∧ W.cell? ⟨w.heap.size, 1, none⟩ = some (.int .u64 (r.lsn : Int)) ∧ W.cell? ⟨w.heap.size, 2, none⟩ = some (.int .i64 r.txn) ∧ W.cell? ⟨w.heap.size, 3, none⟩ = some (.int .u64 (r.prev : Int)) ∧ Below (w.heap.size + 1) (w.alloc (.cells (recC r ta tc da dc) 31)) W) := fun W h => by
    obtain ⟨q0, q1, q2, q3, q4, q5, q6, q7, q8, q9, _, _⟩ := rec_cells (w := w) (w' := W) (r := r) (ta := ta) (tc := tc) (da := da) (dc := dc) (by rw [h.block _ (by omega)]; exact heap_alloc_new w _)
    exact ⟨q0, q1, q2, q3, h⟩
  have HTA : Hid (∀ W, Below (w.heap.size + 1) (w.alloc (.cells (recC r ta tc da dc) 31)) W → W.cell? ⟨w.heap.size, 0, none⟩ = some (.int .i64 8) ∧ W.cell? ⟨w.heap.size, 10, none⟩ = some (.slice ta r.txns.length tc) ∧ W.cell? ⟨w.heap.size, 11, none⟩ = some (.slice da r.dirty.length dc)) := fun W h => by
    obtain ⟨q0, q1, q2, q3, q4, q5, q6, q7, q8, q9, q10, q11⟩ := rec_cells (w := w) (w' := W) (r := r) (ta := ta) (tc := tc) (da := da) (dc := dc) (by rw [h.block _ (by omega)]; exact heap_alloc_new w _)
    rw [hk8] at q0
    exact ⟨q0, q10, q11⟩
  have HN : Hid (∀ (n k : Int) (W : World), 0 ≤ n → n < 18446744073709551616 → 0 ≤ k → k ≤ 8 → Below (w.heap.size + 1) (w.alloc (.cells (recC r ta tc da dc) 31)) W → Calls Try.prog 41 #[.int .u64 n, .int .i64 k] W fun e w' => e = .returned (.string (txt (leB n.toNat k.toNat))) ∧ Below (w.heap.size + 1) (w.alloc (.cells (recC r ta tc da dc) 31)) w') := fun n k W h1 h2 h3 h4 hW =>
    (numT n k W h1 h2 h3 h4).mono fun e w' ⟨e1, e2⟩ => ⟨e1, hW.trans (e2.mono (by have := hW.size; simpa using this))⟩
  have HK0 : Hid (Below (w.heap.size + 1) (w.alloc (.cells (recC r ta tc da dc) 31)) (w.alloc (.cells (recC r ta tc da dc) 31))) := Below.refl _ _
  clear hk8
  obtain ⟨H, HH⟩ : ∃ H, Hid (headE r = H) := ⟨_, rfl⟩
  have hHl : H.length = 21 := by rw [← HH.out]; simp [headE, leB_length]
  go_enter Try.func16, Try.ntmps16
  go_upto_region 1 with fail
  go_cut [3] from 7 to 23 (fun s wc => s = .string (txt H) ∧ Below (w.heap.size + 1) (w.alloc (.cells (recC r ta tc da dc) 31)) wc)
  case first =>
    have hS0 := HT1.out _ HK0.out
    go_region_held3 (fun W => W.cell? ⟨w.heap.size, 0, none⟩ = some (.int .i64 r.kind) ∧ W.cell? ⟨w.heap.size, 1, none⟩ = some (.int .u64 (r.lsn : Int)) ∧ W.cell? ⟨w.heap.size, 2, none⟩ = some (.int .i64 r.txn) ∧ W.cell? ⟨w.heap.size, 3, none⟩ = some (.int .u64 (r.prev : Int)) ∧ Below (w.heap.size + 1) (w.alloc (.cells (recC r ta tc da dc) 31)) W) (first | with_reducible assumption | (with_reducible refine HT1.out _ ?_; first | with_reducible assumption | exact HK0.out | exact Below.drew HK0.out)) (first | (go_at_call 41; refine (HN.out _ _ _ (by omega) (by omega) (by omega) (by omega) (by first | with_reducible assumption | exact HK0.out | exact Below.drew HK0.out | exact And.right (And.right (And.right (And.right (by with_reducible assumption)))))).mono ?_; rintro e wn ⟨rfl, hbn⟩) | (go_at_call 42; refine (HX.out _ _ (by rw [txt_size]; omega) (by first | with_reducible assumption | exact HK0.out | exact Below.drew HK0.out | exact And.right (And.right (And.right (And.right (by with_reducible assumption)))))).mono ?_; rintro e wn ⟨rfl, hbn⟩))
    all_goals
      go_wp2_with fail
      go_meet
      refine ⟨?_, by first | with_reducible assumption | skip⟩
      rw [← HH.out]
      simp [headE]
  case rest =>
    obtain ⟨rfl, hB1⟩ := hcut
    have HK1 := (show Hid _ from hB1)
    obtain ⟨q0, q10, q11⟩ := HTA.out _ hB1
    have hz := hB1.size
    clear hB1 HT1 hw1 hw2 hta
    rw [HK8k.out] at hca
    go_wp2_with fail
    refine (hca _).mono ?_
    rintro e w7 ⟨rfl, hw7⟩
    obtain rfl := hw7.symm
    have hc1 := cat_txt H (leB r.txns.length 1) (by simp [leB_length]; omega)
    have hwl := wrap_u (r.txns.length : Int) (by omega) (by omega)
    go_wp2_with fail
    refine (HN.out _ _ _ (by omega) (by omega) (by omega) (by omega) HK1.out).mono ?_
    rintro e w8 ⟨rfl, hB8⟩
    have HK8 := (show Hid _ from hB8)
    rw [Int.toNat_natCast]
    obtain ⟨p0, p10, p11⟩ := HTA.out _ hB8
    clear hB8 q0 q10 q11
    go_wp2_with fail
    clear p0 p10 p11 hc1 hwl
    obtain ⟨A, HA⟩ : ∃ A, Hid (H ++ leB r.txns.length 1 = A) := ⟨_, rfl⟩
    have hAl : A.length = 22 := by rw [← HA.out]; simp [leB_length]; omega
    go_loopw [3, 4] (fun s i W => ∃ k : Nat, k ≤ r.txns.length ∧ i = .int .i64 k ∧ s = .string (txt (A ++ txsE (r.txns.take k))) ∧ Below (w.heap.size + 1) (w.alloc (.cells (recC r ta tc da dc) 31)) W) (fun _ i _ => r.txns.length - (intOf i).toNat)
    case atStart => exact ⟨0, Nat.zero_le _, rfl, by rw [← HA.out]; simp [txsE], HK8.out⟩
    case round =>
      obtain ⟨k, hk, rfl, rfl, hbk⟩ := hrel
      obtain ⟨q0, q10, q11⟩ := HTA.out _ hbk
      have HBK := (show Hid _ from hbk)
      by_cases hlt : k < r.txns.length
      · obtain ⟨⟨i1, i2⟩, s1, s2⟩ := tx_bd r.txns HN2.out k hlt
        have hlast := tx_last r.txns HN2.out k hlt
        obtain ⟨b, o, rfl, hbl, c0, c1, c2⟩ := (HTT.out _ hbk).at k hlt
        clear hbk
        have HE2 : Hid (txsE (r.txns.take (k + 1)) = txsE (r.txns.take k) ++ (leB r.txns[k].id.toNat 4 ++ (leB r.txns[k].st.toNat 1 ++ leB r.txns[k].last 8))) := by
          show _ = _
          rw [List.take_succ_eq_append_getElem hlt, txsE_snoc]
          rfl
        have hLn : (A ++ txsE (r.txns.take k)).length ≤ 1000 := by
          simp only [List.length_append, txsE_length, List.length_take]
          omega
        obtain ⟨L, HLL⟩ : ∃ L, Hid (A ++ txsE (r.txns.take k) = L) := ⟨_, rfl⟩
        rw [HLL.out] at hLn ⊢
        have hc1 := cat_txt L (leB r.txns[k].id.toNat 4) (by simp [leB_length]; omega)
        have hc2 := cat_txt (L ++ leB r.txns[k].id.toNat 4) (leB r.txns[k].st.toNat 1) (by simp [leB_length]; omega)
        have hc3 := cat_txt ((L ++ leB r.txns[k].id.toNat 4) ++ leB r.txns[k].st.toNat 1) (leB r.txns[k].last 8) (by simp [leB_length]; omega)
        have hc3' := cat_txt (L ++ (leB r.txns[k].id.toNat 4 ++ leB r.txns[k].st.toNat 1)) (leB r.txns[k].last 8) (by simp [leB_length]; omega)
        have hu1 := wrap_u r.txns[k].id (by omega) (by omega)
        have hu2 := wrap_u r.txns[k].st (by omega) (by omega)
        go_upto_region 13 with fail
        have HA0 : Hid (Below (wr.heap.size + 1) (wr.alloc (.cells #[.int .i64 r.txns[k].id, .int .i64 r.txns[k].st, .int .u64 (r.txns[k].last : Nat)] 71)) (wr.alloc (.cells #[.int .i64 r.txns[k].id, .int .i64 r.txns[k].st, .int .u64 (r.txns[k].last : Nat)] 71))) := Below.refl _ _
        have HNA : Hid (∀ (n j : Int) (W : World), 0 ≤ n → n < 18446744073709551616 → 0 ≤ j → j ≤ 8 → Below (wr.heap.size + 1) (wr.alloc (.cells #[.int .i64 r.txns[k].id, .int .i64 r.txns[k].st, .int .u64 (r.txns[k].last : Nat)] 71)) W → Calls Try.prog 41 #[.int .u64 n, .int .i64 j] W fun e w' => e = .returned (.string (txt (leB n.toNat j.toNat))) ∧ Below (wr.heap.size + 1) (wr.alloc (.cells #[.int .i64 r.txns[k].id, .int .i64 r.txns[k].st, .int .u64 (r.txns[k].last : Nat)] 71)) w') := fun n j W h1 h2 h3 h4 hW =>
          (numT n j W h1 h2 h3 h4).mono fun e w' ⟨e1, e2⟩ => ⟨e1, hW.trans (e2.mono (by have := hW.size; simpa using this))⟩
        have HTX : Hid (∀ W, Below (wr.heap.size + 1) (wr.alloc (.cells #[.int .i64 r.txns[k].id, .int .i64 r.txns[k].st, .int .u64 (r.txns[k].last : Nat)] 71)) W → W.cell? ⟨wr.heap.size, 0, none⟩ = some (.int .i64 r.txns[k].id) ∧ W.cell? ⟨wr.heap.size, 1, none⟩ = some (.int .i64 r.txns[k].st) ∧ W.cell? ⟨wr.heap.size, 2, none⟩ = some (.int .u64 (r.txns[k].last : Nat)) ∧ Below (wr.heap.size + 1) (wr.alloc (.cells #[.int .i64 r.txns[k].id, .int .i64 r.txns[k].st, .int .u64 (r.txns[k].last : Nat)] 71)) W) := fun W h => by
          obtain ⟨d0, d1, d2⟩ := cells_three (box1_kept h)
          exact ⟨d0, d1, d2, h⟩
        have hSX := HTX.out _ HA0.out
        clear q0 q10 q11 c0 c1 c2
        go_region_held3 (fun W => W.cell? ⟨wr.heap.size, 0, none⟩ = some (.int .i64 r.txns[k].id) ∧ W.cell? ⟨wr.heap.size, 1, none⟩ = some (.int .i64 r.txns[k].st) ∧ W.cell? ⟨wr.heap.size, 2, none⟩ = some (.int .u64 (r.txns[k].last : Nat)) ∧ Below (wr.heap.size + 1) (wr.alloc (.cells #[.int .i64 r.txns[k].id, .int .i64 r.txns[k].st, .int .u64 (r.txns[k].last : Nat)] 71)) W) (first | with_reducible assumption | (with_reducible refine HTX.out _ ?_; first | with_reducible assumption | exact HA0.out | exact Below.drew HA0.out)) (first | (go_at_call 41; refine (HNA.out _ _ _ (by omega) (by omega) (by omega) (by omega) (by first | with_reducible assumption | exact HA0.out | exact Below.drew HA0.out | exact And.right (And.right (And.right (by with_reducible assumption))))).mono ?_; rintro e wn ⟨rfl, hbn⟩))
        all_goals
          go_wp2
          have hfb := box1_on HBK.out (box1_below hbn)
          go_roundw
          case rel => exact ⟨k + 1, by omega, by go_num, by rw [HE2.out, ← HLL.out]; simp [List.append_assoc], hfb⟩
          case measure => simp [intOf]; omega
      · obtain rfl : k = r.txns.length := by omega
        clear hbk
        have hLn : (A ++ txsE (r.txns.take r.txns.length)).length ≤ 1000 := by
          simp only [List.length_append, txsE_length, List.length_take]
          omega
        obtain ⟨L, HLL⟩ : ∃ L, Hid (A ++ txsE (r.txns.take r.txns.length) = L) := ⟨_, rfl⟩
        rw [HLL.out] at hLn ⊢
        have hc1 := cat_txt L (leB r.dirty.length 1) (by simp [leB_length]; omega)
        have hwl := wrap_u (r.dirty.length : Int) (by omega) (by omega)
        go_wp2_with fail
        refine (HN.out _ _ _ (by omega) (by omega) (by omega) (by omega) HBK.out).mono ?_
        rintro e w9 ⟨rfl, hB9⟩
        have HK9 := (show Hid _ from hB9)
        rw [Int.toNat_natCast]
        obtain ⟨p0, p10, p11⟩ := HTA.out _ hB9
        clear hB9 q0 q10 q11
        go_wp2_with fail
        clear p0 p10 p11 hc1 hwl
        obtain ⟨M, HM⟩ : ∃ M, Hid (L ++ leB r.dirty.length 1 = M) := ⟨_, rfl⟩
        have hMl : M.length ≤ 1001 := by rw [← HM.out]; simp [leB_length]; omega
        go_loopw [3, 6] (fun s i W => ∃ k : Nat, k ≤ r.dirty.length ∧ i = .int .i64 k ∧ s = .string (txt (M ++ disE (r.dirty.take k))) ∧ Below (w.heap.size + 1) (w.alloc (.cells (recC r ta tc da dc) 31)) W) (fun _ i _ => r.dirty.length - (intOf i).toNat)
        case atStart => exact ⟨0, Nat.zero_le _, rfl, by rw [← HM.out]; simp [disE], HK9.out⟩
        case round =>
          obtain ⟨k, hk, rfl, rfl, hbk⟩ := hrel
          have HBK2 := (show Hid _ from hbk)
          have hLn2 : (M ++ disE (r.dirty.take k)).length ≤ 2000 := by
            simp only [List.length_append, disE_length, List.length_take]
            omega
          by_cases hlt2 : k < r.dirty.length
          · obtain ⟨i1, i2⟩ := di_bd r.dirty HN4.out k hlt2
            have hlast := di_lsn r.dirty HN4.out k hlt2
            obtain ⟨b, o, rfl, hbl, c0, c1⟩ := (HDD.out _ hbk).at k hlt2
            have HTY : Hid (∀ W, Below (w.heap.size + 1) (w.alloc (.cells (recC r ta tc (some ⟨b, o, none⟩) dc) 31)) W → W.cell? ⟨w.heap.size, 11, none⟩ = some (.slice (some ⟨b, o, none⟩) r.dirty.length dc) ∧ W.cell? ⟨b, o + k * 2, none⟩ = some (.int .i64 r.dirty[k].page) ∧ W.cell? ⟨b, o + k * 2 + 1, none⟩ = some (.int .u64 (r.dirty[k].lsn : Nat)) ∧ Below (w.heap.size + 1) (w.alloc (.cells (recC r ta tc (some ⟨b, o, none⟩) dc) 31)) W) := fun W h => by
              obtain ⟨_, _, q11⟩ := HTA.out _ h
              obtain ⟨_, d0, d1⟩ := (HDD.out _ h).here k hlt2
              exact ⟨q11, d0, d1, h⟩
            obtain ⟨q0, q10, q11⟩ := HTA.out _ hbk
            clear hbk
            have HE2 : Hid (disE (r.dirty.take (k + 1)) = disE (r.dirty.take k) ++ (leB r.dirty[k].page.toNat 2 ++ leB r.dirty[k].lsn 8)) := by
              show _ = _
              rw [List.take_succ_eq_append_getElem hlt2, disE_snoc]
              rfl
            obtain ⟨L2, HLL2⟩ : ∃ L2, Hid (M ++ disE (r.dirty.take k) = L2) := ⟨_, rfl⟩
            rw [HLL2.out] at hLn2 ⊢
            have hc1 := cat_txt L2 (leB r.dirty[k].page.toNat 2) (by simp [leB_length]; omega)
            have hc2 := cat_txt (L2 ++ leB r.dirty[k].page.toNat 2) (leB r.dirty[k].lsn 8) (by simp [leB_length]; omega)
            have hu1 := wrap_u r.dirty[k].page (by omega) (by omega)
            have hki : (0 : Int) ≤ (k : Int) := by omega
            have hkj : (k : Int) < (r.dirty.length : Int) := by omega
            go_upto_region 18 with fail
            have hSY := HTY.out _ HBK2.out
            clear q0 q10 q11 c0 c1
            go_region_held3 (fun W => W.cell? ⟨w.heap.size, 11, none⟩ = some (.slice (some ⟨b, o, none⟩) r.dirty.length dc) ∧ W.cell? ⟨b, o + k * 2, none⟩ = some (.int .i64 r.dirty[k].page) ∧ W.cell? ⟨b, o + k * 2 + 1, none⟩ = some (.int .u64 (r.dirty[k].lsn : Nat)) ∧ Below (w.heap.size + 1) (w.alloc (.cells (recC r ta tc (some ⟨b, o, none⟩) dc) 31)) W) (first | with_reducible assumption | (with_reducible refine HTY.out _ ?_; first | with_reducible assumption | exact HBK2.out | exact Below.drew HBK2.out)) (first | (go_at_call 41; refine (HN.out _ _ _ (by omega) (by omega) (by omega) (by omega) (by first | with_reducible assumption | exact HBK2.out | exact Below.drew HBK2.out | exact And.right (And.right (And.right (by with_reducible assumption))))).mono ?_; rintro e wn ⟨rfl, hbn⟩))
            all_goals
              go_wp2
              go_roundw
              case rel => exact ⟨k + 1, by omega, by go_num, by rw [HE2.out, ← HLL2.out]; simp [List.append_assoc], by with_reducible assumption⟩
              case measure => simp [intOf]; omega
          · obtain rfl : k = r.dirty.length := by omega
            obtain ⟨q0, q10, q11⟩ := HTA.out _ hbk
            clear hbk
            go_wp2
            go_ret
            refine ⟨?_, ((Below.refl _ _).alloc (Nat.le_refl _) _).trans (HBK2.out.mono (by omega))⟩
            rw [HE.out, HH.out, ← HM.out, ← HLL.out, ← HA.out]
            simp [tabE, List.append_assoc]

end Go.Proofs.Ytjhjicokbdloiaa
