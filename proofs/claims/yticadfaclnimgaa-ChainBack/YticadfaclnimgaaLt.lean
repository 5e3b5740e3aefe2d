/-
  The walk of layTables.
-/
import Derived.Test.YticadfaclnimgaaLa
namespace Go.Proofs.Yticadfaclnimgaa
open Go.RowKit

theorem box_kx {w W : World} {p : Nat} {cs : Array Value} {t : TypeId} (hp : p < w.heap.size) (ht : t ≠ 5) (h : KeptX p (w.alloc (.cells cs t)) W) :
    w.heap.size < W.heap.size ∧ W.heap[w.heap.size]? = some (.cells cs t) := by
  refine ⟨by have := h.size; simp at this; omega, ?_⟩
  exact h.keep _ _ (heap_alloc_new w _) (by omega) (notBytes _ _ _ ht)

theorem cells_two {w : World} {b : Nat} {v0 v1 : Value} {t : TypeId} (h : w.heap[b]? = some (.cells #[v0, v1] t)) : w.cell? ⟨b, 0, none⟩ = some v0 ∧ w.cell? ⟨b, 1, none⟩ = some v1 := by
  simp [World.cell?, h]
theorem cells_three {w : World} {b : Nat} {v0 v1 v2 : Value} {t : TypeId} (h : w.heap[b]? = some (.cells #[v0, v1, v2] t)) : w.cell? ⟨b, 0, none⟩ = some v0 ∧ w.cell? ⟨b, 1, none⟩ = some v1 ∧ w.cell? ⟨b, 2, none⟩ = some v2 := by
  simp [World.cell?, h]

theorem tx_bd (l : List Tx) (h : ∀ t ∈ l, txB t = true) (k : Nat) (hk : k < l.length) : (1 ≤ l[k].id ∧ l[k].id ≤ 1073741824) ∧ (0 ≤ l[k].st ∧ l[k].st < 3) := by
  have := h l[k] (List.getElem_mem hk)
  simp only [txB, Bool.and_eq_true, idB_iff, lsnB_iff, decide_eq_true_eq] at this
  exact ⟨this.1, this.2.1⟩
theorem di_bd (l : List Di) (h : ∀ t ∈ l, diB t = true) (k : Nat) (hk : k < l.length) : 0 ≤ l[k].page ∧ l[k].page < 16 := by
  have := h l[k] (List.getElem_mem hk)
  simp only [diB, Bool.and_eq_true, pageB_iff, lsnB_iff] at this
  exact this.1

set_option maxHeartbeats 2000000 in
theorem layTables_x (B p : Nat) (v : Value) (l : List UInt8) (r : Rc) (ta : Option Addr) (tc : Nat) (da : Option Addr) (dc : Nat) (w : World) (hw : WOk w B p v l) (hl : l.length ≤ 10000) (hm : MayP r) (hk : r.kind = 8)
    (hT : ∀ W, Below B w W → SlT W ta r.txns) (hD : ∀ W, Below B w W → SlD W da r.dirty) :
    Calls Try.prog 92 #[.pointer (some ⟨p, 0, none⟩), recV r ta tc da dc] w fun e w' => e = .returned (.tuple #[]) ∧ (∃ v', WOk w' B p v' (l ++ tabE r)) ∧ Below B w w' ∧ KeptX p w w' := by
  have hp := lt_of_block hw.blk
  have hbase := hw.base
  obtain ⟨⟨n1, n2⟩, n3, n4⟩ := hm.tab hk
  have HN2 := (show Hid _ from n2)
  have HN4 := (show Hid _ from n4)
  have HTT := (show Hid _ from hT)
  have HDD := (show Hid _ from hD)
  clear n2 n4 hT hD hm hk
  have hB0 : Below B w (w.alloc (.cells (recC r ta tc da dc) 34)) := (Below.refl _ _).alloc (by omega) _
  have hK0 : KeptX p w (w.alloc (.cells (recC r ta tc da dc) 34)) := (KeptX.refl _ _).alloc _
  have hw0 := hw.below ((Below.refl _ _).alloc (Nat.le_refl _) (.cells (recC r ta tc da dc) 34)) (Nat.le_refl _)
  clear hw
  go_enter Try.func92, Try.ntmps92
  go_wp2_with fail
  refine (wbyte_x B p v l _ _ hw0 (by omega) (by omega) (by omega)).mono ?_
  rintro e w1 ⟨rfl, ⟨v1, hw1⟩, hb1, hk1⟩
  obtain ⟨hz, hbx⟩ := box_rec hp hk1
  obtain ⟨q0, q1, q2, q3, q4, q5, q6, q7, q8, q9, q10, q11⟩ := rec_cells hbx
  clear hbx hw0
  have HB1 : Hid (Below B w w1) := hB0.trans hb1
  have HK1 : Hid (KeptX p (w.alloc (.cells (recC r ta tc da dc) 34)) w1) := hk1
  clear hb1 hk1 hB0
  rw [Int.toNat_natCast] at hw1
  go_wp2_with fail
  clear q0 q1 q2 q3 q4 q5 q6 q7 q8 q9 q10 q11
  go_loopw [17] (fun i W => ∃ k : Nat, k ≤ r.txns.length ∧ i = .int .i64 k ∧ (∃ v', WOk W B p v' ((l ++ leB r.txns.length 1) ++ txsE (r.txns.take k))) ∧ Below B w W ∧ KeptX p (w.alloc (.cells (recC r ta tc da dc) 34)) W) (fun i _ => r.txns.length - (intOf i).toNat)
  case atStart => exact ⟨0, Nat.zero_le _, rfl, ⟨v1, by simpa [txsE] using hw1⟩, HB1.out, HK1.out⟩
  case round =>
    obtain ⟨k, hk, rfl, ⟨vk, hwk⟩, hbk, hkk⟩ := hrel
    clear hw1
    by_cases hlt : k < r.txns.length
    · obtain ⟨⟨i1, i2⟩, s1, s2⟩ := tx_bd r.txns HN2.out k hlt
      obtain ⟨b, o, rfl, hbl, c0, c1, c2⟩ := (HTT.out _ hbk).at k hlt
      have HE : Hid (txsE (r.txns.take (k + 1)) = txsE (r.txns.take k) ++ (leB r.txns[k].id.toNat 4 ++ (leB r.txns[k].st.toNat 1 ++ leB r.txns[k].last 8))) := by
        show _ = _
        rw [List.take_succ_eq_append_getElem hlt, txsE_snoc]
        rfl
      have hLn : ((l ++ leB r.txns.length 1) ++ txsE (r.txns.take k)).length ≤ 20000 := by
        simp only [List.length_append, leB_length, txsE_length, List.length_take]
        omega
      obtain ⟨L, HLL0⟩ : ∃ L, Hid (L = (l ++ leB r.txns.length 1) ++ txsE (r.txns.take k)) := ⟨_, rfl⟩
      rw [← HLL0.out] at hwk hLn
      have hpk : p < wr.heap.size := lt_of_block hwk.blk
      have hwa := hwk.below ((Below.refl _ _).alloc (Nat.le_refl _) (.cells #[.int .i64 r.txns[k].id, .int .i64 r.txns[k].st, .int .u64 (r.txns[k].last : Nat)] 43)) (Nat.le_refl _)
      have hba := hbk.alloc (show B ≤ wr.heap.size by omega) (.cells #[.int .i64 r.txns[k].id, .int .i64 r.txns[k].st, .int .u64 (r.txns[k].last : Nat)] 43)
      have hka := hkk.alloc (.cells #[.int .i64 r.txns[k].id, .int .i64 r.txns[k].st, .int .u64 (r.txns[k].last : Nat)] 43)
      clear hwk
      go_wp2_with fail
      refine (wfour_x B p vk L _ _ hwa (by omega) (by omega) (by omega)).mono ?_
      rintro e x1 ⟨rfl, ⟨u1, hx1⟩, hxb1, hxk1⟩
      obtain ⟨hz1, hbx⟩ := box_kx hpk (by decide) hxk1
      obtain ⟨d0, d1, d2⟩ := cells_three hbx
      clear hbx hwa c0 c1 c2
      go_wp2_with fail
      refine (wbyte_x B p u1 _ _ _ hx1 (by omega) (by omega) (by simp [leB_length]; omega)).mono ?_
      rintro e x2 ⟨rfl, ⟨u2, hx2⟩, hxb2, hxk2⟩
      have hxb12 := hxb1.trans hxb2
      have hxk12 := hxk1.trans hxk2
      clear d0 d1 d2 hz1 hx1 hxb1 hxk1 hxb2 hxk2
      obtain ⟨hz1, hbx⟩ := box_kx hpk (by decide) hxk12
      obtain ⟨d0, d1, d2⟩ := cells_three hbx
      clear hbx
      go_wp2_with fail
      refine (weight_x B p u2 _ _ _ hx2 (by omega) (by simp [leB_length]; omega)).mono ?_
      rintro e x3 ⟨rfl, ⟨u3, hx3⟩, hxb3, hxk3⟩
      clear d0 d1 d2 hz1
      rw [Int.toNat_natCast] at hx3
      have R1 : Hid (WOk x3 B p u3 (L ++ (leB r.txns[k].id.toNat 4 ++ (leB r.txns[k].st.toNat 1 ++ leB r.txns[k].last 8)))) := by
        show WOk _ _ _ _ _
        simpa [List.append_assoc] using hx3
      have R2 : Hid (Below B w x3) := (hba.trans hxb12).trans hxb3
      have R3 : Hid (KeptX p (w.alloc (.cells (recC r (some ⟨b, o, none⟩) tc da dc) 34)) x3) := (hka.trans hxk12).trans hxk3
      have HLL : Hid (L = (l ++ leB r.txns.length 1) ++ txsE (r.txns.take k)) := HLL0
      clear hx3 hx2 hxb3 hxk3 hxb12 hxk12 hba hka
      go_wp2
      go_roundw
      case rel => exact ⟨k + 1, by omega, by go_num, ⟨u3, by rw [HE.out, ← List.append_assoc, ← HLL.out]; exact R1.out⟩, R2.out, R3.out⟩
      case measure => simp [intOf]; omega
    · obtain rfl : k = r.txns.length := by omega
      rw [List.take_length] at hwk
      obtain ⟨hz, hbx⟩ := box_rec hp hkk
      obtain ⟨q0, q1, q2, q3, q4, q5, q6, q7, q8, q9, q10, q11⟩ := rec_cells hbx
      clear hbx
      go_wp2_with fail
      refine (wbyte_x B p vk _ _ _ hwk (by omega) (by omega) (by simp only [List.length_append, leB_length, txsE_length]; omega)).mono ?_
      rintro e y1 ⟨rfl, ⟨z1, hy1⟩, hyb1, hyk1⟩
      have HYB : Hid (Below B w y1) := hbk.trans hyb1
      have HYK : Hid (KeptX p (w.alloc (.cells (recC r ta tc da dc) 34)) y1) := hkk.trans hyk1
      clear q0 q1 q2 q3 q4 q5 q6 q7 q8 q9 q10 q11 hz hwk hbk hkk hyb1 hyk1
      obtain ⟨hz, hbx⟩ := box_rec hp HYK.out
      obtain ⟨q0, q1, q2, q3, q4, q5, q6, q7, q8, q9, q10, q11⟩ := rec_cells hbx
      clear hbx
      rw [Int.toNat_natCast] at hy1
      go_wp2_with fail
      clear q0 q1 q2 q3 q4 q5 q6 q7 q8 q9 q10 q11
      have hMn : (((l ++ leB r.txns.length 1) ++ txsE r.txns) ++ leB r.dirty.length 1).length ≤ 20000 := by
        simp only [List.length_append, leB_length, txsE_length]
        omega
      have HMM : Hid ((((l ++ leB r.txns.length 1) ++ txsE r.txns) ++ leB r.dirty.length 1) ++ disE r.dirty = l ++ tabE r) := by
        show _ = _
        simp [tabE, List.append_assoc]
      generalize ((l ++ leB r.txns.length 1) ++ txsE r.txns) ++ leB r.dirty.length 1 = M at *
      go_loopw [45] (fun i W => ∃ k : Nat, k ≤ r.dirty.length ∧ i = .int .i64 k ∧ (∃ v', WOk W B p v' (M ++ disE (r.dirty.take k))) ∧ Below B w W ∧ KeptX p (w.alloc (.cells (recC r ta tc da dc) 34)) W) (fun i _ => r.dirty.length - (intOf i).toNat)
      case atStart => exact ⟨0, Nat.zero_le _, rfl, ⟨z1, by simpa [disE] using hy1⟩, HYB.out, HYK.out⟩
      case round =>
        obtain ⟨k, hk, rfl, ⟨vk, hwk⟩, hbk, hkk⟩ := hrel
        clear hy1
        by_cases hlt2 : k < r.dirty.length
        · obtain ⟨i1, i2⟩ := di_bd r.dirty HN4.out k hlt2
          obtain ⟨b, o, rfl, hbl, c0, c1⟩ := (HDD.out _ hbk).at k hlt2
          have HE : Hid (disE (r.dirty.take (k + 1)) = disE (r.dirty.take k) ++ (leB r.dirty[k].page.toNat 2 ++ leB r.dirty[k].lsn 8)) := by
            show _ = _
            rw [List.take_succ_eq_append_getElem hlt2, disE_snoc]
            rfl
          have hLn : (M ++ disE (r.dirty.take k)).length ≤ 30000 := by
            simp only [List.length_append, disE_length, List.length_take]
            omega
          obtain ⟨L, HLL⟩ : ∃ L, Hid (M ++ disE (r.dirty.take k) = L) := ⟨_, rfl⟩
          rw [HLL.out] at hwk hLn
          have hpk : p < wr.heap.size := lt_of_block hwk.blk
          have hwa := hwk.below ((Below.refl _ _).alloc (Nat.le_refl _) (.cells #[.int .i64 r.dirty[k].page, .int .u64 (r.dirty[k].lsn : Nat)] 95)) (Nat.le_refl _)
          have hba := hbk.alloc (show B ≤ wr.heap.size by omega) (.cells #[.int .i64 r.dirty[k].page, .int .u64 (r.dirty[k].lsn : Nat)] 95)
          have hka := hkk.alloc (.cells #[.int .i64 r.dirty[k].page, .int .u64 (r.dirty[k].lsn : Nat)] 95)
          clear hwk
          go_wp2_with fail
          refine (wtwo_x B p vk L _ _ hwa (by omega) (by omega) (by omega)).mono ?_
          rintro e x1 ⟨rfl, ⟨u1, hx1⟩, hxb1, hxk1⟩
          obtain ⟨hz1, hbx⟩ := box_kx hpk (by decide) hxk1
          obtain ⟨d0, d1⟩ := cells_two hbx
          clear hbx hwa c0 c1
          go_wp2_with fail
          refine (weight_x B p u1 _ _ _ hx1 (by omega) (by simp [leB_length]; omega)).mono ?_
          rintro e x3 ⟨rfl, ⟨u3, hx3⟩, hxb3, hxk3⟩
          clear d0 d1 hz1
          rw [Int.toNat_natCast] at hx3
          have R1 : Hid (WOk x3 B p u3 (L ++ (leB r.dirty[k].page.toNat 2 ++ leB r.dirty[k].lsn 8))) := by
            show WOk _ _ _ _ _
            simpa [List.append_assoc] using hx3
          have R2 : Hid (Below B w x3) := (hba.trans hxb1).trans hxb3
          have R3 : Hid (KeptX p (w.alloc (.cells (recC r ta tc (some ⟨b, o, none⟩) dc) 34)) x3) := (hka.trans hxk1).trans hxk3
          clear hx3 hx1 hxb3 hxk3 hxb1 hxk1 hba hka
          go_wp2
          go_roundw
          case rel => exact ⟨k + 1, by omega, by go_num, ⟨u3, by rw [HE.out, ← List.append_assoc, HLL.out]; exact R1.out⟩, R2.out, R3.out⟩
          case measure => simp [intOf]; omega
        · obtain rfl : k = r.dirty.length := by omega
          rw [List.take_length, HMM.out] at hwk
          go_wp2
          go_end0
          exact ⟨rfl, ⟨vk, hwk⟩, hbk, hK0.trans hkk⟩

end Go.Proofs.Yticadfaclnimgaa
