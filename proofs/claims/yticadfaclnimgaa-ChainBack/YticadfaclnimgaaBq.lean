/-
  The document's bytes of a record with a change.
-/
import Derived.Test.YticadfaclnimgaaBp
import Derived.Deep.RegionHeld3
import Derived.Deep.DeepCutAuto
import Derived.Laws.Concat
namespace Go.Proofs.Yticadfaclnimgaa
open Go.RowKit

theorem cat_txt (a b : List UInt8) (h : a.length + b.length ≤ 4000) (W : World) : (Op.stringOp .add (txt a) (txt b)).run Try.prog W = .ok (.string (txt (a ++ b))) W := by
  have h1 : (txt a).size + (txt b).size ≤ 9223372036854775807 := by
    rw [txt_size, txt_size]
    omega
  have h2 := run_string_add_sum (P := Try.prog) (w := W) (txt a) (txt b) h1
  rw [txt_app] at h2
  exact h2

set_option maxRecDepth 20000 in
set_option maxHeartbeats 4000000 in
theorem bytes_chg (r : Rc) (ta : Option Addr) (tc : Nat) (da : Option Addr) (dc : Nat) (w : World) (hm : MayP r) (hc : chgB r.kind = true) :
    Calls Try.prog 31 #[recV r ta tc da dc] w fun e w' => e = .returned (.string (txt (encB r))) ∧ Below w.heap.size w w' := by
  have hk12 : r.kind = 1 ∨ r.kind = 2 := by
    simp [chgB] at hc
    omega
  have h8 : (r.kind == 8) = false := by simp; omega
  obtain ⟨⟨p0, p1⟩, ⟨a0, a1⟩, ky, ol, nw⟩ := hm.chg hk12
  have HE : Hid (encB r = headE r ++ ((((((leB r.page.toNat 2 ++ leB r.ak.toNat 1) ++ textB (txt r.key)) ++ textB (txt r.old)) ++ textB (txt r.new))) ++ undoE r)) := by
    show _ = _
    unfold encB chgE
    rw [hc, if_pos rfl, if_neg (by simpa using h8)]
    simp [List.append_assoc]
  have hca := refchg_any r.kind
  rw [hc] at hca
  obtain ⟨k0, k1⟩ := hm.kind
  obtain ⟨t0, t1⟩ := hm.txn
  have l1 := hm.lsn
  have l2 := hm.prev
  have lu := hm.undo
  clear hm hc
  have l3 : (r.lsn : Int) < 18446744073709551616 := by omega
  have l4 : (r.prev : Int) < 18446744073709551616 := by omega
  have l5 : (r.undo : Int) < 18446744073709551616 := by omega
  have hts := txt_size
  have hta := txt_app
  have htl := leB_length
  have hw1 := wrap_u r.kind (by omega) (by omega)
  have hw2 := wrap_u r.txn (by omega) (by omega)
  have hw3 := wrap_u r.page (by omega) (by omega)
  have hw4 := wrap_u r.ak (by omega) (by omega)
  have HT1 : Hid (∀ W, Below (w.heap.size + 1) (w.alloc (.cells (recC r ta tc da dc) 34)) W → W.cell? ⟨w.heap.size, 0, none⟩ = some (.int .i64 r.kind) ∧ W.cell? ⟨w.heap.size, 1, none⟩ = some (.int .u64 (r.lsn : Int)) ∧ W.cell? ⟨w.heap.size, 2, none⟩ = some (.int .i64 r.txn) ∧ W.cell? ⟨w.heap.size, 3, none⟩ = some (.int .u64 (r.prev : Int)) ∧ Below (w.heap.size + 1) (w.alloc (.cells (recC r ta tc da dc) 34)) W) := fun W h => by
    obtain ⟨q0, q1, q2, q3, q4, q5, q6, q7, q8, q9, _, _⟩ := rec_cells (w := w) (w' := W) (r := r) (ta := ta) (tc := tc) (da := da) (dc := dc) (by rw [h.block _ (by omega)]; exact heap_alloc_new w _)
    exact ⟨q0, q1, q2, q3, h⟩
  have HT3 : Hid (∀ W, Below (w.heap.size + 1) (w.alloc (.cells (recC r ta tc da dc) 34)) W → W.cell? ⟨w.heap.size, 5, none⟩ = some (.int .i64 r.page) ∧ W.cell? ⟨w.heap.size, 6, none⟩ = some (.int .i64 r.ak) ∧ Below (w.heap.size + 1) (w.alloc (.cells (recC r ta tc da dc) 34)) W) := fun W h => by
    obtain ⟨q0, q1, q2, q3, q4, q5, q6, q7, q8, q9, _, _⟩ := rec_cells (w := w) (w' := W) (r := r) (ta := ta) (tc := tc) (da := da) (dc := dc) (by rw [h.block _ (by omega)]; exact heap_alloc_new w _)
    exact ⟨q5, q6, h⟩
  have HT4 : Hid (∀ W, Below (w.heap.size + 1) (w.alloc (.cells (recC r ta tc da dc) 34)) W → W.cell? ⟨w.heap.size, 7, none⟩ = some (.string (txt r.key)) ∧ W.cell? ⟨w.heap.size, 8, none⟩ = some (.string (txt r.old)) ∧ W.cell? ⟨w.heap.size, 9, none⟩ = some (.string (txt r.new)) ∧ Below (w.heap.size + 1) (w.alloc (.cells (recC r ta tc da dc) 34)) W) := fun W h => by
    obtain ⟨q0, q1, q2, q3, q4, q5, q6, q7, q8, q9, _, _⟩ := rec_cells (w := w) (w' := W) (r := r) (ta := ta) (tc := tc) (da := da) (dc := dc) (by rw [h.block _ (by omega)]; exact heap_alloc_new w _)
    exact ⟨q7, q8, q9, h⟩
  have HT5 : Hid (∀ W, Below (w.heap.size + 1) (w.alloc (.cells (recC r ta tc da dc) 34)) W → W.cell? ⟨w.heap.size, 0, none⟩ = some (.int .i64 r.kind) ∧ W.cell? ⟨w.heap.size, 4, none⟩ = some (.int .u64 (r.undo : Int)) ∧ Below (w.heap.size + 1) (w.alloc (.cells (recC r ta tc da dc) 34)) W) := fun W h => by
    obtain ⟨q0, q1, q2, q3, q4, q5, q6, q7, q8, q9, _, _⟩ := rec_cells (w := w) (w' := W) (r := r) (ta := ta) (tc := tc) (da := da) (dc := dc) (by rw [h.block _ (by omega)]; exact heap_alloc_new w _)
    exact ⟨q0, q4, h⟩
  have HN : Hid (∀ (n k : Int) (W : World), 0 ≤ n → n < 18446744073709551616 → 0 ≤ k → k ≤ 8 → Below (w.heap.size + 1) (w.alloc (.cells (recC r ta tc da dc) 34)) W → Calls Try.prog 33 #[.int .u64 n, .int .i64 k] W fun e w' => e = .returned (.string (txt (leB n.toNat k.toNat))) ∧ Below (w.heap.size + 1) (w.alloc (.cells (recC r ta tc da dc) 34)) w') := fun n k W h1 h2 h3 h4 hW =>
    (numT n k W h1 h2 h3 h4).mono fun e w' ⟨e1, e2⟩ => ⟨e1, hW.trans (e2.mono (by have := hW.size; simpa using this))⟩
  have HX : Hid (∀ (s : ByteArray) (W : World), s.size ≤ 32 → Below (w.heap.size + 1) (w.alloc (.cells (recC r ta tc da dc) 34)) W → Calls Try.prog 49 #[.string s] W fun e w' => e = .returned (.string (txt (textB s))) ∧ Below (w.heap.size + 1) (w.alloc (.cells (recC r ta tc da dc) 34)) w') := fun s W h1 hW =>
    (reft_any s W (by unfold maxLen; omega)).mono fun e w' ⟨e1, e2⟩ => ⟨e1, hW.trans (e2.mono (by have := hW.size; simpa using this))⟩
  have hxl : ∀ x : List UInt8, x.length ≤ 32 → (textB (txt x)).length ≤ 34 := fun x hx => by
    unfold textB
    simp [leB_length, txt]
    omega
  have x1 := hxl _ (show r.key.length ≤ 32 by omega)
  have x2 := hxl _ ol
  have x3 := hxl _ nw
  clear hxl
  have HK0 : Hid (Below (w.heap.size + 1) (w.alloc (.cells (recC r ta tc da dc) 34)) (w.alloc (.cells (recC r ta tc da dc) 34))) := Below.refl _ _
  obtain ⟨H, HH⟩ : ∃ H, Hid (headE r = H) := ⟨_, rfl⟩
  have hHl : H.length ≤ 21 := by rw [← HH.out]; simp [headE, leB_length]
  go_enter Try.func31, Try.ntmps31
  go_upto_region 1 with fail
  go_cut [3] from 7 to 23 (fun s wc => s = .string (txt H) ∧ Below (w.heap.size + 1) (w.alloc (.cells (recC r ta tc da dc) 34)) wc)
  case first =>
    have hS0 := HT1.out _ HK0.out
    go_region_held3 (fun W => W.cell? ⟨w.heap.size, 0, none⟩ = some (.int .i64 r.kind) ∧ W.cell? ⟨w.heap.size, 1, none⟩ = some (.int .u64 (r.lsn : Int)) ∧ W.cell? ⟨w.heap.size, 2, none⟩ = some (.int .i64 r.txn) ∧ W.cell? ⟨w.heap.size, 3, none⟩ = some (.int .u64 (r.prev : Int)) ∧ Below (w.heap.size + 1) (w.alloc (.cells (recC r ta tc da dc) 34)) W) (first | with_reducible assumption | (with_reducible refine HT1.out _ ?_; first | with_reducible assumption | exact HK0.out | exact Below.drew HK0.out)) (first | (go_at_call 33; refine (HN.out _ _ _ (by omega) (by omega) (by omega) (by omega) (by first | with_reducible assumption | exact HK0.out | exact Below.drew HK0.out | exact And.right (And.right (And.right (And.right (by with_reducible assumption)))))).mono ?_; rintro e wn ⟨rfl, hbn⟩) | (go_at_call 49; refine (HX.out _ _ (by rw [txt_size]; omega) (by first | with_reducible assumption | exact HK0.out | exact Below.drew HK0.out | exact And.right (And.right (And.right (And.right (by with_reducible assumption)))))).mono ?_; rintro e wn ⟨rfl, hbn⟩))
    all_goals
      go_wp2_with fail
      go_meet
      refine ⟨?_, by first | with_reducible assumption | skip⟩
      rw [← HH.out]
      simp [headE]
  case rest =>
    obtain ⟨rfl, hB1⟩ := hcut
    have HK1 := (show Hid _ from hB1)
    obtain ⟨q0, q1, q2, q3, _⟩ := HT1.out _ hB1
    have hS3 := HT3.out _ hB1
    have hz := hB1.size
    clear hB1 HT1
    go_wp2_with fail
    refine (hca _).mono ?_
    rintro e w7 ⟨rfl, hw7⟩
    obtain rfl := hw7.symm
    go_upto_region 3 with fail
    have hc1 := cat_txt H (leB r.page.toNat 2) (by simp [leB_length]; omega)
    have hc2 := cat_txt (H ++ leB r.page.toNat 2) (leB r.ak.toNat 1) (by simp [leB_length]; omega)
    clear hta
    go_cut [3] from 27 to 38 (fun s wc => s = .string (txt ((H ++ leB r.page.toNat 2) ++ leB r.ak.toNat 1)) ∧ Below (w.heap.size + 1) (w.alloc (.cells (recC r ta tc da dc) 34)) wc)
    case first =>
      go_region_held3 (fun W => W.cell? ⟨w.heap.size, 5, none⟩ = some (.int .i64 r.page) ∧ W.cell? ⟨w.heap.size, 6, none⟩ = some (.int .i64 r.ak) ∧ Below (w.heap.size + 1) (w.alloc (.cells (recC r ta tc da dc) 34)) W) (first | with_reducible assumption | (with_reducible refine HT3.out _ ?_; first | with_reducible assumption | exact HK1.out | exact Below.drew HK1.out)) (first | (go_at_call 33; refine (HN.out _ _ _ (by omega) (by omega) (by omega) (by omega) (by first | with_reducible assumption | exact HK1.out | exact Below.drew HK1.out | exact And.right (And.right (by with_reducible assumption)))).mono ?_; rintro e wn ⟨rfl, hbn⟩) | (go_at_call 49; refine (HX.out _ _ (by rw [txt_size]; omega) (by first | with_reducible assumption | exact HK1.out | exact Below.drew HK1.out | exact And.right (And.right (by with_reducible assumption)))).mono ?_; rintro e wn ⟨rfl, hbn⟩))
      all_goals
        go_wp2_with fail
        go_meet
        refine ⟨?_, by first | with_reducible assumption | skip⟩
        simp
    case rest =>
      obtain ⟨rfl, hB3⟩ := hcut
      have HK3 := (show Hid _ from hB3)
      have hS4 := HT4.out _ hB3
      clear hB3 HT3 hS3 q0 q1 q2 q3
      obtain ⟨G, HG⟩ : ∃ G, Hid ((H ++ leB r.page.toNat 2) ++ leB r.ak.toNat 1 = G) := ⟨_, rfl⟩
      have hGl : G.length ≤ 24 := by rw [← HG.out]; simp [leB_length]; omega
      rw [HG.out]
      go_upto_region 4 with fail
      have hc3 := cat_txt G (textB (txt r.key)) (by omega)
      have hc4 := cat_txt (G ++ textB (txt r.key)) (textB (txt r.old)) (by simp; omega)
      have hc5 := cat_txt ((G ++ textB (txt r.key)) ++ textB (txt r.old)) (textB (txt r.new)) (by simp; omega)
      have hc5' := cat_txt (G ++ (textB (txt r.key) ++ textB (txt r.old))) (textB (txt r.new)) (by simp; omega)
      clear hc1 hc2
      go_cut [3] from 39 to 54 (fun s wc => s = .string (txt (((G ++ textB (txt r.key)) ++ textB (txt r.old)) ++ textB (txt r.new))) ∧ Below (w.heap.size + 1) (w.alloc (.cells (recC r ta tc da dc) 34)) wc)
      case first =>
        go_region_held3 (fun W => W.cell? ⟨w.heap.size, 7, none⟩ = some (.string (txt r.key)) ∧ W.cell? ⟨w.heap.size, 8, none⟩ = some (.string (txt r.old)) ∧ W.cell? ⟨w.heap.size, 9, none⟩ = some (.string (txt r.new)) ∧ Below (w.heap.size + 1) (w.alloc (.cells (recC r ta tc da dc) 34)) W) (first | with_reducible assumption | (with_reducible refine HT4.out _ ?_; first | with_reducible assumption | exact HK3.out | exact Below.drew HK3.out)) (first | (go_at_call 33; refine (HN.out _ _ _ (by omega) (by omega) (by omega) (by omega) (by first | with_reducible assumption | exact HK3.out | exact Below.drew HK3.out | exact And.right (And.right (And.right (by with_reducible assumption))))).mono ?_; rintro e wn ⟨rfl, hbn⟩) | (go_at_call 49; refine (HX.out _ _ (by rw [txt_size]; omega) (by first | with_reducible assumption | exact HK3.out | exact Below.drew HK3.out | exact And.right (And.right (And.right (by with_reducible assumption))))).mono ?_; rintro e wn ⟨rfl, hbn⟩))
        all_goals
          go_wp2_with fail
          go_meet
          refine ⟨?_, by first | with_reducible assumption | skip⟩
          simp
      case rest =>
        obtain ⟨rfl, hB4⟩ := hcut
        have HK4 := (show Hid _ from hB4)
        obtain ⟨q0, q4, _⟩ := HT5.out _ hB4
        clear hB4 HT4 hS4
        obtain ⟨F, HF⟩ : ∃ F, Hid (((G ++ textB (txt r.key)) ++ textB (txt r.old)) ++ textB (txt r.new) = F) := ⟨_, rfl⟩
        have hFl : F.length ≤ 126 := by rw [← HF.out]; simp; omega
        rw [HF.out]
        have hend : ∀ U, undoE r = U → encB r = F ++ U := fun U hU => by
          rw [HE.out, hU, ← HF.out, ← HG.out, HH.out]
          simp [List.append_assoc]
        have HEnd := (show Hid _ from hend)
        clear hend HE
        rcases hk12 with hk | hk
        · have HU : Hid (undoE r = []) := by show _ = _; unfold undoE; rw [if_neg (by omega)]
          rw [hk] at q0
          go_wp2
          go_ret
          refine ⟨?_, ((Below.refl _ _).alloc (Nat.le_refl _) _).trans (HK4.out.mono (by omega))⟩
          rw [HEnd.out _ HU.out]
          simp
        · have HU : Hid (undoE r = leB r.undo 8) := by show _ = _; unfold undoE; rw [if_pos hk]
          rw [hk] at q0
          have hc6 := cat_txt F (leB r.undo 8) (by simp [leB_length]; omega)
          go_wp2_with fail
          refine (HN.out _ _ _ (by omega) (by omega) (by omega) (by omega) HK4.out).mono ?_
          rintro e w9 ⟨rfl, hB9⟩
          have HK9 := (show Hid _ from hB9)
          obtain ⟨r0, r4, _⟩ := HT5.out _ hB9
          rw [hk] at r0
          clear hB9 q0 q4
          go_wp2
          go_ret
          refine ⟨?_, ((Below.refl _ _).alloc (Nat.le_refl _) _).trans (HK9.out.mono (by omega))⟩
          rw [HEnd.out _ HU.out]
          simp

end Go.Proofs.Yticadfaclnimgaa
