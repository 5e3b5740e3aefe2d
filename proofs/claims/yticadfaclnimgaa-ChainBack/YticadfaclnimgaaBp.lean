/-
  The walks of the document's Bytes and Frame, of records without a change and without tables.
-/
import Derived.Test.YticadfaclnimgaaFr
import Derived.Test.YticadfaclnimgaaNu
import Derived.Deep.RegionHeld3
namespace Go.Proofs.Yticadfaclnimgaa
open Go.RowKit

theorem txt_app (a b : List UInt8) : txt a ++ txt b = txt (a ++ b) := bytes_append a b

theorem numT (n k : Int) (w : World) (hn : 0 ≤ n) (hn1 : n < 18446744073709551616) (hk0 : 0 ≤ k) (hk : k ≤ 8) :
    Calls Try.prog 33 #[.int .u64 n, .int .i64 k] w fun e w' => e = .returned (.string (txt (leB n.toNat k.toNat))) ∧ Below w.heap.size w w' := by
  have := num_any n k.toNat w hn hn1 (by omega)
  rwa [Int.toNat_of_nonneg hk0] at this

theorem wrap_u (n : Int) (h : 0 ≤ n) (h1 : n < 18446744073709551616) : IntKind.u64.wrap n = n := by
  rw [IntKind.wrap_u64]
  omega

theorem refchg_any (k : Int) (w : World) : Calls Try.prog 48 #[.int .i64 k] w fun e w' => e = .returned (.bool (chgB k)) ∧ w' = w := by
  by_cases h1 : k = 1
  · subst h1
    go_enter Try.func48, Try.ntmps48
    go_wp2
    go_ret
    exact ⟨rfl, rfl⟩
  · by_cases h2 : k = 2
    · subst h2
      go_enter Try.func48, Try.ntmps48
      go_wp2
      go_ret
      exact ⟨rfl, rfl⟩
    · rw [show chgB k = false by simp [chgB, h1, h2]]
      have h1' : (k == 1) = false := by simp [h1]
      have h2' : (k == 2) = false := by simp [h2]
      clear h1 h2
      go_enter Try.func48, Try.ntmps48
      go_wp2
      go_ret
      exact ⟨rfl, rfl⟩

/-- Four cells of a record that was boxed. -/
theorem head_cells {w W : World} {r : Rc} {ta : Option Addr} {tc : Nat} {da : Option Addr} {dc : Nat} (h : Below (w.heap.size + 1) (w.alloc (.cells (recC r ta tc da dc) 34)) W) :
    W.cell? ⟨w.heap.size, 0, none⟩ = some (.int .i64 r.kind) ∧ W.cell? ⟨w.heap.size, 1, none⟩ = some (.int .u64 (r.lsn : Int)) ∧ W.cell? ⟨w.heap.size, 2, none⟩ = some (.int .i64 r.txn) ∧ W.cell? ⟨w.heap.size, 3, none⟩ = some (.int .u64 (r.prev : Int)) ∧ Below (w.heap.size + 1) (w.alloc (.cells (recC r ta tc da dc) 34)) W := by
  obtain ⟨q0, q1, q2, q3, _⟩ := rec_cells (w := w) (w' := W) (r := r) (ta := ta) (tc := tc) (da := da) (dc := dc) (by rw [h.block _ (by omega)]; exact heap_alloc_new w _)
  exact ⟨q0, q1, q2, q3, h⟩

set_option maxHeartbeats 2000000 in
theorem bytes_plain (r : Rc) (ta : Option Addr) (tc : Nat) (da : Option Addr) (dc : Nat) (w : World) (hm : MayP r) (hc : chgB r.kind = false) (h8 : (r.kind == 8) = false) :
    Calls Try.prog 31 #[recV r ta tc da dc] w fun e w' => e = .returned (.string (txt (encB r))) ∧ Below w.heap.size w w' := by
  have HE : Hid (encB r = ((leB r.kind.toNat 1 ++ leB r.lsn 8) ++ leB r.txn.toNat 4) ++ leB r.prev 8) := by
    show _ = _
    unfold encB headE
    rw [hc, if_neg (by decide), if_neg (by simpa using h8)]
    simp
  have h2 : (r.kind == 2) = false := by
    cases e : (r.kind == 2)
    · rfl
    · have : r.kind = 2 := by simpa using e
      rw [this] at hc
      cases hc
  have hca := refchg_any r.kind
  rw [hc] at hca
  obtain ⟨k0, k1⟩ := hm.kind
  obtain ⟨t0, t1⟩ := hm.txn
  have l1 := hm.lsn
  have l2 := hm.prev
  clear hm hc
  have l3 : (r.lsn : Int) < 18446744073709551616 := by omega
  have l4 : (r.prev : Int) < 18446744073709551616 := by omega
  have hts := txt_size
  have hta := txt_app
  have htl := leB_length
  have HT : Hid (∀ W, Below (w.heap.size + 1) (w.alloc (.cells (recC r ta tc da dc) 34)) W → W.cell? ⟨w.heap.size, 0, none⟩ = some (.int .i64 r.kind) ∧ W.cell? ⟨w.heap.size, 1, none⟩ = some (.int .u64 (r.lsn : Int)) ∧ W.cell? ⟨w.heap.size, 2, none⟩ = some (.int .i64 r.txn) ∧ W.cell? ⟨w.heap.size, 3, none⟩ = some (.int .u64 (r.prev : Int)) ∧ Below (w.heap.size + 1) (w.alloc (.cells (recC r ta tc da dc) 34)) W) := fun W h => head_cells h
  have hw1 := wrap_u r.kind (by omega) (by omega)
  have hw2 := wrap_u r.txn (by omega) (by omega)
  have HN : Hid (∀ (n k : Int) (W : World), 0 ≤ n → n < 18446744073709551616 → 0 ≤ k → k ≤ 8 → Below (w.heap.size + 1) (w.alloc (.cells (recC r ta tc da dc) 34)) W → Calls Try.prog 33 #[.int .u64 n, .int .i64 k] W fun e w' => e = .returned (.string (txt (leB n.toNat k.toNat))) ∧ Below (w.heap.size + 1) (w.alloc (.cells (recC r ta tc da dc) 34)) w') := fun n k W h1 h2 h3 h4 hW =>
    (numT n k W h1 h2 h3 h4).mono fun e w' ⟨e1, e2⟩ => ⟨e1, hW.trans (e2.mono (by have := hW.size; simpa using this))⟩
  go_enter Try.func31, Try.ntmps31
  go_wp2_with fail
  have hS0 := HT.out _ ((Below.refl _ _).drew)
  go_region_held3 (fun W => W.cell? ⟨w.heap.size, 0, none⟩ = some (.int .i64 r.kind) ∧ W.cell? ⟨w.heap.size, 1, none⟩ = some (.int .u64 (r.lsn : Int)) ∧ W.cell? ⟨w.heap.size, 2, none⟩ = some (.int .i64 r.txn) ∧ W.cell? ⟨w.heap.size, 3, none⟩ = some (.int .u64 (r.prev : Int)) ∧ Below (w.heap.size + 1) (w.alloc (.cells (recC r ta tc da dc) 34)) W) (first | with_reducible assumption | (with_reducible refine HT.out _ ?_; first | with_reducible assumption | exact (Below.refl _ _).drew)) (first | (go_at_call 33; refine (HN.out _ _ _ (by omega) (by omega) (by omega) (by omega) (by first | exact (And.right (And.right (And.right (And.right (by assumption)))))  | exact (Below.refl _ _).drew)).mono ?_; rintro e wn ⟨rfl, hbn⟩))
  all_goals
    obtain ⟨p0, p1, p2, p3, hBn⟩ := HT.out _ hbn
    have HBn : Hid (Below w.heap.size w wn) := ((Below.refl _ _).alloc (Nat.le_refl _) _).trans (hBn.mono (by omega))
    have hzn : w.heap.size < wn.heap.size := by have := hBn.size; simp at this; omega
    clear hbn hBn
    go_wp2_with fail
    refine (hca _).mono ?_
    rintro e w7 ⟨rfl, hw7⟩
    obtain rfl := hw7.symm
    go_wp2
    go_ret
    refine ⟨?_, HBn.out⟩
    rw [HE.out]
    simp [List.append_assoc]

/-- The document's frame of a record of which its Bytes are right. -/
theorem refframe_of (r : Rc) (ta : Option Addr) (tc : Nat) (da : Option Addr) (dc : Nat) (w : World) (hl : (encB r).length ≤ 2000)
    (h : ∀ W, Below w.heap.size w W → Calls Try.prog 31 #[recV r ta tc da dc] W fun e w' => e = .returned (.string (txt (encB r))) ∧ Below W.heap.size W w') :
    Calls Try.prog 18 #[recV r ta tc da dc] w fun e w' => e = .returned (.string (txt (frameB r))) ∧ Below w.heap.size w w' := by
  have HB : Hid (Below w.heap.size w (w.alloc (.cells (recC r ta tc da dc) 34))) := (Below.refl _ _).alloc (Nat.le_refl _) _
  have HX := (show Hid _ from h _ HB.out)
  have hts := txt_size
  have hta := txt_app
  have htl := leB_length
  clear h
  have HF : Hid (frameB r = sealB (leB (encB r).length 2 ++ encB r)) := rfl
  generalize encB r = L at *
  go_enter Try.func18, Try.ntmps18
  go_wp2_with fail
  refine Calls.mono HX.out ?_
  rintro e w1 ⟨rfl, hb1⟩
  have hB1 := below_on HB.out hb1
  clear HX hb1
  go_wp2_with fail
  refine (numT _ _ _ (by omega) (by omega) (by omega) (by omega)).mono ?_
  rintro e w2 ⟨rfl, hb2⟩
  have hB2 := below_on hB1 hb2
  clear hb2 hB1
  go_wp2_with fail
  refine (refseal_any _ _ (by rw [txt_size]; simp [leB_length]; unfold maxLen; omega)).mono ?_
  rintro e w3 ⟨rfl, hb3⟩
  have hB3 := below_on hB2 hb3
  go_wp2
  go_ret
  refine ⟨?_, hB3⟩
  rw [HF.out, txt_list]
  rfl

end Go.Proofs.Yticadfaclnimgaa
