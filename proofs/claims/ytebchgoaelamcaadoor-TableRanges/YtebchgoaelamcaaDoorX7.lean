/-
  Texts put together: Ra Rb.
-/
import Derived.Test.YtebchgoaelamcaaDoorX6
import Derived.Deep.RegionWith
namespace Go.Proofs.YtebchgoaelamcaaDoor
open Go.RowKit
set_option maxRecDepth 100000

theorem bytes_append (l m : List UInt8) : (⟨l.toArray⟩ : ByteArray) ++ ⟨m.toArray⟩ = ⟨(l ++ m).toArray⟩ := by
  apply ByteArray.ext
  simp

theorem conv_one (w : World) (b : UInt8) : (convert 42 9 (.slice (some ⟨w.heap.size, 0, none⟩) 1 1)).run Tryd.prog (w.alloc (.cells #[.int .u8 (b.toNat : Int)] 5)) = .ok (.string ⟨#[b]⟩) (w.alloc (.cells #[.int .u8 (b.toNat : Int)] 5)) := by
  have := run_convert_bytes_back (P := Tryd.prog) (w.alloc (.cells #[.int .u8 (b.toNat : Int)] 5)) 42 9 5 ⟨w.heap.size, 0, none⟩ 1 [b] Tryd.underlying42 Tryd.underlying5 Tryd.underlying9 (fun j hj => by
    obtain rfl : j = 0 := by simp at hj; omega
    simp [Addr.add])
  simpa using this

set_option maxHeartbeats 400000 in
theorem num_any (n : Int) (k : Nat) (w : World) (hn : 0 ≤ n) (hn1 : n < 18446744073709551616) (hk : k ≤ 8) :
    Calls Tryd.prog 104 #[.int .u64 n, .int .i64 k] w fun e w' => e = .returned (.string ⟨(leB n.toNat k).toArray⟩) ∧ Below w.heap.size w w' := by
  go_enter Tryd.func104, Tryd.ntmps104
  go_wp2
  go_loopw [0, 5, 6] (fun m s i wr => ∃ j : Nat, j ≤ k ∧ i = .int .i64 j ∧ m = .int .u64 (n / 256 ^ j) ∧ s = .string ⟨(leB n.toNat j).toArray⟩ ∧ Below w.heap.size w wr) (fun _ _ i _ => k - (intOf i).toNat)
  case atStart => exact ⟨0, Nat.zero_le _, rfl, by simp, rfl, Below.refl _ _⟩
  case round =>
    obtain ⟨j, hj, rfl, rfl, rfl, hbel⟩ := hrel
    by_cases hlt : j < k
    · have hge : 0 ≤ n / 256 ^ j := Int.ediv_nonneg hn (Int.pow_nonneg (by decide))
      have hle : n / 256 ^ j ≤ n := Int.ediv_le_self _ hn
      have hL : (leB n.toNat j).length ≤ 8 := by rw [leB_length]; omega
      have hdiv : Hid (n / 256 ^ j / 256 = n / 256 ^ (j + 1)) := by
        unfold Hid
        rw [Int.ediv_ediv_of_nonneg (Int.pow_nonneg (by decide)), Int.pow_succ]
      have hcv := conv_one wr (UInt8.ofNat (n.toNat / 256 ^ j))
      rw [show ((UInt8.ofNat (n.toNat / 256 ^ j)).toNat : Int) = n / 256 ^ j % 256 by
        obtain ⟨m, rfl⟩ := Int.eq_ofNat_of_zero_le hn
        simp] at hcv
      go_wp2
      go_roundw
      case rel => exact ⟨j + 1, by omega, by go_num, by rw [hdiv.out], by rw [bytes_append]; rfl, hbel.alloc hbel.size _⟩
      case measure => simp [intOf]; omega
    · go_wp2
      go_ret
      obtain rfl : j = k := by omega
      exact ⟨rfl, hbel⟩

theorem txt_app (a b : List UInt8) : txt a ++ txt b = txt (a ++ b) := bytes_append a b
theorem numT (n k : Int) (w : World) (hn : 0 ≤ n) (hn1 : n < 18446744073709551616) (hk0 : 0 ≤ k) (hk : k ≤ 8) :
    Calls Tryd.prog 104 #[.int .u64 n, .int .i64 k] w fun e w' => e = .returned (.string (txt (leB n.toNat k.toNat))) ∧ Below w.heap.size w w' := by
  have := num_any n k.toNat w hn hn1 (by omega)
  rwa [Int.toNat_of_nonneg hk0] at this
theorem cat_txt (a b : List UInt8) (h : a.length + b.length ≤ 4000) (W : World) : (Op.stringOp .add (txt a) (txt b)).run Tryd.prog W = .ok (.string (txt (a ++ b))) W := by
  have h1 : (txt a).size + (txt b).size ≤ 9223372036854775807 := by
    rw [txt_size, txt_size]
    omega
  have h2 := run_string_add_sum (P := Tryd.prog) (w := W) (txt a) (txt b) h1
  rw [txt_app] at h2
  exact h2

set_option maxRecDepth 20000 in
set_option maxHeartbeats 1000000 in
theorem refcell_any (c : Cl) (w : World) (hc : c.key.length ≤ 16 ∧ c.val.length ≤ 32) : Calls Tryd.prog 82 #[.agg (cellV c)] w fun e w' => e = .returned (.string (txt (cellB c))) ∧ Below w.heap.size w w' := by
  obtain ⟨u, k, v⟩ := c
  simp only at hc
  have hB := (Below.refl w.heap.size w).alloc (Nat.le_refl _) (.cells (cellV ⟨u, k, v⟩) 55)
  simp only [cellV] at hB ⊢
  cases u
  · go_enter Tryd.func82, Tryd.ntmps82
    go_wp2
    go_ret
    exact ⟨rfl, hB⟩
  · have e1 := txt_size k
    have hwk := wrap_u (k.length : Int) (by omega) (by omega)
    have HB := (show Hid _ from hB)
    have hc1 := cat_txt (leB k.length 1) k (by rw [leB_length]; omega)
    have hc2 := cat_txt (leB k.length 1 ++ k) v (by rw [List.length_append, leB_length]; omega)
    have HR : Hid (leB k.length 1 ++ k ++ v = cellB ⟨true, k, v⟩) := by
      show _ = _
      simp [cellB, leB]
    have HT : Hid (∀ W, Below (w.heap.size + 1) (w.alloc (.cells #[.bool true, .string (txt k), .string (txt v)] 55)) W → W.cell? ⟨w.heap.size, 1, none⟩ = some (.string (txt k)) ∧ W.cell? ⟨w.heap.size, 2, none⟩ = some (.string (txt v)) ∧ Below (w.heap.size + 1) (w.alloc (.cells #[.bool true, .string (txt k), .string (txt v)] 55)) W) := fun W hW => by
      obtain ⟨_, q1, q2, _⟩ := cell3 (box_in (show Below (w.alloc (.cells #[.bool true, .string (txt k), .string (txt v)] 55)).heap.size _ W by simpa using hW))
      exact ⟨q1, q2, hW⟩
    have HN : Hid (∀ (n k' : Int) (W : World), 0 ≤ n → n < 18446744073709551616 → 0 ≤ k' → k' ≤ 8 → Below (w.heap.size + 1) (w.alloc (.cells #[.bool true, .string (txt k), .string (txt v)] 55)) W → Calls Tryd.prog 104 #[.int .u64 n, .int .i64 k'] W fun e w' => e = .returned (.string (txt (leB n.toNat k'.toNat))) ∧ Below (w.heap.size + 1) (w.alloc (.cells #[.bool true, .string (txt k), .string (txt v)] 55)) w') := fun n k' W h1 h2 h3 h4 hW =>
      (numT n k' W h1 h2 h3 h4).mono fun e w' ⟨e1, e2⟩ => ⟨e1, hW.trans (e2.mono (by have := hW.size; simpa using this))⟩
    have HK0 : Hid (Below (w.heap.size + 1) (w.alloc (.cells #[.bool true, .string (txt k), .string (txt v)] 55)) (w.alloc (.cells #[.bool true, .string (txt k), .string (txt v)] 55))) := Below.refl _ _
    have hS0 := HT.out _ HK0.out.drew
    clear hB
    go_enter Tryd.func82, Tryd.ntmps82
    go_wp2_with fail
    go_region_held3 (fun W => W.cell? ⟨w.heap.size, 1, none⟩ = some (.string (txt k)) ∧ W.cell? ⟨w.heap.size, 2, none⟩ = some (.string (txt v)) ∧ Below (w.heap.size + 1) (w.alloc (.cells #[.bool true, .string (txt k), .string (txt v)] 55)) W) (first | with_reducible assumption | (with_reducible refine HT.out _ ?_; first | with_reducible assumption | exact HK0.out | exact Below.drew HK0.out)) (first | (go_at_call 104; refine (HN.out _ _ _ (by omega) (by omega) (by omega) (by omega) (by first | with_reducible assumption | exact HK0.out | exact Below.drew HK0.out | exact And.right (And.right (by with_reducible assumption)))).mono ?_; rintro e wn ⟨rfl, hbn⟩))
    all_goals
      obtain ⟨_, _, hBn⟩ := HT.out _ hbn
      have HBn : Hid (Below w.heap.size w wn) := ((Below.refl _ _).alloc (Nat.le_refl _) _).trans (hBn.mono (by omega))
      clear hbn hBn
      go_wp2
      go_ret
      refine ⟨?_, HBn.out⟩
      rw [← HR.out]
      simp

/-- The document's page as a value. -/
def refP (id : Int) (lsn : Nat) (a : Option Addr) (n c : Nat) : Array Value := #[.int .i64 id, .int .u64 (lsn : Int), .slice a n c]

set_option maxHeartbeats 1000000 in
theorem reffree_any (id : Int) (lsn : Nat) (a : Option Addr) (c : Nat) (l : List Cl) (w : World) (h : SlC w a l) (hs : ∀ x ∈ l, x.key.length ≤ 16 ∧ x.val.length ≤ 32) (hl : l.length ≤ 1000) :
    Calls Tryd.prog 66 #[.agg (refP id lsn a l.length c)] w fun e w' => e = .returned (.int .i64 (freeL l)) ∧ Below w.heap.size w w' := by
  have HS := (show Hid _ from hs)
  have hB0 : Below w.heap.size w (w.alloc (.cells (refP id lsn a l.length c) 39)) := (Below.refl _ _).alloc (Nat.le_refl _) _
  have HB0 := (show Hid _ from hB0)
  have hk0 : ∀ W, Below (w.alloc (.cells (refP id lsn a l.length c) 39)).heap.size (w.alloc (.cells (refP id lsn a l.length c) 39)) W → W.heap[w.heap.size]? = some (.cells (refP id lsn a l.length c) 39) := fun W hW => box_in hW
  have HK := (show Hid _ from hk0)
  have hsum : ∀ k, sumC (l.take k) ≤ 49 * k := by
    intro k
    induction k with
    | zero => simp [sumC]
    | succ k ih =>
      by_cases hk : k < l.length
      · rw [sumC_take l k hk]
        have := hs l[k] (List.getElem_mem hk)
        have : sizeC l[k] ≤ 49 := by unfold sizeC; split <;> omega
        omega
      · rw [List.take_of_length_le (by omega)]
        rw [List.take_of_length_le (by omega)] at ih
        omega
  have HSU := (show Hid _ from hsum)
  simp only [refP] at HB0 HK hB0 ⊢
  clear hs hk0 hsum
  go_enter Tryd.func66, Tryd.ntmps66
  go_wp2_with fail
  go_loopw [3, 4] (fun f i wr => ∃ k : Nat, k ≤ l.length ∧ i = .int .i64 k ∧ f = .int .i64 (496 - 4 * (l.length : Int) - (sumC (l.take k) : Int)) ∧ Below (w.alloc (.cells (refP id lsn a l.length c) 39)).heap.size (w.alloc (.cells (refP id lsn a l.length c) 39)) wr) (fun _ i _ => l.length - (intOf i).toNat)
  case atStart => exact ⟨0, Nat.zero_le _, rfl, by simp [sumC], Below.refl _ _⟩
  case round =>
    obtain ⟨k, hk, rfl, rfl, hBr⟩ := hrel
    have hB : Below w.heap.size w wr := below_on HB0.out hBr
    obtain ⟨q0, q1, q2, g0, g1, g2, hz⟩ := cell3 (HK.out wr hBr)
    have hsl' := h.below hB
    have hsu := HSU.out k
    by_cases hlt : k < l.length
    · obtain ⟨b, o, rfl, hbl, c0, c1, c2⟩ := hsl'.at k hlt
      have hst := sumC_take l k hlt
      have hsm := HS.out l[k] (List.getElem_mem hlt)
      have HX := (show Hid _ from refcell_any l[k] wr hsm)
      have hcl := cellB_length l[k]
      have htx := txt_size (cellB l[k])
      have hsu1 := HSU.out (k + 1)
      simp only [cellV] at HX
      go_wp2_with fail
      refine Calls.mono HX.out ?_
      rintro e w2 ⟨rfl, hb2⟩
      have hB2 := below_on hBr hb2
      clear HX hb2
      go_wp2_with fail
      go_roundw
      case rel => exact ⟨k + 1, by omega, by simp, by rw [hst]; congr 1; omega, hB2⟩
      case measure => first | omega | (simp only [intOf]; omega)
    · have : k = l.length := by omega
      subst this
      go_wp2
      go_ret
      exact ⟨by simp [freeL], hB⟩

end Go.Proofs.YtebchgoaelamcaaDoor

namespace Go.Proofs.YtebchgoaelamcaaDoor
open Go.RowKit
set_option maxRecDepth 100000

/-- How long a text is. -/
def strLen : Value → Nat
  | .string b => b.size
  | _ => 0

theorem layS_take (l : List Cl) (k : Nat) (hk : k < l.length) : layS 512 (l.take (k + 1)) = layS 512 (l.take k) ++ (if l[k].used then leB (512 - sumC (l.take (k + 1))) 2 ++ leB (sizeC l[k]) 2 else leB 0 2 ++ leB 0 2) := by
  have et : l.take (k + 1) = l.take k ++ [l[k]] := by rw [List.take_add_one, List.getElem?_eq_getElem hk]; rfl
  rw [sumC_take l k hk, et, layS_append]
  congr 1
  simp only [layS, List.append_nil]
  split
  · rw [Nat.sub_sub]
  · rfl
theorem layC_take (l : List Cl) (k : Nat) (hk : k < l.length) : layC (l.take (k + 1)) = cellB l[k] ++ layC (l.take k) := by
  have et : l.take (k + 1) = l.take k ++ [l[k]] := by rw [List.take_add_one, List.getElem?_eq_getElem hk]; rfl
  rw [et, layC_append]
  simp [layC]

end Go.Proofs.YtebchgoaelamcaaDoor

