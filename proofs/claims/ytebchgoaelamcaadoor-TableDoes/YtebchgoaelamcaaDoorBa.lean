/-
  Bytes that are written over: of no program; lay and layCell.
-/
import Derived.Test.YtebchgoaelamcaaDoorPi
namespace Go.Proofs.YtebchgoaelamcaaDoor
open Go.RowKit
set_option maxRecDepth 100000

/-- A list with some bytes written over it. -/
def over (L : List UInt8) (o : Nat) (m : List UInt8) : List UInt8 := L.take o ++ (m ++ L.drop (o + m.length))

theorem over_length (L : List UInt8) (o : Nat) (m : List UInt8) (h : o + m.length ≤ L.length) : (over L o m).length = L.length := by
  simp [over]
  omega
theorem over_nil (L : List UInt8) (o : Nat) : over L o [] = L := by simp [over]

theorem over_snoc (L : List UInt8) (o : Nat) (m : List UInt8) (b : UInt8) (h : o + m.length < L.length) : (over L o m).set (o + m.length) b = over L o (m ++ [b]) := by
  unfold over
  rw [List.set_append_right _ _ (by simp; omega)]
  rw [List.set_append_right _ _ (by simp; omega)]
  rw [show o + m.length - (L.take o).length - m.length = 0 by simp; omega]
  rw [List.drop_eq_getElem_cons h]
  simp [Nat.add_assoc]

/-- At the front of a run of noughts. -/
theorem over_front (A Z m : List UInt8) (k : Nat) (hm : m.length ≤ k) : over (A ++ (List.replicate k 0 ++ Z)) A.length m = (A ++ m) ++ (List.replicate (k - m.length) 0 ++ Z) := by
  unfold over
  rw [List.take_left' rfl]
  rw [show (A ++ (List.replicate k (0 : UInt8) ++ Z)).drop (A.length + m.length) = (List.replicate k 0 ++ Z).drop m.length by rw [← List.drop_drop, List.drop_left' rfl]]
  rw [List.drop_append_of_le_length (by simpa using hm)]
  simp

/-- At the end of a run of noughts. -/
theorem over_back (A Z m : List UInt8) (k : Nat) (hm : m.length ≤ k) : over (A ++ (List.replicate k 0 ++ Z)) (A.length + (k - m.length)) m = A ++ (List.replicate (k - m.length) 0 ++ (m ++ Z)) := by
  unfold over
  rw [List.take_append, List.take_append]
  rw [List.take_of_length_le (by omega), show A.length + (k - m.length) - A.length = k - m.length by omega]
  rw [show (k - m.length) - (List.replicate k (0 : UInt8)).length = 0 by simp]
  rw [List.take_replicate, Nat.min_eq_left (by omega), List.take_zero, List.append_nil]
  rw [show A.length + (k - m.length) + m.length = A.length + k by omega, ← List.drop_drop, List.drop_left' rfl, List.drop_left' (by simp)]
  simp

/-- A block of bytes. -/
def Buf (w : World) (G : Nat) (L : List UInt8) : Prop := w.heap[G]? = some (.cells (bcells L).toArray 5)

theorem bcells_set (L : List UInt8) (k : Nat) (b : UInt8) : (bcells L).toArray.setIfInBounds k (.int .u8 (b.toNat : Int)) = (bcells (L.set k b)).toArray := by
  simp [bcells]

theorem Buf.set {w : World} {G : Nat} {L : List UInt8} (h : Buf w G L) (k : Nat) (b : UInt8) : Buf (w.setCell ⟨G, k, none⟩ (.int .u8 (b.toNat : Int))) G (L.set k b) := by
  unfold Buf at *
  rw [← bcells_set]
  exact heap_setCell_same _ _ _ _ _ _ h
theorem Buf.cell {w : World} {G : Nat} {L : List UInt8} (h : Buf w G L) (k : Nat) (hk : k < L.length) : w.cell? ⟨G, k, none⟩ = some (.int .u8 (L[k].toNat : Int)) ∧ w.frozen? ⟨G, k, none⟩ = false := by
  unfold Buf at h
  constructor
  · simp [World.cell?, h, bcells, hk]
  · simp [World.frozen?, h]
theorem Buf.slB {w : World} {G : Nat} {L : List UInt8} (h : Buf w G L) (o : Nat) : SlB w (some ⟨G, o, none⟩) (L.drop o) :=
  ⟨fun h => by simp at h, fun x hx j u hu => by
    simp at hx
    subst hx
    have hj : j < (L.drop o).length := by have := (List.getElem?_eq_some_iff.1 hu).1; simpa [bcells] using this
    have e : (⟨G, o, none⟩ : Addr).add j = ⟨G, o + j, none⟩ := by unfold Addr.add; split <;> simp_all
    rw [e, (h.cell (o + j) (by simp at hj; omega)).1]
    simp [bcells] at hu
    obtain ⟨a, ha, rfl⟩ := hu
    have := (List.getElem?_eq_some_iff.mp ha).2
    rw [this]⟩
theorem Buf.below {w w' : World} {D G : Nat} {L : List UInt8} (h : Buf w G L) (hb : Below D w w') (hD : w.heap.size ≤ D) : Buf w' G L := by
  unfold Buf at *
  rw [hb.block G (Nat.lt_of_lt_of_le (lt_of_blk h) hD)]
  exact h

set_option maxHeartbeats 1000000 in
theorem lay_any (G o k c n : Nat) (L : List UInt8) (w : World) (h : Buf w G L) (hk : o + k ≤ L.length) (h8 : k ≤ 8) :
    Calls Tryd.prog 38 #[.slice (some ⟨G, o, none⟩) k c, .int .u64 (n : Int)] w fun e w' => e = .returned (.tuple #[]) ∧ Buf w' G (over L o (leB n k)) ∧ Touch G none w w' := by
  go_enter Tryd.func38, Tryd.ntmps38
  go_wp2_with fail
  go_loopw [7] (fun i wr => ∃ j : Nat, j ≤ k ∧ i = .int .i64 j ∧ Buf wr G (over L o (leB n j)) ∧ Touch G none w wr) (fun i _ => k - (intOf i).toNat)
  case atStart => exact ⟨0, Nat.zero_le _, rfl, by simpa [leB, over_nil] using h, Touch.refl _ _ _⟩
  case round =>
    obtain ⟨j, hj, rfl, hb, ht⟩ := hrel
    by_cases hlt : j < k
    · have hlen := over_length L o (leB n j) (by rw [leB_length]; omega)
      have hs := over_snoc L o (leB n j) (UInt8.ofNat (n / 256 ^ j)) (by rw [leB_length]; omega)
      rw [leB_length] at hs
      have HS : Hid (over L o (leB n (j + 1)) = (over L o (leB n j)).set (o + j) (UInt8.ofNat (n / 256 ^ j))) := hs.symm
      clear hs
      generalize over L o (leB n j) = M at *
      obtain ⟨c0, f0⟩ := hb.cell (o + j) (by omega)
      have hwr : IntKind.i64.wrap (8 * (j : Int)) = 8 * (j : Int) := by simp [IntKind.wrap, IntKind.bits, IntKind.signed]; omega
      have hk0 : 0 ≤ 8 * (j : Int) := by omega
      have hk1 : 8 * (j : Int) ≤ 64 := by omega
      have HV : Hid ((n : Int) / 2 ^ (8 * j) % 256 = ((UInt8.ofNat (n / 256 ^ j)).toNat : Int)) := by
        show _ = _
        have e : ((2 : Int) ^ (8 * j)) = ((256 ^ j : Nat) : Int) := by rw [Int.pow_mul]; simp
        rw [e]
        simp
      have R := (show Hid _ from hb.set (o + j) (UInt8.ofNat (n / 256 ^ j)))
      have T := (show Hid _ from Touch.setP ht (o + j) (.int .u8 ((UInt8.ofNat (n / 256 ^ j)).toNat : Int)))
      clear hb ht
      go_wp2_with fail
      go_roundw
      case rel => rw [HV.out]; exact ⟨j + 1, by omega, by simp, by rw [HS.out]; exact R.out, T.out⟩
      case measure => first | omega | (simp only [intOf]; omega)
    · obtain rfl : j = k := by omega
      go_wp2
      go_end0
      exact ⟨rfl, hb, ht⟩

theorem bcells_over (L m : List UInt8) (o : Nat) : ((bcells L).toArray.toList.take o ++ bcells m ++ (bcells L).toArray.toList.drop (o + m.length)).toArray = (bcells (over L o m)).toArray := by
  simp [bcells, over]

/-- A text copied over bytes. -/
theorem copy_run (w : World) (G o dLen dCap : Nat) (L m : List UInt8) (h : Buf w G L) (h1 : m.length ≤ dLen) (h2 : o + m.length ≤ L.length) :
    ∃ w', (Builtin.copy_ #[42, 9] 3 #[.slice (some ⟨G, o, none⟩) dLen dCap, .string (txt m)]).run Tryd.prog w = .ok (goInt m.length) w' ∧ Buf w' G (over L o m) ∧ Touch G none w w' := by
  obtain ⟨i0, hi, hz0, hz1, hz2⟩ := info_parts Tryd.info5
  have hinfo : (Tryd.prog.info? 5).map (·.size) = some 1 := by rw [hi]; simp [hz1]
  have es := txt_size m
  have hc := Lib.run_copy_row_string (P := Tryd.prog) w 42 9 3 5 G o dLen dCap (txt m) _ 5 Tryd.underlying42 hinfo h (by omega) (by simp [bcells]; omega)
  rw [es] at hc
  refine ⟨_, hc, ?_, ?_⟩
  · unfold Buf
    rw [setRow_heap _ _ _ _ 5 (0, 0) h, ← bcells_over]
    rfl
  · exact ⟨rfl, rfl, rfl, by simp, fun k _ hk _ => setRow_other _ _ _ _ hk⟩

end Go.Proofs.YtebchgoaelamcaaDoor
