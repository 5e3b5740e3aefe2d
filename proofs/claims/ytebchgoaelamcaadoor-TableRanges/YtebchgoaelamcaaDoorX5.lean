/-
  Texts put together: Ba Bb Bc Nib Mo.
-/
import Derived.Test.YtebchgoaelamcaaDoorX3
import Derived.Test.YtebchgoaelamcaaDoorChecked
import Derived.Test.YtebchgoaelamcaaDoorX2
import Derived.Laws.BitsAllLaws
import Derived.Laws.BitsLemmas
import Derived.Deep.WholeRow
import Derived.Laws.ResultCell
import Derived.Lib.SlBytesConst
namespace Go.Proofs.YtebchgoaelamcaaDoor
open Go.RowKit
set_option maxRecDepth 100000

/-- A list with some bytes written over it. -/
def over (L : List UInt8) (o : Nat) (m : List UInt8) : List UInt8 := L.take o ++ (m ++ L.drop (o + m.length))

theorem over_length (L : List UInt8) (o : Nat) (m : List UInt8) (h : o + m.length ≤ L.length) : (over L o m).length = L.length := by
  simp [over]
  omega
theorem over_nil (L : List UInt8) (o : Nat) : over L o [] = L := by simp [over]

theorem over_snoc (L : List UInt8) (o : Nat) (m : List UInt8) (b : UInt8) (h : o + m.length < L.length) : (over L o m).set (o + m.length) b = over L o (m ++ [b]) := by
  unfold over
  rw [List.set_append_right _ _ (by simp; omega)]
  rw [List.set_append_right _ _ (by simp; omega)]
  rw [show o + m.length - (L.take o).length - m.length = 0 by simp; omega]
  rw [List.drop_eq_getElem_cons h]
  simp [Nat.add_assoc]

/-- At the front of a run of noughts. -/
theorem over_front (A Z m : List UInt8) (k : Nat) (hm : m.length ≤ k) : over (A ++ (List.replicate k 0 ++ Z)) A.length m = (A ++ m) ++ (List.replicate (k - m.length) 0 ++ Z) := by
  unfold over
  rw [List.take_left' rfl]
  rw [show (A ++ (List.replicate k (0 : UInt8) ++ Z)).drop (A.length + m.length) = (List.replicate k 0 ++ Z).drop m.length by rw [← List.drop_drop, List.drop_left' rfl]]
  rw [List.drop_append_of_le_length (by simpa using hm)]
  simp

/-- At the end of a run of noughts. -/
theorem over_back (A Z m : List UInt8) (k : Nat) (hm : m.length ≤ k) : over (A ++ (List.replicate k 0 ++ Z)) (A.length + (k - m.length)) m = A ++ (List.replicate (k - m.length) 0 ++ (m ++ Z)) := by
  unfold over
  rw [List.take_append, List.take_append]
  rw [List.take_of_length_le (by omega), show A.length + (k - m.length) - A.length = k - m.length by omega]
  rw [show (k - m.length) - (List.replicate k (0 : UInt8)).length = 0 by simp]
  rw [List.take_replicate, Nat.min_eq_left (by omega), List.take_zero, List.append_nil]
  rw [show A.length + (k - m.length) + m.length = A.length + k by omega, ← List.drop_drop, List.drop_left' rfl, List.drop_left' (by simp)]
  simp

/-- A block of bytes. -/
def Buf (w : World) (G : Nat) (L : List UInt8) : Prop := w.heap[G]? = some (.cells (bcells L).toArray 5)

theorem bcells_set (L : List UInt8) (k : Nat) (b : UInt8) : (bcells L).toArray.setIfInBounds k (.int .u8 (b.toNat : Int)) = (bcells (L.set k b)).toArray := by
  simp [bcells]

theorem Buf.set {w : World} {G : Nat} {L : List UInt8} (h : Buf w G L) (k : Nat) (b : UInt8) : Buf (w.setCell ⟨G, k, none⟩ (.int .u8 (b.toNat : Int))) G (L.set k b) := by
  unfold Buf at *
  rw [← bcells_set]
  exact heap_setCell_same _ _ _ _ _ _ h
theorem Buf.cell {w : World} {G : Nat} {L : List UInt8} (h : Buf w G L) (k : Nat) (hk : k < L.length) : w.cell? ⟨G, k, none⟩ = some (.int .u8 (L[k].toNat : Int)) ∧ w.frozen? ⟨G, k, none⟩ = false := by
  unfold Buf at h
  constructor
  · simp [World.cell?, h, bcells, hk]
  · simp [World.frozen?, h]
theorem Buf.slB {w : World} {G : Nat} {L : List UInt8} (h : Buf w G L) (o : Nat) : SlB w (some ⟨G, o, none⟩) (L.drop o) :=
  ⟨fun h => by simp at h, fun x hx j u hu => by
    simp at hx
    subst hx
    have hj : j < (L.drop o).length := by have := (List.getElem?_eq_some_iff.1 hu).1; simpa [bcells] using this
    have e : (⟨G, o, none⟩ : Addr).add j = ⟨G, o + j, none⟩ := by unfold Addr.add; split <;> simp_all
    rw [e, (h.cell (o + j) (by simp at hj; omega)).1]
    simp [bcells] at hu
    obtain ⟨a, ha, rfl⟩ := hu
    have := (List.getElem?_eq_some_iff.mp ha).2
    rw [this]⟩
theorem Buf.below {w w' : World} {D G : Nat} {L : List UInt8} (h : Buf w G L) (hb : Below D w w') (hD : w.heap.size ≤ D) : Buf w' G L := by
  unfold Buf at *
  rw [hb.block G (Nat.lt_of_lt_of_le (lt_of_blk h) hD)]
  exact h

set_option maxHeartbeats 1000000 in
theorem lay_any (G o k c n : Nat) (L : List UInt8) (w : World) (h : Buf w G L) (hk : o + k ≤ L.length) (h8 : k ≤ 8) :
    Calls Tryd.prog 38 #[.slice (some ⟨G, o, none⟩) k c, .int .u64 (n : Int)] w fun e w' => e = .returned (.tuple #[]) ∧ Buf w' G (over L o (leB n k)) ∧ Touch G none w w' := by
  go_enter Tryd.func38, Tryd.ntmps38
  go_wp2_with fail
  go_loopw [7] (fun i wr => ∃ j : Nat, j ≤ k ∧ i = .int .i64 j ∧ Buf wr G (over L o (leB n j)) ∧ Touch G none w wr) (fun i _ => k - (intOf i).toNat)
  case atStart => exact ⟨0, Nat.zero_le _, rfl, by simpa [leB, over_nil] using h, Touch.refl _ _ _⟩
  case round =>
    obtain ⟨j, hj, rfl, hb, ht⟩ := hrel
    by_cases hlt : j < k
    · have hlen := over_length L o (leB n j) (by rw [leB_length]; omega)
      have hs := over_snoc L o (leB n j) (UInt8.ofNat (n / 256 ^ j)) (by rw [leB_length]; omega)
      rw [leB_length] at hs
      have HS : Hid (over L o (leB n (j + 1)) = (over L o (leB n j)).set (o + j) (UInt8.ofNat (n / 256 ^ j))) := hs.symm
      clear hs
      generalize over L o (leB n j) = M at *
      obtain ⟨c0, f0⟩ := hb.cell (o + j) (by omega)
      have hwr : IntKind.i64.wrap (8 * (j : Int)) = 8 * (j : Int) := by simp [IntKind.wrap, IntKind.bits, IntKind.signed]; omega
      have hk0 : 0 ≤ 8 * (j : Int) := by omega
      have hk1 : 8 * (j : Int) ≤ 64 := by omega
      have HV : Hid ((n : Int) / 2 ^ (8 * j) % 256 = ((UInt8.ofNat (n / 256 ^ j)).toNat : Int)) := by
        show _ = _
        have e : ((2 : Int) ^ (8 * j)) = ((256 ^ j : Nat) : Int) := by rw [Int.pow_mul]; simp
        rw [e]
        simp
      have R := (show Hid _ from hb.set (o + j) (UInt8.ofNat (n / 256 ^ j)))
      have T := (show Hid _ from Touch.setP ht (o + j) (.int .u8 ((UInt8.ofNat (n / 256 ^ j)).toNat : Int)))
      clear hb ht
      go_wp2_with fail
      go_roundw
      case rel => rw [HV.out]; exact ⟨j + 1, by omega, by simp, by rw [HS.out]; exact R.out, T.out⟩
      case measure => first | omega | (simp only [intOf]; omega)
    · obtain rfl : j = k := by omega
      go_wp2
      go_end0
      exact ⟨rfl, hb, ht⟩

theorem bcells_over (L m : List UInt8) (o : Nat) : ((bcells L).toArray.toList.take o ++ bcells m ++ (bcells L).toArray.toList.drop (o + m.length)).toArray = (bcells (over L o m)).toArray := by
  simp [bcells, over]

/-- A text copied over bytes. -/
theorem copy_run (w : World) (G o dLen dCap : Nat) (L m : List UInt8) (h : Buf w G L) (h1 : m.length ≤ dLen) (h2 : o + m.length ≤ L.length) :
    ∃ w', (Builtin.copy_ #[42, 9] 3 #[.slice (some ⟨G, o, none⟩) dLen dCap, .string (txt m)]).run Tryd.prog w = .ok (goInt m.length) w' ∧ Buf w' G (over L o m) ∧ Touch G none w w' := by
  obtain ⟨i0, hi, hz0, hz1, hz2⟩ := info_parts Tryd.info5
  have hinfo : (Tryd.prog.info? 5).map (·.size) = some 1 := by rw [hi]; simp [hz1]
  have es := txt_size m
  have hc := Lib.run_copy_row_string (P := Tryd.prog) w 42 9 3 5 G o dLen dCap (txt m) _ 5 Tryd.underlying42 hinfo h (by omega) (by simp [bcells]; omega)
  rw [es] at hc
  refine ⟨_, hc, ?_, ?_⟩
  · unfold Buf
    rw [setRow_heap _ _ _ _ 5 (0, 0) h, ← bcells_over]
    rfl
  · exact ⟨rfl, rfl, rfl, by simp, fun k _ hk _ => setRow_other _ _ _ _ hk⟩

end Go.Proofs.YtebchgoaelamcaaDoor

namespace Go.Proofs.YtebchgoaelamcaaDoor
open Go.RowKit
set_option maxRecDepth 100000

theorem over_over (L : List UInt8) (o : Nat) (m m' : List UInt8) (h : o + m.length + m'.length ≤ L.length) : over (over L o m) (o + m.length) m' = over L o (m ++ m') := by
  unfold over
  have e1 : (L.take o ++ (m ++ L.drop (o + m.length))) = (L.take o ++ m) ++ L.drop (o + m.length) := by simp
  have e2 : (L.take o ++ m).length = o + m.length := by simp; omega
  rw [e1, List.take_left' e2, ← List.drop_drop, List.drop_left' e2, List.drop_drop]
  simp [Nat.add_assoc]

theorem over_one (L : List UInt8) (o : Nat) (b : UInt8) (h : o < L.length) : L.set o b = over L o [b] := by
  have := over_snoc L o [] b (by simpa using h)
  simpa [over_nil] using this

theorem Touch.of' {w w' : World} {p : Nat} {o : Option Nat} {D : Nat} (h : Below D w w') (hD : w.heap.size ≤ D) : Touch p o w w' := ⟨h.os, h.tape, h.output, h.size, fun k hk _ _ => h.block k (by omega)⟩
theorem Touch.blk {w w' : World} {p k : Nat} {x : Obj} (h : Touch p none w w') (hk : w.heap[k]? = some x) (hne : k ≠ p) : w'.heap[k]? = some x := by
  rw [h.block k (lt_of_blk hk) hne (by simp)]
  exact hk

set_option maxRecDepth 20000 in
set_option maxHeartbeats 2000000 in
theorem layCell_any (G o cap : Nat) (L : List UInt8) (c : Cl) (w : World) (h : Buf w G L) (hu : c.used = true) (hc : 1 ≤ c.key.length ∧ c.key.length ≤ 16 ∧ c.val.length ≤ 32) (ho : o + sizeC c ≤ L.length) (hcap : sizeC c ≤ cap) :
    Calls Tryd.prog 40 #[.slice (some ⟨G, o, none⟩) (sizeC c) cap, .agg (cellV c)] w fun e w' => e = .returned (.tuple #[]) ∧ Buf w' G (over L o (cellB c)) ∧ Touch G none w w' := by
  have hsz : sizeC c = 1 + c.key.length + c.val.length := by simp [sizeC, hu]
  have HCB : Hid (cellB c = [UInt8.ofNat c.key.length] ++ c.key ++ c.val) := by show _ = _; simp [cellB, hu]
  obtain ⟨u, k, v⟩ := c
  simp only at hu hc hsz HCB
  subst hu
  simp only [cellV]
  rw [hsz] at ho hcap ⊢
  clear hsz
  have hG := lt_of_blk h
  obtain ⟨c0, f0⟩ := h.cell o (by omega)
  have e1 := txt_size k
  have e2 := txt_size v
  have hby : ((UInt8.ofNat k.length).toNat : Int) = (k.length : Int) := by simp; omega
  have hb0 := h.set o (UInt8.ofNat k.length)
  have T0 : Touch G none w (w.setCell ⟨G, o, none⟩ (.int .u8 ((UInt8.ofNat k.length).toNat : Int))) := Touch.setP (Touch.refl _ _ _) _ _
  rw [hby] at hb0 T0
  rw [over_one L o _ (by omega)] at hb0
  have hzs : (w.setCell ⟨G, o, none⟩ (.int .u8 (k.length : Int))).heap.size = w.heap.size := by simp
  have hB1 : Below (w.setCell ⟨G, o, none⟩ (.int .u8 (k.length : Int))).heap.size (w.setCell ⟨G, o, none⟩ (.int .u8 (k.length : Int))) ((w.setCell ⟨G, o, none⟩ (.int .u8 (k.length : Int))).alloc (.cells #[.bool true, .string (txt k), .string (txt v)] 55)) := (Below.refl _ _).alloc (Nat.le_refl _) _
  have hb1 := hb0.below hB1 (Nat.le_refl _)
  have T1 := T0.trans (Touch.of hB1)
  have hk1 := heap_alloc_new (w.setCell ⟨G, o, none⟩ (.int .u8 (k.length : Int))) (.cells #[.bool true, .string (txt k), .string (txt v)] 55)
  rw [hzs] at hk1
  have HW := (show Hid (_ ∧ _ ∧ _) from ⟨hb1, T1, hk1⟩)
  clear hb0 T0 hB1 hb1 T1 hk1 hzs
  go_enter Tryd.func40, Tryd.ntmps40
  go_wp2_with fail
  obtain ⟨hb1, T1, hk1⟩ := HW.out
  clear HW h
  generalize ((w.setCell ⟨G, o, none⟩ (.int .u8 (k.length : Int))).alloc (.cells #[.bool true, .string (txt k), .string (txt v)] 55)) = W1 at *
  have HT1 := (show Hid _ from T1)
  have l1 := over_length L o [UInt8.ofNat k.length] (by simp; omega)
  obtain ⟨W2, hc2, hb2, T2⟩ := copy_run W1.drew G (o + 1) (1 + k.length + v.length - 1) (cap - 1) _ k hb1 (by omega) (by omega)
  obtain ⟨q0, q1, q2, _⟩ := cell3 hk1
  have HK2 := (show Hid _ from T2.blk hk1 (by omega))
  have HT2 := (show Hid _ from T2)
  have HB2 := (show Hid _ from hb2)
  clear hb1 T1 hk1 T2 hb2 c0 f0
  refine wp_region_quiet_tail 4 Tryd.mixed (by kernel_rfl) ?_
  simp only [List.take_succ_cons, List.take_zero, List.drop_succ_cons, List.drop_zero]
  repeat (go_big_quiet_step (fail))
  refine wpQuiet_nil ?_
  have hn1 : ¬ cap = 1 := by omega
  have l2 := over_length (over L o [UInt8.ofNat k.length]) (o + 1) k (by omega)
  go_wp2_with fail
  have HR : Hid (over (over (over L o [UInt8.ofNat k.length]) (o + 1) k) (o + (1 + k.length)) v = over L o (cellB ⟨true, k, v⟩)) := by
    show _ = _
    rw [HCB.out]
    have e3 := over_over L o [UInt8.ofNat k.length] k (by simp; omega)
    have e4 := over_over L o ([UInt8.ofNat k.length] ++ k) v (by simp; omega)
    simp only [List.length_singleton, List.length_append] at e3 e4
    rw [e3, e4]
  obtain ⟨q0', q1', q2', _⟩ := cell3 HK2.out
  clear q0 q1 q2 hc2
  have T12 := (show Hid _ from HT1.out.trans (Touch.trans (Touch.of (Below.refl _ _).drew) HT2.out))
  by_cases hcv : cap = 1 + k.length
  · obtain rfl : v = [] := List.eq_nil_of_length_eq_zero (by omega)
    obtain ⟨W3, hc3, hb3, T3⟩ := copy_run W2.drew G o 0 0 _ [] HB2.out (by simp) (by simp; omega)
    have HB3 := (show Hid _ from hb3)
    have HT3 := (show Hid _ from T3)
    clear hb3 T3
    subst hcv
    simp only [List.length_nil] at *
    refine wp_region_quiet_tail 8 Tryd.mixed (by kernel_rfl) ?_
    simp only [List.take_succ_cons, List.take_zero, List.drop_succ_cons, List.drop_zero]
    repeat (go_big_quiet_step (fail))
    refine wpQuiet_nil ?_
    go_wp2
    go_end0
    refine ⟨rfl, ?_, T12.out.trans (Touch.trans (Touch.of (Below.refl _ _).drew) HT3.out)⟩
    rw [← HR.out]
    have := HB3.out
    rw [over_nil] at this ⊢
    exact this
  · obtain ⟨W3, hc3, hb3, T3⟩ := copy_run W2.drew G (o + (1 + k.length)) v.length (cap - (1 + k.length)) _ v HB2.out (by omega) (by omega)
    have HB3 := (show Hid _ from hb3)
    have HT3 := (show Hid _ from T3)
    clear hb3 T3
    refine wp_region_quiet_tail 8 Tryd.mixed (by kernel_rfl) ?_
    simp only [List.take_succ_cons, List.take_zero, List.drop_succ_cons, List.drop_zero]
    repeat (go_big_quiet_step (fail))
    refine wpQuiet_nil ?_
    go_wp2
    go_end0
    refine ⟨rfl, ?_, T12.out.trans (Touch.trans (Touch.of (Below.refl _ _).drew) HT3.out)⟩
    rw [← HR.out]
    exact HB3.out

end Go.Proofs.YtebchgoaelamcaaDoor

namespace Go.Proofs.YtebchgoaelamcaaDoor

/-- The head of a page's bytes, its sum left out. -/
def headP (id lsn n : Nat) : List UInt8 := List.replicate 4 0 ++ (leB lsn 8 ++ (leB id 2 ++ leB n 2))
theorem headP_length (id lsn n : Nat) : (headP id lsn n).length = 16 := by simp [headP, leB_length]

/-- A page's bytes behind its first k slots. -/
def contP (id lsn : Nat) (l : List Cl) (k : Nat) : List UInt8 :=
  (headP id lsn l.length ++ layS 512 (l.take k)) ++ (List.replicate (496 - 4 * k - sumC (l.take k)) 0 ++ layC (l.take k))

theorem room_take (l : List Cl) (h : 0 ≤ freeL l) (k : Nat) (hk : k ≤ l.length) : 4 * k + sumC (l.take k) ≤ 496 := by
  have := sumC_le l k
  unfold freeL at h
  omega

theorem contP_length (id lsn : Nat) (l : List Cl) (h : 0 ≤ freeL l) (k : Nat) (hk : k ≤ l.length) : (contP id lsn l k).length = 512 := by
  have := room_take l h k hk
  simp [contP, headP_length, layS_length, layC_length]
  omega

theorem cont_zero (id lsn : Nat) (l : List Cl) : over (over (over (List.replicate 512 0) 4 (leB lsn 8)) 12 (leB id 2)) 14 (leB l.length 2) = contP id lsn l 0 := by
  have h1 := over_front (List.replicate 4 0) [] (leB lsn 8) 508 (by simp [leB_length])
  have h2 := over_front (List.replicate 4 0 ++ leB lsn 8) [] (leB id 2) 500 (by simp [leB_length])
  have h3 := over_front ((List.replicate 4 0 ++ leB lsn 8) ++ leB id 2) [] (leB l.length 2) 498 (by simp [leB_length])
  simp only [List.length_append, List.length_replicate, leB_length] at h1 h2 h3
  have e0 : List.replicate 512 (0 : UInt8) = List.replicate 4 0 ++ (List.replicate 508 0 ++ []) := by rw [List.append_nil, List.replicate_append_replicate]
  rw [e0, h1, h2, h3]
  have e9 : (498 - 2 : Nat) = 496 - 4 * 0 - sumC (l.take 0) := by simp [sumC]
  rw [e9]
  unfold contP headP
  generalize List.replicate (496 - 4 * 0 - sumC (l.take 0)) (0 : UInt8) = R
  generalize List.replicate 4 (0 : UInt8) = F
  simp [layS, layC]

theorem cont_free (id lsn : Nat) (l : List Cl) (h : 0 ≤ freeL l) (k : Nat) (hk : k < l.length) (hu : l[k].used = false) : contP id lsn l (k + 1) = contP id lsn l k := by
  have hr := room_take l h (k + 1) hk
  have hs := sumC_take l k hk
  have hz : sizeC l[k] = 0 := by simp [sizeC, hu]
  have et : l.take (k + 1) = l.take k ++ [l[k]] := by rw [List.take_add_one, List.getElem?_eq_getElem hk]; rfl
  unfold contP
  rw [hs, hz, et, layS_append, layC_append]
  have e1 : layS (512 - sumC (l.take k)) [l[k]] = List.replicate 4 0 := by simp [layS, hu, leB, List.replicate]
  have e2 : layC [l[k]] = [] := by simp [layC, cellB, hu]
  rw [e1, e2]
  have e3 : List.replicate (496 - 4 * k - sumC (l.take k)) (0 : UInt8) = List.replicate 4 0 ++ List.replicate (496 - 4 * (k + 1) - (sumC (l.take k) + 0)) 0 := by
    rw [List.replicate_append_replicate]
    congr 1
    omega
  rw [e3]
  simp

theorem cont_used (id lsn : Nat) (l : List Cl) (h : 0 ≤ freeL l) (k : Nat) (hk : k < l.length) (hu : l[k].used = true) (bg : Nat) (hb : bg + sizeC l[k] = 512 - sumC (l.take k)) :
    over (over (over (contP id lsn l k) bg (cellB l[k])) (16 + 4 * k) (leB bg 2)) (16 + 4 * k + 2) (leB (sizeC l[k]) 2) = contP id lsn l (k + 1) := by
  have hr := room_take l h (k + 1) hk
  have hs := sumC_take l k hk
  have hc := cellB_length l[k]
  have et : l.take (k + 1) = l.take k ++ [l[k]] := by rw [List.take_add_one, List.getElem?_eq_getElem hk]; rfl
  have htk : (l.take k).length = k := by simp; omega
  have hA : (headP id lsn l.length ++ layS 512 (l.take k)).length = 16 + 4 * k := by simp [headP_length, layS_length]; omega
  unfold contP
  rw [hs, et, layS_append, layC_append]
  have e1 : layS (512 - sumC (l.take k)) [l[k]] = leB bg 2 ++ leB (sizeC l[k]) 2 := by
    simp only [layS, hu, if_true, List.append_nil]
    congr 2
    omega
  have e2 : layC [l[k]] = cellB l[k] := by simp [layC]
  rw [e1, e2]
  generalize hAe : headP id lsn l.length ++ layS 512 (l.take k) = A at *
  generalize layC (l.take k) = Z at *
  generalize cellB l[k] = M at *
  have s1 := over_back A Z M (496 - 4 * k - sumC (l.take k)) (by omega)
  rw [show A.length + (496 - 4 * k - sumC (l.take k) - M.length) = bg by omega] at s1
  have s2 := over_front A (M ++ Z) (leB bg 2) (496 - 4 * k - sumC (l.take k) - M.length) (by rw [leB_length]; omega)
  rw [hA] at s2
  have s3 := over_front (A ++ leB bg 2) (M ++ Z) (leB (sizeC l[k]) 2) (496 - 4 * k - sumC (l.take k) - M.length - (leB bg 2).length) (by rw [leB_length, leB_length]; omega)
  rw [List.length_append, hA, leB_length] at s3
  rw [leB_length] at s2
  rw [s1, s2, s3]
  simp only [leB_length, List.append_assoc]
  rw [show 496 - 4 * k - sumC (l.take k) - M.length - 2 - 2 = 496 - 4 * (k + 1) - (sumC (l.take k) + sizeC l[k]) by omega]
  rw [← hAe]
  simp only [List.append_assoc]

theorem cont_end (id lsn : Nat) (l : List Cl) : over (contP id lsn l l.length) 0 (leB (more 0 ((contP id lsn l l.length).drop 4)) 4) = pageB id lsn l := by
  have e : contP id lsn l l.length = List.replicate 4 0 ++ bodyP id lsn l := by
    simp [contP, headP, bodyP, List.append_assoc]
  have ed : (contP id lsn l l.length).drop 4 = bodyP id lsn l := by
    rw [e]
    exact List.drop_left' (by simp)
  rw [ed]
  unfold over pageB
  rw [leB_length, Nat.zero_add, ed]
  simp

end Go.Proofs.YtebchgoaelamcaaDoor

namespace Go.Proofs.YtebchgoaelamcaaDoor
open Go.RowKit
set_option maxRecDepth 100000

/-- The table behind k rounds. -/
def tabc (k : Nat) : Array Value := Array.ofFn (n := 16) fun j => .int .u32 ((if j.val < k then zrun 4 j.val else 0 : Nat) : Int)

theorem tabc_size (k : Nat) : (tabc k).size = 16 := by simp [tabc]
theorem tabc_at (k j : Nat) (h : j < 16) : (tabc k)[j]? = some (.int .u32 ((if j < k then zrun 4 j else 0 : Nat) : Int)) := by
  simp [tabc, h]
theorem tabc_zero : tabc 0 = Array.replicate 16 (.int .u32 0) := by rfl
theorem tabc_set (k : Nat) (h : k < 16) : (tabc k).setIfInBounds k (.int .u32 ((zrun 4 k : Nat) : Int)) = tabc (k + 1) := by
  apply Array.ext_getElem?
  intro i
  by_cases hi : i < 16
  · rw [tabc_at (k + 1) i hi, Array.getElem?_setIfInBounds]
    by_cases e : k = i
    · subst e
      simp [tabc_size, h]
    · rw [if_neg e, tabc_at k i hi]
      by_cases h2 : i < k
      · simp [h2, show i < k + 1 by omega]
      · simp [h2, show ¬ i < k + 1 by omega]
  · simp [tabc_size, hi]

/-- The whole table, written out. -/
def tab : Array Value := #[.int .u32 0, .int .u32 274646895, .int .u32 549293790, .int .u32 820201905, .int .u32 1098587580, .int .u32 1361435347, .int .u32 1640403810, .int .u32 1905808397, .int .u32 2197175160, .int .u32 2460548119, .int .u32 2722870694, .int .u32 2987750089, .int .u32 3280807620, .int .u32 3553878443, .int .u32 3811616794, .int .u32 4084100981]
theorem tab_eq : tabc 16 = tab := by rfl
theorem tabz_eq : tabc 0 = #[.int .u32 0, .int .u32 0, .int .u32 0, .int .u32 0, .int .u32 0, .int .u32 0, .int .u32 0, .int .u32 0, .int .u32 0, .int .u32 0, .int .u32 0, .int .u32 0, .int .u32 0, .int .u32 0, .int .u32 0, .int .u32 0] := by rfl

/-- One bit, as the program takes it. -/
theorem nib_step (r : Nat) (h : r < 4294967296) : bits .xor .u32 ((r : Int) / 2) (bits .and .u32 (r : Int) 1 * 2197175160 % 4294967296) = ((zstep r : Nat) : Int) := by
  have e1 : bits .and .u32 (r : Int) 1 = ((r % 2 : Nat) : Int) := by
    have := u32_and_nat r 1 h (by omega)
    rw [nat_mask1] at this
    exact this
  rw [e1]
  have e2 : ((r % 2 : Nat) : Int) * 2197175160 % 4294967296 = ((if r % 2 = 1 then poly else 0 : Nat) : Int) := by
    rcases Nat.mod_two_eq_zero_or_one r with h | h <;> simp [h, poly]
  rw [e2]
  have := u32_xor_nat (r / 2) (if r % 2 = 1 then poly else 0) (by omega) (by split <;> simp [poly])
  simpa [zstep] using this

theorem heap_second (w : World) (a b : Obj) : ((w.alloc a).alloc b).heap[w.heap.size]? = some a := by
  have h := ((Below.refl (w.heap.size + 1) (w.alloc a)).alloc (by simp) b).block w.heap.size (by omega)
  rw [h]
  exact heap_alloc_new w a

theorem nibbles_any (w : World) : Calls Tryd.prog 83 #[] w fun e w' => e = .returned (.agg tab) ∧ Below w.heap.size w w' := by
  go_enter Tryd.func83, Tryd.ntmps83
  go_wp2_with fail
  go_loopw [5] (fun i ws => ∃ k : Nat, k ≤ 16 ∧ i = .int .i64 k ∧ ws = (w.alloc (.cells (tabc 0) 128)).alloc (.cells (tabc k) 128)) (fun i _ => 16 - (intOf i).toNat)
  case atStart => exact ⟨0, by omega, rfl, by rw [tabc_zero]; rfl⟩
  case round =>
    obtain ⟨k, hk, rfl, rfl⟩ := hrel
    by_cases hlt : k < 16
    · obtain ⟨T, HT, hT⟩ : ∃ T, Hid (T = tabc k) ∧ T[k]? = some (.int .u32 0) := ⟨_, rfl, by rw [tabc_at k k hlt]; simp⟩
      obtain ⟨Z, HZ⟩ : ∃ Z, Hid (Z = tabc 0) := ⟨_, rfl⟩
      rw [← HT.out, ← HZ.out]
      go_wp2
      go_loopw [3, 10] (fun r i ws => ∃ j : Nat, j ≤ 4 ∧ r = .int .u32 ((zrun j k : Nat) : Int) ∧ i = .int .i64 j ∧ ws = (w.alloc (.cells Z 128)).alloc (.cells T 128)) (fun _ i _ => 4 - (intOf i).toNat)
      case atStart => exact ⟨0, by omega, rfl, rfl, rfl⟩
      case round =>
        obtain ⟨j, hj, rfl, rfl, rfl⟩ := hrel
        by_cases hjl : j < 4
        · have hst := nib_step (zrun j k) (zrun_lt j k (by omega))
          rw [← zrun_succ] at hst
          generalize zrun j k = r at *
          go_wp2
          go_roundw
          case rel => exact ⟨j + 1, by omega, rfl, by go_num, by trivial⟩
          case measure => simp [intOf]; omega
        · obtain ⟨z, hz⟩ : ∃ z, Hid (z = zrun 4 k) ∧ zrun j k = z := ⟨_, rfl, by rw [show j = 4 by omega]⟩
          rw [hz.2]
          obtain ⟨hz, hz2⟩ := hz
          clear hz2
          go_wp2
          go_roundw
          case rel => exact ⟨k + 1, by omega, by go_num, by rw [HT.out, HZ.out, hz.out, tabc_set k hlt]⟩
          case measure => simp [intOf]; omega
    · have e16 : tabc k = tab := by rw [show k = 16 by omega, tab_eq]
      rw [e16, tabz_eq]
      unfold tab
      go_wp2
      refine bodyPost_ret (v := .agg tab) ?_ rfl ⟨rfl, ?_⟩
      · exact results_cell_row (P := Tryd.prog) Tryd.results83 _ _ w.heap.size 128 tab (0, 0) _ rfl (heap_second w _ _) Tryd.underlying128 rfl (by kernel_rfl)
      · exact ((Below.refl _ _).alloc (Nat.le_refl _) _).alloc (by simp) _
end Go.Proofs.YtebchgoaelamcaaDoor

namespace Go.Proofs.YtebchgoaelamcaaDoor
open Go.RowKit
set_option maxRecDepth 100000

theorem SlB.atc {w : World} {g o : Nat} {sp : Option Nat} {l : List UInt8} (h : SlB w (some ⟨g, o, sp⟩) l) (j : Nat) (hj : j < l.length) : sp = none ∧ w.cell? ⟨g, o + j, none⟩ = some (.int .u8 ((l[j]'hj).toNat : Nat)) := by
  have h0 := h.cells _ rfl 0 (.int .u8 ((l[0]'(by omega)).toNat : Nat)) (by simp [bcells, List.getElem?_eq_getElem (show 0 < l.length by omega)])
  have hs := World.cell?_spot h0
  obtain rfl : sp = none := by simpa [Addr.add] using hs
  refine ⟨rfl, ?_⟩
  have := h.cells _ rfl j (.int .u8 ((l[j]'hj).toNat : Nat)) (by simp [bcells, List.getElem?_eq_getElem hj])
  rw [← this]
  congr 1
  unfold Addr.add
  split <;> simp_all

/-- Four bits by the table, as the program takes them. -/
theorem nib_look (r : Nat) (h : r < 4294967296) : ∃ m t : Nat, bits .and .u32 (r : Int) 15 = (m : Int) ∧ m < 16 ∧ tab[m]? = some (.int .u32 (t : Int)) ∧ bits .xor .u32 ((r : Int) / 16) (t : Int) = ((zrun 4 r : Nat) : Int) := by
  refine ⟨r % 16, zrun 4 (r % 16), ?_, by omega, ?_, ?_⟩
  · have := u32_and_nat r 15 h (by omega)
    rw [nat_mask4] at this
    exact this
  · rw [← tab_eq, tabc_at 16 _ (by omega)]
    simp [show r % 16 < 16 by omega]
  · have := u32_xor_nat (r / 16) (zrun 4 (r % 16)) (by omega) (zrun_lt _ _ (by omega))
    rw [zrun_table 4 r, Nat.xor_comm]
    simpa using this

theorem not_u32 (s : Nat) (h : s < 4294967296) : bits .xor .u32 IntKind.u32.max (s : Int) = ((4294967295 - s : Nat) : Int) := by
  have := u32_xor_nat 4294967295 s (by omega) h
  rw [Nat.xor_comm, ← not32 s h] at this
  exact this

theorem crun_snoc (n : Nat) (l : List UInt8) (b : UInt8) : crun n (l ++ [b]) = zrun 4 (zrun 4 (crun n l ^^^ b.toNat)) := by
  rw [crun_append, ← zrun_add]
  rfl

theorem more_any (s : Nat) (a : Option Addr) (c : Nat) (l : List UInt8) (w : World) (hsl : SlB w a l) (hs : s < 4294967296) (hl : l.length ≤ maxLen) :
    Calls Tryd.prog 67 #[.int .u32 (s : Int), .slice a l.length c] w fun e w' => e = .returned (.int .u32 ((more s l : Nat) : Int)) ∧ Below w.heap.size w w' := by
  unfold maxLen at hl
  go_enter Tryd.func67, Tryd.ntmps67
  go_wp2_with fail
  refine (nibbles_any _).mono ?_
  rintro e w1 ⟨rfl, hb1⟩
  unfold tab
  go_wp2_with fail
  rw [not_u32 s hs]
  generalize hw2 : w1.alloc (.cells _ 128) = w2
  generalize Value.agg _ = t9
  have hb2 : Below w.heap.size w w2 := by rw [← hw2]; exact hb1.alloc hb1.size _
  have htab : ∀ m t : Nat, tab[m]? = some (.int .u32 (t : Int)) → w2.cell? ⟨w1.heap.size, m, none⟩ = some (.int .u32 (t : Int)) := by
    intro m t hm
    rw [← hw2]
    have hh : (w1.alloc (.cells tab 128)).heap[w1.heap.size]? = some (.cells tab 128) := heap_alloc_new w1 _
    have : (w1.alloc (.cells tab 128)).cell? ⟨w1.heap.size, m, none⟩ = some (.int .u32 (t : Int)) := by
      simp only [World.cell?, hh]
      rw [hm]
      rfl
    exact this
  have hg1 : w1.heap.size < w2.heap.size := by rw [← hw2]; simp
  have h2 : SlB w2 a l := hsl.below hb2
  generalize w1.heap.size = g1 at *
  clear hw2 hsl hb1
  have HB : Hid (Below w.heap.size w w2) := hb2
  clear hb2
  go_loop [6, 14] (fun r i => ∃ k : Nat, k ≤ l.length ∧ r = .int .u32 ((crun (4294967295 - s) (l.take k) : Nat) : Int) ∧ i = .int .i64 k) (fun _ i => l.length - (intOf i).toNat)
  case atStart => exact ⟨0, by omega, rfl, rfl⟩
  case round =>
    obtain ⟨k, hk, rfl, rfl⟩ := hrel
    by_cases hlt : k < l.length
    · cases a with
      | none => have := h2.nonil rfl; subst this; simp at hlt
      | some x =>
        obtain ⟨g, o, sp⟩ := x
        obtain ⟨rfl, hcell⟩ := h2.atc k hlt
        have hg := World.block_lt_of_cell? _ _ hcell
        have hr := crun_lt (4294967295 - s) (l.take k) (by omega)
        obtain ⟨r', Hr⟩ : ∃ r', Hid (r' = crun (4294967295 - s) (l.take (k + 1))) := ⟨_, rfl⟩
        have Hs : Hid (r' = zrun 4 (zrun 4 (crun (4294967295 - s) (l.take k) ^^^ l[k].toNat))) := by
          show _ = _
          rw [Hr.out, List.take_succ_eq_append_getElem hlt, crun_snoc]
        have hb := l[k].toNat_lt
        have hx := u32_xor_nat (crun (4294967295 - s) (l.take k)) l[k].toNat hr (by omega)
        have hq : crun (4294967295 - s) (l.take k) ^^^ l[k].toNat < 4294967296 := Nat.xor_lt_two_pow (n := 32) hr (by omega)
        generalize crun (4294967295 - s) (l.take k) ^^^ l[k].toNat = q at *
        generalize crun (4294967295 - s) (l.take k) = r at *
        generalize l[k].toNat = b at *
        go_wp2
        go_loop [6, 22] (fun r i => ∃ j : Nat, j ≤ 2 ∧ r = .int .u32 ((zrun (4 * j) q : Nat) : Int) ∧ i = .int .i64 j) (fun _ i => 2 - (intOf i).toNat)
        case atStart => exact ⟨0, by omega, rfl, rfl⟩
        case round =>
          obtain ⟨j, hj, rfl, rfl⟩ := hrel
          by_cases hjl : j < 2
          · have hz := zrun_lt (4 * j) q hq
            obtain ⟨m, t, hm, hm16, hmt, hmx⟩ := nib_look _ hz
            have hcm := htab m t hmt
            have Hz : Hid (zrun 4 (zrun (4 * j) q) = zrun (4 * (j + 1)) q) := by show _ = _; rw [← zrun_add]; rfl
            generalize zrun 4 (zrun (4 * j) q) = z' at *
            generalize zrun (4 * j) q = z at *
            clear hcell hmt htab hx
            go_wp2
            go_round
            case rel => exact ⟨j + 1, by omega, by rw [Hz.out], by go_num⟩
            case measure => simp [intOf]; omega
          · have e : zrun (4 * j) q = r' := by rw [Hs.out, show j = 2 by omega, ← zrun_add]
            rw [e]
            go_wp2
            go_round
            case rel => exact ⟨k + 1, by omega, by rw [Hr.out], by go_num⟩
            case measure => simp [intOf]; omega
    · have e : l.take k = l := List.take_of_length_le (by omega)
      rw [e]
      go_wp2
      go_ret
      refine ⟨?_, HB.out⟩
      rw [not_u32 _ (crun_lt _ _ (by omega))]
      rfl
theorem sum_any (a : Option Addr) (c : Nat) (l : List UInt8) (w : World) (hsl : SlB w a l) (hl : l.length ≤ maxLen) :
    Calls Tryd.prog 42 #[.slice a l.length c] w fun e w' => e = .returned (.int .u32 ((more 0 l : Nat) : Int)) ∧ Below w.heap.size w w' := by
  have hc := more_any 0 a c l w hsl (by omega) hl
  go_enter Tryd.func42, Tryd.ntmps42
  go_wp2_with fail
  refine hc.mono ?_
  rintro e w1 ⟨rfl, hb1⟩
  go_wp2
  go_ret
  exact ⟨rfl, hb1⟩

end Go.Proofs.YtebchgoaelamcaaDoor

