/-
  layCell.
-/
import Derived.Test.YtebchgoaelamcaaDoorBa
namespace Go.Proofs.YtebchgoaelamcaaDoor
open Go.RowKit
set_option maxRecDepth 100000

theorem over_over (L : List UInt8) (o : Nat) (m m' : List UInt8) (h : o + m.length + m'.length ≤ L.length) : over (over L o m) (o + m.length) m' = over L o (m ++ m') := by
  unfold over
  have e1 : (L.take o ++ (m ++ L.drop (o + m.length))) = (L.take o ++ m) ++ L.drop (o + m.length) := by simp
  have e2 : (L.take o ++ m).length = o + m.length := by simp; omega
  rw [e1, List.take_left' e2, ← List.drop_drop, List.drop_left' e2, List.drop_drop]
  simp [Nat.add_assoc]

theorem over_one (L : List UInt8) (o : Nat) (b : UInt8) (h : o < L.length) : L.set o b = over L o [b] := by
  have := over_snoc L o [] b (by simpa using h)
  simpa [over_nil] using this

theorem Touch.of' {w w' : World} {p : Nat} {o : Option Nat} {D : Nat} (h : Below D w w') (hD : w.heap.size ≤ D) : Touch p o w w' := ⟨h.os, h.tape, h.output, h.size, fun k hk _ _ => h.block k (by omega)⟩
theorem Touch.blk {w w' : World} {p k : Nat} {x : Obj} (h : Touch p none w w') (hk : w.heap[k]? = some x) (hne : k ≠ p) : w'.heap[k]? = some x := by
  rw [h.block k (lt_of_blk hk) hne (by simp)]
  exact hk

set_option maxRecDepth 20000 in
set_option maxHeartbeats 2000000 in
theorem layCell_any (G o cap : Nat) (L : List UInt8) (c : Cl) (w : World) (h : Buf w G L) (hu : c.used = true) (hc : 1 ≤ c.key.length ∧ c.key.length ≤ 16 ∧ c.val.length ≤ 32) (ho : o + sizeC c ≤ L.length) (hcap : sizeC c ≤ cap) :
    Calls Tryd.prog 40 #[.slice (some ⟨G, o, none⟩) (sizeC c) cap, .agg (cellV c)] w fun e w' => e = .returned (.tuple #[]) ∧ Buf w' G (over L o (cellB c)) ∧ Touch G none w w' := by
  have hsz : sizeC c = 1 + c.key.length + c.val.length := by simp [sizeC, hu]
  have HCB : Hid (cellB c = [UInt8.ofNat c.key.length] ++ c.key ++ c.val) := by show _ = _; simp [cellB, hu]
  obtain ⟨u, k, v⟩ := c
  simp only at hu hc hsz HCB
  subst hu
  simp only [cellV]
  rw [hsz] at ho hcap ⊢
  clear hsz
  have hG := lt_of_blk h
  obtain ⟨c0, f0⟩ := h.cell o (by omega)
  have e1 := txt_size k
  have e2 := txt_size v
  have hby : ((UInt8.ofNat k.length).toNat : Int) = (k.length : Int) := by simp; omega
  have hb0 := h.set o (UInt8.ofNat k.length)
  have T0 : Touch G none w (w.setCell ⟨G, o, none⟩ (.int .u8 ((UInt8.ofNat k.length).toNat : Int))) := Touch.setP (Touch.refl _ _ _) _ _
  rw [hby] at hb0 T0
  rw [over_one L o _ (by omega)] at hb0
  have hzs : (w.setCell ⟨G, o, none⟩ (.int .u8 (k.length : Int))).heap.size = w.heap.size := by simp
  have hB1 : Below (w.setCell ⟨G, o, none⟩ (.int .u8 (k.length : Int))).heap.size (w.setCell ⟨G, o, none⟩ (.int .u8 (k.length : Int))) ((w.setCell ⟨G, o, none⟩ (.int .u8 (k.length : Int))).alloc (.cells #[.bool true, .string (txt k), .string (txt v)] 55)) := (Below.refl _ _).alloc (Nat.le_refl _) _
  have hb1 := hb0.below hB1 (Nat.le_refl _)
  have T1 := T0.trans (Touch.of hB1)
  have hk1 := heap_alloc_new (w.setCell ⟨G, o, none⟩ (.int .u8 (k.length : Int))) (.cells #[.bool true, .string (txt k), .string (txt v)] 55)
  rw [hzs] at hk1
  have HW := (show Hid (_ ∧ _ ∧ _) from ⟨hb1, T1, hk1⟩)
  clear hb0 T0 hB1 hb1 T1 hk1 hzs
  go_enter Tryd.func40, Tryd.ntmps40
  go_wp2_with fail
  obtain ⟨hb1, T1, hk1⟩ := HW.out
  clear HW h
  generalize ((w.setCell ⟨G, o, none⟩ (.int .u8 (k.length : Int))).alloc (.cells #[.bool true, .string (txt k), .string (txt v)] 55)) = W1 at *
  have HT1 := (show Hid _ from T1)
  have l1 := over_length L o [UInt8.ofNat k.length] (by simp; omega)
  obtain ⟨W2, hc2, hb2, T2⟩ := copy_run W1.drew G (o + 1) (1 + k.length + v.length - 1) (cap - 1) _ k hb1 (by omega) (by omega)
  obtain ⟨q0, q1, q2, _⟩ := cell3 hk1
  have HK2 := (show Hid _ from T2.blk hk1 (by omega))
  have HT2 := (show Hid _ from T2)
  have HB2 := (show Hid _ from hb2)
  clear hb1 T1 hk1 T2 hb2 c0 f0
  refine wp_region_quiet_tail 4 Tryd.mixed (by kernel_rfl) ?_
  simp only [List.take_succ_cons, List.take_zero, List.drop_succ_cons, List.drop_zero]
  repeat (go_big_quiet_step (fail))
  refine wpQuiet_nil ?_
  have hn1 : ¬ cap = 1 := by omega
  have l2 := over_length (over L o [UInt8.ofNat k.length]) (o + 1) k (by omega)
  go_wp2_with fail
  have HR : Hid (over (over (over L o [UInt8.ofNat k.length]) (o + 1) k) (o + (1 + k.length)) v = over L o (cellB ⟨true, k, v⟩)) := by
    show _ = _
    rw [HCB.out]
    have e3 := over_over L o [UInt8.ofNat k.length] k (by simp; omega)
    have e4 := over_over L o ([UInt8.ofNat k.length] ++ k) v (by simp; omega)
    simp only [List.length_singleton, List.length_append] at e3 e4
    rw [e3, e4]
  obtain ⟨q0', q1', q2', _⟩ := cell3 HK2.out
  clear q0 q1 q2 hc2
  have T12 := (show Hid _ from HT1.out.trans (Touch.trans (Touch.of (Below.refl _ _).drew) HT2.out))
  by_cases hcv : cap = 1 + k.length
  · obtain rfl : v = [] := List.eq_nil_of_length_eq_zero (by omega)
    obtain ⟨W3, hc3, hb3, T3⟩ := copy_run W2.drew G o 0 0 _ [] HB2.out (by simp) (by simp; omega)
    have HB3 := (show Hid _ from hb3)
    have HT3 := (show Hid _ from T3)
    clear hb3 T3
    subst hcv
    simp only [List.length_nil] at *
    refine wp_region_quiet_tail 8 Tryd.mixed (by kernel_rfl) ?_
    simp only [List.take_succ_cons, List.take_zero, List.drop_succ_cons, List.drop_zero]
    repeat (go_big_quiet_step (fail))
    refine wpQuiet_nil ?_
    go_wp2
    go_end0
    refine ⟨rfl, ?_, T12.out.trans (Touch.trans (Touch.of (Below.refl _ _).drew) HT3.out)⟩
    rw [← HR.out]
    have := HB3.out
    rw [over_nil] at this ⊢
    exact this
  · obtain ⟨W3, hc3, hb3, T3⟩ := copy_run W2.drew G (o + (1 + k.length)) v.length (cap - (1 + k.length)) _ v HB2.out (by omega) (by omega)
    have HB3 := (show Hid _ from hb3)
    have HT3 := (show Hid _ from T3)
    clear hb3 T3
    refine wp_region_quiet_tail 8 Tryd.mixed (by kernel_rfl) ?_
    simp only [List.take_succ_cons, List.take_zero, List.drop_succ_cons, List.drop_zero]
    repeat (go_big_quiet_step (fail))
    refine wpQuiet_nil ?_
    go_wp2
    go_end0
    refine ⟨rfl, ?_, T12.out.trans (Touch.trans (Touch.of (Below.refl _ _).drew) HT3.out)⟩
    rw [← HR.out]
    exact HB3.out

end Go.Proofs.YtebchgoaelamcaaDoor
