/-
  The walk of Decode.
-/
import Derived.Test.YtjhjicokbdloiaaDe
namespace Go.Proofs.Ytjhjicokbdloiaa
open Go.RowKit

theorem two_kept {w w' : World} {A B : Obj} (hb : Below (w.heap.size + 2) ((w.alloc A).alloc B) w') : w'.heap[w.heap.size]? = some A ∧ w'.heap[w.heap.size + 1]? = some B := by
  refine ⟨?_, ?_⟩
  · rw [hb.block _ (by omega), Below.heap_alloc _ _ _ (by simp)]
    exact heap_alloc_new w A
  · rw [hb.block _ (by omega)]
    have := heap_alloc_new (w.alloc A) B
    simpa using this

set_option maxRecDepth 20000 in
set_option maxHeartbeats 2000000 in
theorem decode_any (a : Option Addr) (c : Nat) (l : List UInt8) (w : World) (hsl : SlB w a l) (hl : l.length ≤ 140737488355328) (hnil : a = none → c = 0) :
    Calls Try.prog 18 #[.slice a l.length c] w fun e w' => ∃ ta tc da dc, e = .returned (.tuple #[recV (decR l) ta tc da dc, .int .i64 (decE l)]) ∧
      w'.ownsRow w.heap.size 71 3 (.slice ta (decR l).txns.length tc) (decR l).txns.length (txsC (decR l).txns) ∧ w'.ownsRow w.heap.size 73 2 (.slice da (decR l).dirty.length dc) (decR l).dirty.length (disC (decR l).dirty) ∧ Below w.heap.size w w' := by
  have hmf : ∀ (fn : Fn) (first cap : Array Value) (w : World), (Instr.makeFunc fn first cap).run Try.prog w = .ok (.func fn first cap) w := fun _ _ _ _ => rfl
  have HB : Hid (Below w.heap.size w ((w.alloc (.cells #[.int .i64 0, .int .u64 0, .int .i64 0, .int .u64 0, .int .u64 0, .int .i64 0, .int .i64 0, .string ⟨#[]⟩, .string ⟨#[]⟩, .string ⟨#[]⟩, .slice none 0 0, .slice none 0 0] 31)).alloc (.cells #[.int .i64 0] 35))) := ((Below.refl _ _).alloc (Nat.le_refl _) _).alloc (by simp) _
  have HRd := (show Hid _ from read_any a c l _ (hsl.below HB.out) hl hnil)
  clear hsl
  go_enter_defers Try.func18, Try.ntmps18
  go_wp2_with fail
  refine Calls.mono HRd.out ?_
  rintro e w3 ⟨p, a3, c3, rfl, hr3, hb3⟩
  have hb3' : Below (w.heap.size + 2) ((w.alloc (.cells #[.int .i64 0, .int .u64 0, .int .i64 0, .int .u64 0, .int .u64 0, .int .i64 0, .int .i64 0, .string ⟨#[]⟩, .string ⟨#[]⟩, .string ⟨#[]⟩, .slice none 0 0, .slice none 0 0] 31)).alloc (.cells #[.int .i64 0] 35)) w3 := by simpa using hb3
  have hr3' : ROk w3 (w.heap.size + 2) p a3 c3 l 0 := by simpa using hr3
  have HTk := (show Hid _ from taken_any (w.heap.size + 2) p (l, 0) w3 ⟨a3, c3, hr3'⟩ hr3'.base (lt_of_block hr3'.blk))
  have hz3 : w.heap.size + 2 ≤ w3.heap.size := by have := hb3'.size; simpa using this
  clear HRd hb3 hr3 hr3'
  go_wp2_with fail
  refine Calls.mono HTk.out ?_
  rintro e w4 ⟨ta, tc, da, dc, rfl, ho1, ho2, hb4⟩
  have hb34 := hb3'.trans hb4
  have HB4 : Hid (Below w.heap.size w w4) := HB.out.trans (hb34.mono (by omega))
  obtain ⟨hn0, hn1⟩ := two_kept hb34
  have hz4 : w.heap.size + 1 < w4.heap.size := lt_of_block hn1
  have hz40 : w.heap.size < w4.heap.size := by omega
  clear hb3' hb4 hb34 HTk
  cases hE : endB (l, 0)
  · have hK : Hid (decK l = false) := by show _ = _; unfold decK; rw [hE, Bool.false_and]
    have e1 : endT false (recV (rawS (l, 0)).2 ta tc da dc) = .panicked [noRec] := rfl
    rw [e1]
    clear hE e1
    obtain ⟨⟨m0, m1, m2, m3, m4, m5, m6, m7, m8, m9, m10, m11⟩, hf⟩ := rw_cells hn0
    have hc := cell_of_one hn1
    go_wp2
    refine leaves_cons (f := 44) (args := #[.pointer (some ⟨w.heap.size, 0, none⟩), .pointer (some ⟨w.heap.size + 1, 0, none⟩)]) (by simp) (by simp [go_sem]) ?_
    refine (dcatch_panicking w.heap.size (w.heap.size + 1) 0 _ _ _ _ _ _ _ _ _ _ _ _ [] _ hn0 hn1 (by omega)).mono ?_
    rintro e u' w'' ⟨rfl, rfl, rfl⟩
    have HF : Hid (Below w.heap.size w ((put12 w4 w.heap.size (.int .i64 0) (.int .u64 0) (.int .i64 0) (.int .u64 0) (.int .u64 0) (.int .i64 0) (.int .i64 0) (.string ⟨#[]⟩) (.string ⟨#[]⟩) (.string ⟨#[]⟩) (.slice none 0 0) (.slice none 0 0)).setCell ⟨w.heap.size + 1, 0, none⟩ (.int .i64 5))) := (set12_below (.int .i64 0) (.int .u64 0) (.int .i64 0) (.int .u64 0) (.int .u64 0) (.int .i64 0) (.int .i64 0) (.string ⟨#[]⟩) (.string ⟨#[]⟩) (.string ⟨#[]⟩) (.slice none 0 0) (.slice none 0 0) HB4.out (Nat.le_refl _)).setCell (by simp) _
    have HD : Hid (decR l = Rc.zero ∧ decE l = 5) := by show _ ∧ _; unfold decR decE; rw [hK.out]; exact ⟨rfl, rfl⟩
    simp [Leaves, settle, results, Try.results18, go_sem, hc, m0, m1, m2, m3, m4, m5, m6, m7, m8, m9, m10, m11]
    refine ⟨none, 0, none, 0, ?_⟩
    rw [HD.out.1, HD.out.2]
    exact ⟨⟨⟨rfl, rfl, rfl, rfl, rfl, rfl, rfl, rfl, rfl, rfl, ⟨rfl, rfl, rfl⟩, rfl, rfl, rfl⟩, rfl⟩, World.ownsRow_nil _ _ _ _, World.ownsRow_nil _ _ _ _, HF.out⟩
  · obtain ⟨R, HR⟩ : ∃ x, Hid (x = (rawS (l, 0)).2) := ⟨_, rfl⟩
    have hK : Hid (decK l = mayB R) := by show _ = _; unfold decK; rw [hE, Bool.true_and, HR.out]
    have e1 : endT true (recV (rawS (l, 0)).2 ta tc da dc) = .returned (recV (rawS (l, 0)).2 ta tc da dc) := rfl
    rw [e1]
    rw [← HR.out] at ho1 ho2 ⊢
    clear hE e1
    obtain ⟨⟨m0, m1, m2, m3, m4, m5, m6, m7, m8, m9, m10, m11⟩, hf⟩ := rw_cells hn0
    have hb5 := set12_below (n := w.heap.size) (.int .i64 R.kind) (.int .u64 (R.lsn : Int)) (.int .i64 R.txn) (.int .u64 (R.prev : Int)) (.int .u64 (R.undo : Int)) (.int .i64 R.page) (.int .i64 R.ak) (.string (txt R.key)) (.string (txt R.old)) (.string (txt R.new)) (.slice ta R.txns.length tc) (.slice da R.dirty.length dc) HB4.out (Nat.le_refl _)
    have ho15 := set12_own (n := w.heap.size) (.int .i64 R.kind) (.int .u64 (R.lsn : Int)) (.int .i64 R.txn) (.int .u64 (R.prev : Int)) (.int .u64 (R.undo : Int)) (.int .i64 R.page) (.int .i64 R.ak) (.string (txt R.key)) (.string (txt R.old)) (.string (txt R.new)) (.slice ta R.txns.length tc) (.slice da R.dirty.length dc) ho1 (by omega)
    have ho25 := set12_own (n := w.heap.size) (.int .i64 R.kind) (.int .u64 (R.lsn : Int)) (.int .i64 R.txn) (.int .u64 (R.prev : Int)) (.int .u64 (R.undo : Int)) (.int .i64 R.page) (.int .i64 R.ak) (.string (txt R.key)) (.string (txt R.old)) (.string (txt R.new)) (.slice ta R.txns.length tc) (.slice da R.dirty.length dc) ho2 (by omega)
    have hn05 := set12 (.int .i64 R.kind) (.int .u64 (R.lsn : Int)) (.int .i64 R.txn) (.int .u64 (R.prev : Int)) (.int .u64 (R.undo : Int)) (.int .i64 R.page) (.int .i64 R.ak) (.string (txt R.key)) (.string (txt R.old)) (.string (txt R.new)) (.slice ta R.txns.length tc) (.slice da R.dirty.length dc) hn0
    have hn15 := (set12_other (W := w4) (n := w.heap.size) (.int .i64 R.kind) (.int .u64 (R.lsn : Int)) (.int .i64 R.txn) (.int .u64 (R.prev : Int)) (.int .u64 (R.undo : Int)) (.int .i64 R.page) (.int .i64 R.ak) (.string (txt R.key)) (.string (txt R.old)) (.string (txt R.new)) (.slice ta R.txns.length tc) (.slice da R.dirty.length dc) (w.heap.size + 1) (by omega)).trans hn1
    obtain ⟨Y, HY⟩ : ∃ Y, Y = put12 w4 w.heap.size (.int .i64 R.kind) (.int .u64 (R.lsn : Int)) (.int .i64 R.txn) (.int .u64 (R.prev : Int)) (.int .u64 (R.undo : Int)) (.int .i64 R.page) (.int .i64 R.ak) (.string (txt R.key)) (.string (txt R.old)) (.string (txt R.new)) (.slice ta R.txns.length tc) (.slice da R.dirty.length dc) := ⟨_, rfl⟩
    unfold put12 at HY
    rw [← HY] at hb5 ho15 ho25 hn05 hn15
    obtain ⟨hT, hTl⟩ := slT_of_own ho15
    obtain ⟨hD, hDl⟩ := slD_of_own ho25
    have HMB := (show Hid _ from mustBe_any R ta tc da dc Y hT hD hTl hDl)
    have HO1 := (show Hid _ from ho15)
    have HO2 := (show Hid _ from ho25)
    have HB5 := (show Hid _ from hb5)
    have HN0 := (show Hid _ from hn05)
    have HN1 := (show Hid _ from hn15)
    clear hT hD hTl hDl ho15 ho25 hb5 hn05 hn15 ho1 ho2
    go_wp2_with fail
    rw [← HY]
    clear HY m0 m1 m2 m3 m4 m5 m6 m7 m8 m9 m10 m11 hf hn0 hn1 HB4 hz4 hz40
    have hY0 : w.heap.size < Y.heap.size := lt_of_block HN0.out
    have hY1 : w.heap.size + 1 < Y.heap.size := lt_of_block HN1.out
    refine parts HMB.out (fun hb w6 hw6 => ?_) (fun hb w6 hw6 => ?_)
    · have hn0 := hw6.block _ hY0 ▸ HN0.out
      have hn1 := hw6.block _ hY1 ▸ HN1.out
      have HB6 : Hid (Below w.heap.size w w6) := below_on HB5.out hw6
      obtain ⟨⟨k0, k1, k2, k3, k4, k5, k6, k7, k8, k9, k10, k11⟩, hf⟩ := rw_cells hn0
      have hc := cell_of_one hn1
      have HD : Hid (decR l = Rc.zero ∧ decE l = 5) := by show _ ∧ _; unfold decR decE; rw [hK.out, hb.out]; exact ⟨rfl, rfl⟩
      go_wp2
      refine leaves_cons (f := 44) (args := #[.pointer (some ⟨w.heap.size, 0, none⟩), .pointer (some ⟨w.heap.size + 1, 0, none⟩)]) (by simp) (by simp [go_sem]) ?_
      refine (dcatch_panicking w.heap.size (w.heap.size + 1) 0 _ _ _ _ _ _ _ _ _ _ _ _ [] _ hn0 hn1 (by omega)).mono ?_
      rintro e u' w'' ⟨rfl, rfl, rfl⟩
      have HF : Hid (Below w.heap.size w ((put12 w6 w.heap.size (.int .i64 0) (.int .u64 0) (.int .i64 0) (.int .u64 0) (.int .u64 0) (.int .i64 0) (.int .i64 0) (.string ⟨#[]⟩) (.string ⟨#[]⟩) (.string ⟨#[]⟩) (.slice none 0 0) (.slice none 0 0)).setCell ⟨w.heap.size + 1, 0, none⟩ (.int .i64 5))) := (set12_below (.int .i64 0) (.int .u64 0) (.int .i64 0) (.int .u64 0) (.int .u64 0) (.int .i64 0) (.int .i64 0) (.string ⟨#[]⟩) (.string ⟨#[]⟩) (.string ⟨#[]⟩) (.slice none 0 0) (.slice none 0 0) HB6.out (Nat.le_refl _)).setCell (by simp) _
      simp [Leaves, settle, results, Try.results18, go_sem, hc, k0, k1, k2, k3, k4, k5, k6, k7, k8, k9, k10, k11]
      refine ⟨none, 0, none, 0, ?_⟩
      rw [HD.out.1, HD.out.2]
      exact ⟨⟨⟨rfl, rfl, rfl, rfl, rfl, rfl, rfl, rfl, rfl, rfl, ⟨rfl, rfl, rfl⟩, rfl, rfl, rfl⟩, rfl⟩, World.ownsRow_nil _ _ _ _, World.ownsRow_nil _ _ _ _, HF.out⟩
    · have hn0 := hw6.block _ hY0 ▸ HN0.out
      have hn1 := hw6.block _ hY1 ▸ HN1.out
      have HB6 : Hid (Below w.heap.size w w6) := below_on HB5.out hw6
      have HP1 := (show Hid _ from ownsRow_below HO1.out hw6 (ownsRow_lt HO1.out))
      have HP2 := (show Hid _ from ownsRow_below HO2.out hw6 (ownsRow_lt HO2.out))
      obtain ⟨⟨k0, k1, k2, k3, k4, k5, k6, k7, k8, k9, k10, k11⟩, hf⟩ := rw_cells hn0
      have hc := cell_of_one hn1
      have hfc := free_of_one hn1
      have HD : Hid (decR l = R ∧ decE l = 0) := by show _ ∧ _; unfold decR decE; rw [hK.out, hb.out, HR.out]; exact ⟨rfl, rfl⟩
      have hz6 : w.heap.size + 1 < w6.heap.size := lt_of_block hn1
      have hz60 : w.heap.size < w6.heap.size := by omega
      go_wp2
      refine leaves_cons (f := 44) (args := #[.pointer (some ⟨w.heap.size, 0, none⟩), .pointer (some ⟨w.heap.size + 1, 0, none⟩)]) (by simp) (by simp [go_sem]) ?_
      refine (dcatch_idle ⟨w.heap.size, 0, none⟩ ⟨w.heap.size + 1, 0, none⟩ _).mono ?_
      rintro e u' w'' ⟨rfl, rfl, rfl⟩
      have HF : Hid (Below w.heap.size w ((put12 w6 w.heap.size (.int .i64 R.kind) (.int .u64 (R.lsn : Int)) (.int .i64 R.txn) (.int .u64 (R.prev : Int)) (.int .u64 (R.undo : Int)) (.int .i64 R.page) (.int .i64 R.ak) (.string (txt R.key)) (.string (txt R.old)) (.string (txt R.new)) (.slice ta R.txns.length tc) (.slice da R.dirty.length dc)).setCell ⟨w.heap.size + 1, 0, none⟩ (.int .i64 0))) := (set12_below (.int .i64 R.kind) (.int .u64 (R.lsn : Int)) (.int .i64 R.txn) (.int .u64 (R.prev : Int)) (.int .u64 (R.undo : Int)) (.int .i64 R.page) (.int .i64 R.ak) (.string (txt R.key)) (.string (txt R.old)) (.string (txt R.new)) (.slice ta R.txns.length tc) (.slice da R.dirty.length dc) HB6.out (Nat.le_refl _)).setCell (by simp) _
      have HG1 : Hid (((put12 w6 w.heap.size (.int .i64 R.kind) (.int .u64 (R.lsn : Int)) (.int .i64 R.txn) (.int .u64 (R.prev : Int)) (.int .u64 (R.undo : Int)) (.int .i64 R.page) (.int .i64 R.ak) (.string (txt R.key)) (.string (txt R.old)) (.string (txt R.new)) (.slice ta R.txns.length tc) (.slice da R.dirty.length dc)).setCell ⟨w.heap.size + 1, 0, none⟩ (.int .i64 0)).ownsRow w.heap.size 71 3 (.slice ta R.txns.length tc) R.txns.length (txsC R.txns)) :=
        ownsRow_base (ownsRow_setCell_other (set12_own (.int .i64 R.kind) (.int .u64 (R.lsn : Int)) (.int .i64 R.txn) (.int .u64 (R.prev : Int)) (.int .u64 (R.undo : Int)) (.int .i64 R.page) (.int .i64 R.ak) (.string (txt R.key)) (.string (txt R.old)) (.string (txt R.new)) (.slice ta R.txns.length tc) (.slice da R.dirty.length dc) HP1.out (by omega)) (a := ⟨w.heap.size + 1, 0, none⟩) (fun e => by have := (own_ge HP1.out _ e).1; simp at this; omega) _) (show w.heap.size ≤ w3.heap.size by omega)
      have HG2 : Hid (((put12 w6 w.heap.size (.int .i64 R.kind) (.int .u64 (R.lsn : Int)) (.int .i64 R.txn) (.int .u64 (R.prev : Int)) (.int .u64 (R.undo : Int)) (.int .i64 R.page) (.int .i64 R.ak) (.string (txt R.key)) (.string (txt R.old)) (.string (txt R.new)) (.slice ta R.txns.length tc) (.slice da R.dirty.length dc)).setCell ⟨w.heap.size + 1, 0, none⟩ (.int .i64 0)).ownsRow w.heap.size 73 2 (.slice da R.dirty.length dc) R.dirty.length (disC R.dirty)) :=
        ownsRow_base (ownsRow_setCell_other (set12_own (.int .i64 R.kind) (.int .u64 (R.lsn : Int)) (.int .i64 R.txn) (.int .u64 (R.prev : Int)) (.int .u64 (R.undo : Int)) (.int .i64 R.page) (.int .i64 R.ak) (.string (txt R.key)) (.string (txt R.old)) (.string (txt R.new)) (.slice ta R.txns.length tc) (.slice da R.dirty.length dc) HP2.out (by omega)) (a := ⟨w.heap.size + 1, 0, none⟩) (fun e => by have := (own_ge HP2.out _ e).1; simp at this; omega) _) (show w.heap.size ≤ w3.heap.size by omega)
      simp [Leaves, settle, results, Try.results18, go_sem, hc, k0, k1, k2, k3, k4, k5, k6, k7, k8, k9, k10, k11]
      refine ⟨ta, tc, da, dc, ?_⟩
      rw [HD.out.1, HD.out.2]
      exact ⟨⟨⟨rfl, rfl, rfl, rfl, rfl, rfl, rfl, rfl, rfl, rfl, ⟨rfl, rfl, rfl⟩, rfl, rfl, rfl⟩, rfl⟩, HG1.out, HG2.out, HF.out⟩

end Go.Proofs.Ytjhjicokbdloiaa
