/-
  Send.
-/
import Derived.Test.YtfdpmffoajjchaaMg
namespace Go.Proofs.Ytfdpmffoajjchaa
open Go.RowKit Go.Conc

theorem chan_nil_in (w : World) (d : Nat) (c : Option Nat) : (Op.equalIn (d + 1) 66 (.chan c) (.chan none)).run Try.prog w = .ok c.isNone w := by
  cases c <;> simp [Op.equalIn, run_underlying Try.underlying66]
theorem chan_nil (w : World) (c : Option Nat) : (binOp .eql 66 (.chan c) (.chan none)).run Try.prog w = .ok (.bool c.isNone) w := by
  have h : (Op.equal 66 (.chan c) (.chan none)).run Try.prog w = .ok c.isNone w := chan_nil_in w 9999 c
  simp only [binOp]
  simp [h]


set_option maxRecDepth 100000 in
theorem send_no (w : World) (a : Value) (f t : Int) (m : Ms) (p : Pl) (hb : ∀ W, Below w.heap.size w W → Calls Try.prog 26 #[a, .int .i64 f, .int .i64 t] W fun e w' => e = .returned (.chan none) ∧ w' = W) :
    Calls Try.prog 12 #[a, .int .i64 f, .int .i64 t, msV m p] w fun e w' => e = .returned (.int .i64 1) ∧ Below w.heap.size w w' := by
  have HB := toHid (hb (w.alloc (.cells (msC m p) 31)) ((Below.refl _ _).alloc (Nat.le_refl _) _))
  clear hb
  have hcn := chan_nil
  refine calls_of_wpN Try.func12 rfl ?_
  simp only [Try.ntmps12, List.size_toArray, List.length_cons, List.length_nil, Nat.reduceAdd, Nat.reduceSub, Array.replicate_succ, Array.replicate_zero, List.push_toArray, List.append_toArray, List.nil_append, List.cons_append]
  refine wpN_seq_k fun K hK => ?_
  go_wp2_with fail
  refine wpN_seq_k fun K hK => ?_
  go_wp2_with (go_at_call 26; refine Calls.mono HB.out ?_; rintro e w' ⟨rfl, hw⟩; obtain rfl := hw.symm)
  refine wpN_seq_k fun K hK => ?_
  go_wp2_with fail
  go_ret
  exact ⟨rfl, (Below.refl _ _).alloc (Nat.le_refl _) _⟩

theorem send_nil (w : World) (f t : Int) (m : Ms) (p : Pl) : Calls Try.prog 12 #[.pointer none, .int .i64 f, .int .i64 t, msV m p] w fun e w' => e = .returned (.int .i64 1) ∧ Below w.heap.size w w' :=
  send_no w _ f t m p fun W _ => between_nil W f t

theorem send_none {w : World} {s n : Nat} {R : Nat → List Nat} (h : NetOk w s n R) (f t : Int) (hr : rix n f t = none) (m : Ms) (p : Pl) : Calls Try.prog 12 #[netP s n, .int .i64 f, .int .i64 t, msV m p] w fun e w' => e = .returned (.int .i64 1) ∧ Below w.heap.size w w' :=
  send_no w _ f t m p fun W hW => by have := between_any W s n R (h.below hW) f t; rw [hr] at this; exact this

set_option maxRecDepth 100000 in
set_option maxHeartbeats 1000000 in
theorem send_full {w : World} {s n k : Nat} {R : Nat → List Nat} (h : NetOk w s n R) (f t : Int) (hr : rix n f t = some k) (hl : (R k).length = 256) (m : Ms) (p : Pl) (hm : MI w m p) (hL : Lim m) :
    Calls Try.prog 12 #[netP s n, .int .i64 f, .int .i64 t, msV m p] w fun e w' => e = .returned (.int .i64 7) ∧ NetOk w' s n R ∧ Tn s n w w' := by
  have hk := rix_lt hr
  have hb0 : Below w.heap.size w (w.alloc (.cells (msC m p) 31)) := (Below.refl _ _).alloc (Nat.le_refl _) _
  have HB := toHid (between_any _ s n R (h.below hb0) f t)
  rw [hr] at HB
  simp only [rowV, Option.map_some] at HB
  have HC := toHid (copied28 m p _ (hm.below hb0) hL)
  have HL := toHid hl
  have HK := toHid hk
  have HN := toHid h
  have HB0 := toHid hb0
  obtain ⟨q0, q1, q2, q3, q4, q5, q6, q7, q8, qf⟩ := cell9 (heap_alloc_new w (.cells (msC m p) 31))
  clear hr hl hk h hm hL hb0
  have hcn := chan_nil
  refine calls_of_wpN Try.func12 rfl ?_
  simp only [Try.ntmps12, List.size_toArray, List.length_cons, List.length_nil, Nat.reduceAdd, Nat.reduceSub, Array.replicate_succ, Array.replicate_zero, List.push_toArray, List.append_toArray, List.nil_append, List.cons_append]
  refine wpN_seq_k fun K hK => ?_
  go_wp2_with fail
  refine wpN_seq_k fun K hK => ?_
  go_wp2_with (go_at_call 26; refine Calls.mono HB.out ?_; rintro e w' ⟨rfl, hw⟩; obtain rfl := hw.symm)
  refine wpN_seq_k fun K hK => ?_
  go_wp2_with fail
  refine wpN_seq_k fun K hK => ?_
  go_wp2_with (go_at_call 28; refine Calls.mono HC.out ?_; rintro e w1 ⟨p1, rfl, hO, hB1⟩; have HO := toHid hO; have HB1 := toHid hB1; clear hO hB1; clear q0 q1 q2 q3 q4 q5 q6 q7 q8 qf; obtain ⟨wa1, wc1, pa1, pc1⟩ := p1)
  have HBw : Hid (Below w.heap.size w w1) := HB0.out.trans (HB1.out.mono (by simp))
  have HB2 : Hid (Below w1.heap.size w1 (w1.alloc (.cells (msC m ⟨wa1, wc1, pa1, pc1⟩) 31))) := (Below.refl _ _).alloc (Nat.le_refl _) _
  have HN2 : Hid (NetOk (w1.alloc (.cells (msC m ⟨wa1, wc1, pa1, pc1⟩) 31)) s n R) := ((HN.out.below HBw.out).below HB2.out)
  have HM2 : Hid ((w1.alloc (.cells (msC m ⟨wa1, wc1, pa1, pc1⟩) 31)).heap[w1.heap.size]? = some (.cells (msC m ⟨wa1, wc1, pa1, pc1⟩) 31)) := heap_alloc_new _ _
  generalize hw2 : w1.alloc (.cells (msC m ⟨wa1, wc1, pa1, pc1⟩) 31) = w2 at HB2 HN2 HM2 ⊢
  clear hw2
  refine wpN_seq_k fun K hK => ?_
  go_wp2_with fail
  obtain ⟨sn, rc, hc⟩ := HN2.out.ch k HK.out
  refine wpN_seqN_k fun K hK => ?_
  refine wpN_region_first (v := .tuple #[goInt (-1), .bool false]) (w' := w2) (w'' := w2) (cases := #[scase (chb s n k) (.pointer (some ⟨w1.heap.size, 0, none⟩)) (.pointer none)]) (blocking := false) (shape := .select) rfl (by simp [go_sem, execOp, scase, Act.eval]) (fun fr cs es h => step_lone_select_send_full h hc (by have := HL.out; simp [ptrs_length]; omega)) ?_
  go_wp2_with fail
  refine wpN_block (wpN_of ?_)
  go_wp2_with fail
  go_ret
  exact ⟨rfl, HN2.out, (Tn.below HBw.out).trans (Tn.below HB2.out)⟩

set_option maxRecDepth 100000 in
set_option maxHeartbeats 1000000 in
theorem send_room {w : World} {s n k : Nat} {R : Nat → List Nat} (h : NetOk w s n R) (f t : Int) (hr : rix n f t = some k) (hl : (R k).length < 256) (m : Ms) (p : Pl) (hm : MI w m p) (hL : Lim m) :
    Calls Try.prog 12 #[netP s n, .int .i64 f, .int .i64 t, msV m p] w fun e w' => e = .returned (.int .i64 0) ∧ ∃ b p', NetOk w' s n (upd R k (R k ++ [b])) ∧ w'.heap[b]? = some (.cells (msC m p') 31) ∧ Own w' w.heap.size m p' ∧ w.heap.size ≤ b ∧ Tn s n w w' := by
  have hk := rix_lt hr
  have hb0 : Below w.heap.size w (w.alloc (.cells (msC m p) 31)) := (Below.refl _ _).alloc (Nat.le_refl _) _
  have HB := toHid (between_any _ s n R (h.below hb0) f t)
  rw [hr] at HB
  simp only [rowV, Option.map_some] at HB
  have HC := toHid (copied28 m p _ (hm.below hb0) hL)
  have HL := toHid hl
  have HK := toHid hk
  have HN := toHid h
  have HB0 := toHid hb0
  obtain ⟨q0, q1, q2, q3, q4, q5, q6, q7, q8, qf⟩ := cell9 (heap_alloc_new w (.cells (msC m p) 31))
  clear hr hl hk h hm hL hb0
  have hcn := chan_nil
  refine calls_of_wpN Try.func12 rfl ?_
  simp only [Try.ntmps12, List.size_toArray, List.length_cons, List.length_nil, Nat.reduceAdd, Nat.reduceSub, Array.replicate_succ, Array.replicate_zero, List.push_toArray, List.append_toArray, List.nil_append, List.cons_append]
  refine wpN_seq_k fun K hK => ?_
  go_wp2_with fail
  refine wpN_seq_k fun K hK => ?_
  go_wp2_with (go_at_call 26; refine Calls.mono HB.out ?_; rintro e w' ⟨rfl, hw⟩; obtain rfl := hw.symm)
  refine wpN_seq_k fun K hK => ?_
  go_wp2_with fail
  refine wpN_seq_k fun K hK => ?_
  go_wp2_with (go_at_call 28; refine Calls.mono HC.out ?_; rintro e w1 ⟨p1, rfl, hO, hB1⟩; have HO := toHid hO; have HB1 := toHid hB1; clear hO hB1; clear q0 q1 q2 q3 q4 q5 q6 q7 q8 qf; obtain ⟨wa1, wc1, pa1, pc1⟩ := p1)
  have HBw : Hid (Below w.heap.size w w1) := HB0.out.trans (HB1.out.mono (by simp))
  have HB2 : Hid (Below w1.heap.size w1 (w1.alloc (.cells (msC m ⟨wa1, wc1, pa1, pc1⟩) 31))) := (Below.refl _ _).alloc (Nat.le_refl _) _
  have HN2 : Hid (NetOk (w1.alloc (.cells (msC m ⟨wa1, wc1, pa1, pc1⟩) 31)) s n R) := ((HN.out.below HBw.out).below HB2.out)
  have HM2 : Hid ((w1.alloc (.cells (msC m ⟨wa1, wc1, pa1, pc1⟩) 31)).heap[w1.heap.size]? = some (.cells (msC m ⟨wa1, wc1, pa1, pc1⟩) 31)) := heap_alloc_new _ _
  generalize hw2 : w1.alloc (.cells (msC m ⟨wa1, wc1, pa1, pc1⟩) 31) = w2 at HB2 HN2 HM2 ⊢
  clear hw2
  refine wpN_seq_k fun K hK => ?_
  go_wp2_with fail
  obtain ⟨sn, rc, hc⟩ := HN2.out.ch k HK.out
  refine wpN_seqN_k fun K hK => ?_
  have hset : (ptrs (R k)).toArray.push (.pointer (some ⟨w1.heap.size, 0, none⟩)) = (ptrs (R k ++ [w1.heap.size])).toArray := by simp [ptrs, ptr]
  have HN3 := toHid (HN2.out.set HK.out (R k ++ [w1.heap.size]) (by have := HL.out; simp; omega) (sn + 1) rc)
  have HT3 := toHid (Tn.setChan (s := s) w2 HK.out 256 (ptrs (R k ++ [w1.heap.size])).toArray false (sn + 1) rc false)
  refine wpN_region_first (v := .tuple #[goInt 0, .bool false]) (w' := w2) (w'' := w2.setChan (chb s n k) 256 (ptrs (R k ++ [w1.heap.size])).toArray false (sn + 1) rc false) (cases := #[scase (chb s n k) (.pointer (some ⟨w1.heap.size, 0, none⟩)) (.pointer none)]) (blocking := false) (shape := .select) rfl (by simp [go_sem, execOp, scase, Act.eval]) (fun fr cs es h => by rw [← hset]; exact step_lone_select_send_room h hc (by have := HL.out; simp [ptrs_length]; omega)) ?_
  clear hset
  generalize hw3 : w2.setChan (chb s n k) 256 (ptrs (R k ++ [w1.heap.size])).toArray false (sn + 1) rc false = w3 at HN3 HT3 ⊢
  clear hw3
  go_wp2_with fail
  refine wpN_block (wpN_of ?_)
  go_wp2_with fail
  go_ret
  have hk23 : KeepC w2 w3 := fun i c t fz hc => by rw [HT3.out.keep i (Array.getElem?_eq_some_iff.1 hc).1 (HN2.out.cells' hc)]; exact hc
  refine ⟨rfl, w1.heap.size, ⟨wa1, wc1, pa1, pc1⟩, HN3.out, hk23 _ _ _ _ HM2.out, ?_, HBw.out.size, ((Tn.below HBw.out).trans (Tn.below HB2.out)).trans HT3.out⟩
  exact ((HO.out.low (by simp)).keep (KeepC.below HB2.out)).keep hk23

end Go.Proofs.Ytfdpmffoajjchaa
