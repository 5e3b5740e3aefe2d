/-
  The walk of the document's Decode.
-/
import Derived.Test.YtjhjicokbdloiaaFb
import Derived.Test.YtjhjicokbdloiaaDy
import Derived.Laws.ResultCell
namespace Go.Proofs.Ytjhjicokbdloiaa
open Go.RowKit

theorem te_any (S : ByteArray) (k : Nat) (s : St) (w : World) (hS : S.size ≤ maxLen) (hk : k ≤ S.size) (hs : s.1 = S.data.toList.drop k) :
    Calls Try.prog 50 #[.agg #[.string S, .int .i64 k, .int .i64 s.2]] w fun e w' => e = .returned (.int .i64 (endOf s.1 s.2)) ∧ Below w.heap.size w w' := by
  have h := rend_ref S k s.2 w hS hk
  rw [← hs] at h
  exact h
theorem QW.put12 {w0 w : World} {Z : List (Nat × Obj)} {p q k : Nat} {S : ByteArray} {s : St} {z0 z1 z2 z3 z4 z5 z6 z7 z8 z9 z10 z11 : Value} (v0 v1 v2 v3 v4 v5 v6 v7 v8 v9 v10 v11 : Value) (h : QW w0 w Z p q S k s #[z0, z1, z2, z3, z4, z5, z6, z7, z8, z9, z10, z11]) :
    QW w0 (put12 w q v0 v1 v2 v3 v4 v5 v6 v7 v8 v9 v10 v11) Z p q S k s #[v0, v1, v2, v3, v4, v5, v6, v7, v8, v9, v10, v11] :=
  ⟨h.le, h.at_, (set12_other v0 v1 v2 v3 v4 v5 v6 v7 v8 v9 v10 v11 p h.ne).trans h.rd, set12 v0 v1 v2 v3 v4 v5 v6 v7 v8 v9 v10 v11 h.blk, h.ne, h.hp, h.hq, fun x hx => ⟨(set12_other v0 v1 v2 v3 v4 v5 v6 v7 v8 v9 v10 v11 _ (h.zs x hx).2.2).trans (h.zs x hx).1, (h.zs x hx).2⟩, set12_below v0 v1 v2 v3 v4 v5 v6 v7 v8 v9 v10 v11 h.bel h.hq⟩
theorem three_new' (w : World) (A B C : Obj) : (((w.alloc A).alloc B).alloc C).heap[w.heap.size]? = some A ∧ (((w.alloc A).alloc B).alloc C).heap[w.heap.size + 1]? = some B ∧ (((w.alloc A).alloc B).alloc C).heap[w.heap.size + 1 + 1]? = some C := by
  have hA := heap_alloc_new w A
  have hB := heap_alloc_new (w.alloc A) B
  have hC := heap_alloc_new ((w.alloc A).alloc B) C
  simp only [World.size_alloc] at hB hC
  refine ⟨?_, ?_, hC⟩
  · rw [Below.heap_alloc _ _ _ (by simp; omega), Below.heap_alloc _ _ _ (by simp)]; exact hA
  · rw [Below.heap_alloc _ _ _ (by simp)]; exact hB
theorem QW.start3 (w : World) (S : ByteArray) (cs : Array Value) :
    QW w (((w.alloc (.cells (recC Rc.zero none 0 none 0) 31)).alloc (.cells cs 31)).alloc (.cells #[.string S, .int .i64 ((0 : Nat) : Int), .int .i64 0] 78)) [(w.heap.size, Obj.cells (recC Rc.zero none 0 none 0) 31)] (w.heap.size + 1 + 1) (w.heap.size + 1) S 0 (S.data.toList, 0) cs := by
  obtain ⟨a, b, c⟩ := three_new' w (.cells (recC Rc.zero none 0 none 0) 31) (.cells cs 31) (.cells #[.string S, .int .i64 ((0 : Nat) : Int), .int .i64 0] 78)
  refine ⟨Nat.zero_le _, by simp, c, b, by omega, by omega, by omega, ?_, (((Below.refl _ w).alloc (Nat.le_refl _) _).alloc (by simp) _).alloc (by simp; omega) _⟩
  intro x hx
  simp only [List.mem_cons, List.not_mem_nil, or_false] at hx
  subst hx
  exact ⟨a, by show _ ≠ _ + 1 + 1; omega, by show _ ≠ _ + 1; omega⟩
theorem results_one {fn : Func} (h : fn.results = #[.cell 2 31, .tmp 3]) (tmps : Array Value) {w : World} {a : Nat} {v0 v1 v2 v3 v4 v5 v6 v7 v8 v9 v10 v11 : Value} (ha : tmps.getD 2 undef = .pointer (some ⟨a, 0, none⟩))
    (h2 : w.heap[a]? = some (.cells #[v0, v1, v2, v3, v4, v5, v6, v7, v8, v9, v10, v11] 31)) : (results fn tmps).run Try.prog w = .ok (.tuple #[.agg #[v0, v1, v2, v3, v4, v5, v6, v7, v8, v9, v10, v11], tmps.getD 3 undef]) w := by
  have e2 := run_loadVar_row (P := Try.prog) w a 31 31 #[v0, v1, v2, v3, v4, v5, v6, v7, v8, v9, v10, v11] (0, 0) _ h2 Try.underlying31 rfl (by kernel_rfl)
  have e3 : (asAddr (.pointer (some ⟨a, 0, none⟩))).run Try.prog w = .ok ⟨a, 0, none⟩ w := rfl
  rw [results_cell_tmp h, ha, e3]
  simp only [Result.andThen, e2]
theorem own12 {W : World} {D n : Nat} {e : TypeId} {size : Nat} {v : Value} {m : Nat} {xs : List Value} {cs : Array Value} (v0 v1 v2 v3 v4 v5 v6 v7 v8 v9 v10 v11 : Value) (h : W.ownsRow D e size v m xs) (he : e ≠ 31) (ha : W.heap[n]? = some (.cells cs 31)) : (put12 W n v0 v1 v2 v3 v4 v5 v6 v7 v8 v9 v10 v11).ownsRow D e size v m xs := by
  refine ⟨h.1, ?_⟩
  rcases h.2 with h2 | ⟨g, cap, cur, hv, hD, hh, r⟩
  · exact .inl h2
  · refine .inr ⟨g, cap, cur, hv, hD, ?_, r⟩
    rw [set12_other v0 v1 v2 v3 v4 v5 v6 v7 v8 v9 v10 v11 g (fun e0 => ?_)]
    · exact hh
    · subst e0
      rw [hh] at ha
      simp at ha
      exact he ha.2

theorem tab_len (s : St) (r : Rc) (h1 : r.txns = []) (h2 : r.dirty = []) : (tabR s r).txns.length + (tabR s r).dirty.length ≤ 512 := by
  have b1 := rN_bd 1 s
  have b2 := rN_bd 1 (txsS (rN 1 s) (sN 1 s))
  simp only [Nat.reducePow] at b1 b2
  simp only [tabR, h1, h2, List.nil_append, txsR_length, disR_length]
  omega

/-- What is at the end: a record and the error, in block a. -/
def DecP (w : World) (l : List UInt8) (e : Ending) (w' : World) : Prop := ∃ ta tc da dc, e = .returned (.tuple #[recV (decR l) ta tc da dc, .int .i64 (decE l)]) ∧
  w'.ownsRow w.heap.size 71 3 (.slice ta (decR l).txns.length tc) (decR l).txns.length (txsC (decR l).txns) ∧ w'.ownsRow w.heap.size 73 2 (.slice da (decR l).dirty.length dc) (decR l).dirty.length (disC (decR l).dirty) ∧ Below w.heap.size w w'
theorem decP_no {w w' : World} {l : List UInt8} {v : Value} (h : decK l = false) (hv : v = .tuple #[recV Rc.zero none 0 none 0, .int .i64 5]) (hb : Below w.heap.size w w') : DecP w l (.returned v) w' := by
  have e1 : decR l = Rc.zero := by unfold decR; rw [h]; rfl
  have e2 : decE l = 5 := by unfold decE; rw [h]; rfl
  unfold DecP
  rw [e1, e2]
  exact ⟨none, 0, none, 0, by rw [hv], World.ownsRow_nil _ _ _ _, World.ownsRow_nil _ _ _ _, hb⟩
theorem decP_yes {w w' : World} {l : List UInt8} {v : Value} {r : Rc} {ta : Option Addr} {tc : Nat} {da : Option Addr} {dc : Nat} (h : decK l = true) (hr : (rawS (l, 0)).2 = r) (hv : v = .tuple #[recV r ta tc da dc, .int .i64 0])
    (h1 : w'.ownsRow w.heap.size 71 3 (.slice ta r.txns.length tc) r.txns.length (txsC r.txns)) (h2 : w'.ownsRow w.heap.size 73 2 (.slice da r.dirty.length dc) r.dirty.length (disC r.dirty)) (hb : Below w.heap.size w w') : DecP w l (.returned v) w' := by
  have e1 : decR l = r := by unfold decR; rw [h, ← hr]; rfl
  have e2 : decE l = 0 := by unfold decE; rw [h]; rfl
  unfold DecP
  rw [e1, e2]
  exact ⟨ta, tc, da, dc, by rw [hv], h1, h2, hb⟩

set_option maxRecDepth 20000 in
set_option maxHeartbeats 4000000 in
theorem refdecode_any (S : ByteArray) (w : World) (hS : S.size ≤ maxLen) :
    Calls Try.prog 19 #[.string S] w fun e w' => DecP w S.data.toList e w' := by
  obtain ⟨s0, Hs0⟩ : ∃ x : St, Hid (x = (S.data.toList, 0)) := ⟨_, rfl⟩
  have H0 : Hid _ := QW.start3 w S (recC Rc.zero none 0 none 0)
  have hk : 0 ≤ S.size := Nat.zero_le _
  have hs : ((S.data.toList, 0) : St).1 = S.data.toList.drop 0 := rfl
  have a1 := rN_bd 1 s0
  have a4 := rN_bd 4 (sN 8 (sN 1 s0))
  simp only [Nat.reducePow] at a1 a4
  go_enter Try.func19, Try.ntmps19
  go_wp2_with fail
  refine Calls.mono (tk_any S 0 1 (S.data.toList, 0) _ hS hk hs (by decide) (by decide)) ?_
  rintro e w1 ⟨kw1, hkw1, hsw1, rfl, hb⟩
  have h := H0.out.call hb
  rw [← Hs0.out] at hsw1 h ⊢
  obtain ⟨⟨c0, c1, c2⟩, f0, f1, f2⟩ := h.cells
  obtain ⟨⟨q0, q1, q2, q3, q4, q5, q6, q7, q8, q9, q10, q11⟩, hf⟩ := rw_cells h.blk
  have Hw1 : Hid (QW w _ [(w.heap.size, Obj.cells (recC Rc.zero none 0 none 0) 31)] (w.heap.size + 1 + 1) (w.heap.size + 1) S kw1 (sN 1 s0) (recC { Rc.zero with kind := (rN 1 s0 : Nat) } none 0 none 0)) := (h.rset (s' := sN 1 s0) hkw1 hsw1).put (i := 0) (x := .int .i64 (rN 1 s0 : Nat)) rfl
  clear h hb H0 hs
  go_wp2_with fail
  clear c0 c1 c2 f0 f1 f2 q0 q1 q2 q3 q4 q5 q6 q7 q8 q9 q10 q11 hf
  obtain ⟨V1, HW⟩ : ∃ W, W = (((w1.setCell ⟨w.heap.size + 1 + 1, 0, none⟩ (.string S)).setCell ⟨w.heap.size + 1 + 1, 1, none⟩ (.int .i64 kw1)).setCell ⟨w.heap.size + 1 + 1, 2, none⟩ (.int .i64 (sN 1 s0).2)).setCell ⟨w.heap.size + 1, 0, none⟩ (.int .i64 (rN 1 s0 : Nat)) := ⟨_, rfl⟩
  rw [← HW] at Hw1 ⊢
  clear HW
  refine Calls.mono (tk_any S kw1 8 (sN 1 s0) _ hS hkw1 hsw1 (by decide) (by decide)) ?_
  rintro e w2 ⟨kw2, hkw2, hsw2, rfl, hb⟩
  have h := Hw1.out.call hb
  obtain ⟨⟨c0, c1, c2⟩, f0, f1, f2⟩ := h.cells
  obtain ⟨⟨q0, q1, q2, q3, q4, q5, q6, q7, q8, q9, q10, q11⟩, hf⟩ := rw_cells h.blk
  have Hw2 : Hid (QW w _ [(w.heap.size, Obj.cells (recC Rc.zero none 0 none 0) 31)] (w.heap.size + 1 + 1) (w.heap.size + 1) S kw2 (sN 8 (sN 1 s0)) (recC { Rc.zero with kind := (rN 1 s0 : Nat), lsn := rN 8 (sN 1 s0) } none 0 none 0)) := (h.rset (s' := sN 8 (sN 1 s0)) hkw2 hsw2).put (i := 1) (x := .int .u64 (rN 8 (sN 1 s0) : Nat)) rfl
  clear h hb Hw1
  go_wp2_with fail
  clear c0 c1 c2 f0 f1 f2 q0 q1 q2 q3 q4 q5 q6 q7 q8 q9 q10 q11 hf
  obtain ⟨V2, HW⟩ : ∃ W, W = (((w2.setCell ⟨w.heap.size + 1 + 1, 0, none⟩ (.string S)).setCell ⟨w.heap.size + 1 + 1, 1, none⟩ (.int .i64 kw2)).setCell ⟨w.heap.size + 1 + 1, 2, none⟩ (.int .i64 (sN 8 (sN 1 s0)).2)).setCell ⟨w.heap.size + 1, 1, none⟩ (.int .u64 (rN 8 (sN 1 s0) : Nat)) := ⟨_, rfl⟩
  rw [← HW] at Hw2 ⊢
  clear HW
  refine Calls.mono (tk_any S kw2 4 (sN 8 (sN 1 s0)) _ hS hkw2 hsw2 (by decide) (by decide)) ?_
  rintro e w3 ⟨kw3, hkw3, hsw3, rfl, hb⟩
  have h := Hw2.out.call hb
  obtain ⟨⟨c0, c1, c2⟩, f0, f1, f2⟩ := h.cells
  obtain ⟨⟨q0, q1, q2, q3, q4, q5, q6, q7, q8, q9, q10, q11⟩, hf⟩ := rw_cells h.blk
  have Hw3 : Hid (QW w _ [(w.heap.size, Obj.cells (recC Rc.zero none 0 none 0) 31)] (w.heap.size + 1 + 1) (w.heap.size + 1) S kw3 (sN 4 (sN 8 (sN 1 s0))) (recC { Rc.zero with kind := (rN 1 s0 : Nat), lsn := rN 8 (sN 1 s0), txn := (rN 4 (sN 8 (sN 1 s0)) : Nat) } none 0 none 0)) := (h.rset (s' := sN 4 (sN 8 (sN 1 s0))) hkw3 hsw3).put (i := 2) (x := .int .i64 (rN 4 (sN 8 (sN 1 s0)) : Nat)) rfl
  clear h hb Hw2
  go_wp2_with fail
  clear c0 c1 c2 f0 f1 f2 q0 q1 q2 q3 q4 q5 q6 q7 q8 q9 q10 q11 hf
  obtain ⟨V3, HW⟩ : ∃ W, W = (((w3.setCell ⟨w.heap.size + 1 + 1, 0, none⟩ (.string S)).setCell ⟨w.heap.size + 1 + 1, 1, none⟩ (.int .i64 kw3)).setCell ⟨w.heap.size + 1 + 1, 2, none⟩ (.int .i64 (sN 4 (sN 8 (sN 1 s0))).2)).setCell ⟨w.heap.size + 1, 2, none⟩ (.int .i64 (rN 4 (sN 8 (sN 1 s0)) : Nat)) := ⟨_, rfl⟩
  rw [← HW] at Hw3 ⊢
  clear HW
  refine Calls.mono (tk_any S kw3 8 (sN 4 (sN 8 (sN 1 s0))) _ hS hkw3 hsw3 (by decide) (by decide)) ?_
  rintro e w4 ⟨kw4, hkw4, hsw4, rfl, hb⟩
  have h := Hw3.out.call hb
  obtain ⟨⟨c0, c1, c2⟩, f0, f1, f2⟩ := h.cells
  obtain ⟨⟨q0, q1, q2, q3, q4, q5, q6, q7, q8, q9, q10, q11⟩, hf⟩ := rw_cells h.blk
  have Hw4 : Hid (QW w _ [(w.heap.size, Obj.cells (recC Rc.zero none 0 none 0) 31)] (w.heap.size + 1 + 1) (w.heap.size + 1) S kw4 (sN 8 (sN 4 (sN 8 (sN 1 s0)))) (recC (headR s0) none 0 none 0)) := (h.rset (s' := sN 8 (sN 4 (sN 8 (sN 1 s0)))) hkw4 hsw4).put (i := 3) (x := .int .u64 (rN 8 (sN 4 (sN 8 (sN 1 s0))) : Nat)) rfl
  clear h hb Hw3
  go_wp2_with fail
  clear c0 c1 c2 f0 f1 f2 q0 q1 q2 q3 q4 q5 q6 q7 q8 q9 q10 q11 hf
  obtain ⟨V4, HW⟩ : ∃ W, W = (((w4.setCell ⟨w.heap.size + 1 + 1, 0, none⟩ (.string S)).setCell ⟨w.heap.size + 1 + 1, 1, none⟩ (.int .i64 kw4)).setCell ⟨w.heap.size + 1 + 1, 2, none⟩ (.int .i64 (sN 8 (sN 4 (sN 8 (sN 1 s0)))).2)).setCell ⟨w.heap.size + 1, 3, none⟩ (.int .u64 (rN 8 (sN 4 (sN 8 (sN 1 s0))) : Nat)) := ⟨_, rfl⟩
  rw [← HW] at Hw4 ⊢
  clear HW
  refine Calls.mono (refchg_any _ _) ?_
  rintro e u ⟨rfl, hu⟩
  obtain rfl := hu.symm
  have hkk : (headR s0).kind = (rN 1 s0 : Nat) := rfl
  have hsw4' : (headS s0).1 = S.data.toList.drop kw4 := hsw4
  have Hh : Hid (QW w V4 [(w.heap.size, Obj.cells (recC Rc.zero none 0 none 0) 31)] (w.heap.size + 1 + 1) (w.heap.size + 1) S kw4 (headS s0) (recC (headR s0) none 0 none 0)) := Hw4.out
  have Hr0 : Hid ((headR s0).txns = [] ∧ (headR s0).dirty = []) := ⟨rfl, rfl⟩
  have Hraw0 : Hid (rawS (S.data.toList, 0) = onTab (onUnd (onChg (headS s0, headR s0)))) := by show _ = _; rw [← Hs0.out]; rfl
  clear Hw4 hsw4 Hs0
  obtain ⟨r0, Hr⟩ : ∃ x : Rc, Hid (x = headR s0) := ⟨_, rfl⟩
  obtain ⟨t0, Ht⟩ : ∃ x : St, Hid (x = headS s0) := ⟨_, rfl⟩
  rw [← Hr.out] at hkk Hh Hr0 Hraw0
  rw [← Ht.out] at hsw4' Hh Hraw0
  rw [← hkk]
  clear Hr Ht a4 hkk
  cases hc : chgB r0.kind
  · have k2 : (r0.kind == 2) = false := by simp [chgB] at hc; simp [hc.2]
    have g2 : ¬ r0.kind = 2 := by simpa using k2
    have HC : Hid _ := hc
    have HG2 : Hid (¬ r0.kind = 2) := g2
    clear hc g2
    by_cases h8 : r0.kind = 8
    · have k8 : (r0.kind == 8) = true := by simp [h8]
      have HG8 : Hid _ := h8
      clear h8
      obtain ⟨⟨c0, c1, c2⟩, f0, f1, f2⟩ := Hh.out.cells
      obtain ⟨⟨q0, q1, q2, q3, q4, q5, q6, q7, q8, q9, q10, q11⟩, hf⟩ := rw_cells Hh.out.blk
      go_wp2_with fail
      clear c0 c1 c2 f0 f1 f2 q0 q1 q2 q3 q4 q5 q6 q7 q8 q9 q10 q11 hf
      refine Calls.mono (reftables_any S kw4 t0 r0 V4 hS hkw4 hsw4' Hr0.out.1 Hr0.out.2) ?_
      rintro e x ⟨kx, ta, tc, da, dc, hkx, hsx, rfl, ho1, ho2, hb⟩
      have HO1' : Hid _ := ho1
      have HO2' : Hid _ := ho2
      have hlp := lt_of_block Hh.out.rd
      have hlq := lt_of_block Hh.out.blk
      have hlw : w.heap.size ≤ V4.heap.size := Hh.out.bel.size
      clear ho1 ho2
      have k8' : ((tabR t0 r0).kind == 8) = true := k8
      have h := Hh.out.call hb
      obtain ⟨⟨c0, c1, c2⟩, f0, f1, f2⟩ := h.cells
      obtain ⟨⟨q0, q1, q2, q3, q4, q5, q6, q7, q8, q9, q10, q11⟩, hf⟩ := rw_cells h.blk
      have HX : Hid (QW w (((((((((((((((x.setCell ⟨w.heap.size + 1 + 1, 0, none⟩ (.string S)).setCell ⟨w.heap.size + 1 + 1, 1, none⟩ (.int .i64 kx)).setCell ⟨w.heap.size + 1 + 1, 2, none⟩ (.int .i64 (tabS t0).2)).setCell ⟨w.heap.size + 1, 0, none⟩ (.int .i64 (tabR t0 r0).kind)).setCell ⟨w.heap.size + 1, 1, none⟩ (.int .u64 ((tabR t0 r0).lsn : Int))).setCell ⟨w.heap.size + 1, 2, none⟩ (.int .i64 (tabR t0 r0).txn)).setCell ⟨w.heap.size + 1, 3, none⟩ (.int .u64 ((tabR t0 r0).prev : Int))).setCell ⟨w.heap.size + 1, 4, none⟩ (.int .u64 ((tabR t0 r0).undo : Int))).setCell ⟨w.heap.size + 1, 5, none⟩ (.int .i64 (tabR t0 r0).page)).setCell ⟨w.heap.size + 1, 6, none⟩ (.int .i64 (tabR t0 r0).ak)).setCell ⟨w.heap.size + 1, 7, none⟩ (.string (txt (tabR t0 r0).key))).setCell ⟨w.heap.size + 1, 8, none⟩ (.string (txt (tabR t0 r0).old))).setCell ⟨w.heap.size + 1, 9, none⟩ (.string (txt (tabR t0 r0).new))).setCell ⟨w.heap.size + 1, 10, none⟩ (.slice ta (tabR t0 r0).txns.length tc)).setCell ⟨w.heap.size + 1, 11, none⟩ (.slice da (tabR t0 r0).dirty.length dc)) [(w.heap.size, Obj.cells (recC Rc.zero none 0 none 0) 31)] (w.heap.size + 1 + 1) (w.heap.size + 1) S kx (tabS t0) (recC (tabR t0 r0) ta tc da dc)) := (h.rset (s' := tabS t0) hkx hsx).put12 (.int .i64 (tabR t0 r0).kind) (.int .u64 ((tabR t0 r0).lsn : Int)) (.int .i64 (tabR t0 r0).txn) (.int .u64 ((tabR t0 r0).prev : Int)) (.int .u64 ((tabR t0 r0).undo : Int)) (.int .i64 (tabR t0 r0).page) (.int .i64 (tabR t0 r0).ak) (.string (txt (tabR t0 r0).key)) (.string (txt (tabR t0 r0).old)) (.string (txt (tabR t0 r0).new)) (.slice ta (tabR t0 r0).txns.length tc) (.slice da (tabR t0 r0).dirty.length dc)
      clear h hb Hh
      go_wp2_with fail
      clear c0 c1 c2 f0 f1 f2 q0 q1 q2 q3 q4 q5 q6 q7 q8 q9 q10 q11 hf
      obtain ⟨X, HW⟩ : ∃ W, W = (((((((((((((((x.setCell ⟨w.heap.size + 1 + 1, 0, none⟩ (.string S)).setCell ⟨w.heap.size + 1 + 1, 1, none⟩ (.int .i64 kx)).setCell ⟨w.heap.size + 1 + 1, 2, none⟩ (.int .i64 (tabS t0).2)).setCell ⟨w.heap.size + 1, 0, none⟩ (.int .i64 (tabR t0 r0).kind)).setCell ⟨w.heap.size + 1, 1, none⟩ (.int .u64 ((tabR t0 r0).lsn : Int))).setCell ⟨w.heap.size + 1, 2, none⟩ (.int .i64 (tabR t0 r0).txn)).setCell ⟨w.heap.size + 1, 3, none⟩ (.int .u64 ((tabR t0 r0).prev : Int))).setCell ⟨w.heap.size + 1, 4, none⟩ (.int .u64 ((tabR t0 r0).undo : Int))).setCell ⟨w.heap.size + 1, 5, none⟩ (.int .i64 (tabR t0 r0).page)).setCell ⟨w.heap.size + 1, 6, none⟩ (.int .i64 (tabR t0 r0).ak)).setCell ⟨w.heap.size + 1, 7, none⟩ (.string (txt (tabR t0 r0).key))).setCell ⟨w.heap.size + 1, 8, none⟩ (.string (txt (tabR t0 r0).old))).setCell ⟨w.heap.size + 1, 9, none⟩ (.string (txt (tabR t0 r0).new))).setCell ⟨w.heap.size + 1, 10, none⟩ (.slice ta (tabR t0 r0).txns.length tc)).setCell ⟨w.heap.size + 1, 11, none⟩ (.slice da (tabR t0 r0).dirty.length dc)) := ⟨_, rfl⟩
      have HY1 : Hid (World.ownsRow X w.heap.size 71 3 (.slice ta (tabR t0 r0).txns.length tc) (tabR t0 r0).txns.length (txsC (tabR t0 r0).txns)) := by rw [HW]; exact ownsRow_base (set12_own _ _ _ _ _ _ _ _ _ _ _ _ (own_set (own_set (own_set HO1'.out hlp) hlp) hlp) hlq) hlw
      have HY2 : Hid (World.ownsRow X w.heap.size 73 2 (.slice da (tabR t0 r0).dirty.length dc) (tabR t0 r0).dirty.length (disC (tabR t0 r0).dirty)) := by rw [HW]; exact ownsRow_base (set12_own _ _ _ _ _ _ _ _ _ _ _ _ (own_set (own_set (own_set HO2'.out hlp) hlp) hlp) hlq) hlw
      rw [← HW] at HX ⊢
      clear HW HO1' HO2' hlp hlq hlw
      have hkE := HX.out.le
      have hsE := HX.out.at_
      have hraw : Hid (rawS (S.data.toList, 0) = (tabS t0, tabR t0 r0)) := by
        show _ = _
        rw [Hraw0.out, show onChg (t0, r0) = (t0, r0) from if_neg (by show ¬ chgB r0.kind = true; rw [HC.out]; decide), show onUnd (t0, r0) = (t0, r0) from if_neg HG2.out, show onTab (t0, r0) = (tabS t0, tabR t0 r0) from if_pos HG8.out]
      obtain ⟨T, HT⟩ : ∃ x, Hid (x = tabS t0) := ⟨_, rfl⟩
      obtain ⟨R, HR⟩ : ∃ x : Rc, Hid (x = tabR t0 r0) := ⟨_, rfl⟩
      have HO1 : Hid (World.ownsRow X w.heap.size 71 3 (.slice ta (tabR t0 r0).txns.length tc) (tabR t0 r0).txns.length (txsC (tabR t0 r0).txns)) := HY1.out
      have HO2 : Hid (World.ownsRow X w.heap.size 73 2 (.slice da (tabR t0 r0).dirty.length dc) (tabR t0 r0).dirty.length (disC (tabR t0 r0).dirty)) := HY2.out
      have hlen : Hid ((tabR t0 r0).txns.length + (tabR t0 r0).dirty.length ≤ 1000000) := by show _ ≤ _; (have := tab_len t0 r0 Hr0.out.1 Hr0.out.2; omega)
      rw [← HR.out] at HX HO1 HO2 hlen hraw
      rw [← HT.out] at HX hsE hraw ⊢
      clear HT HR
      refine Calls.mono (te_any S _ T _ hS hkE hsE) ?_
      rintro e u1 ⟨rfl, hb⟩
      have HU : Hid _ := HX.out.call hb
      have HP1 : Hid _ := own_below HO1.out hb
      have HP2 : Hid _ := own_below HO2.out hb
      clear hb HX HO1 HO2 hsE
      by_cases hend : endOf T.1 T.2 = 0
      · have h0 : (endOf T.1 T.2 != 0) = false := by simp [hend]
        have HEn : Hid (endB (S.data.toList, 0) = true) := by show _ = _; unfold endB; rw [hraw.out]; simp [hend]
        clear hend
        obtain ⟨⟨c0, c1, c2⟩, f0, f1, f2⟩ := HU.out.cells
        obtain ⟨⟨q0, q1, q2, q3, q4, q5, q6, q7, q8, q9, q10, q11⟩, hf⟩ := rw_cells HU.out.blk
        go_wp2_with fail
        clear c0 c1 c2 f0 f1 f2 q0 q1 q2 q3 q4 q5 q6 q7 q8 q9 q10 q11 hf
        refine Calls.mono (refmay_any R ta tc da dc _ ⟨(slT_of_own HP1.out).1, (slD_of_own HP2.out).1, (slT_of_own HP1.out).2, (slD_of_own HP2.out).2⟩ hlen.out) ?_
        rintro e u2 ⟨rfl, hb⟩
        have HV : Hid _ := HU.out.call hb
        have HR1 : Hid _ := own_below HP1.out hb
        have HR2 : Hid _ := own_below HP2.out hb
        clear hb HU HP1 HP2
        have HA : Hid (u2.heap[w.heap.size]? = some (.cells (recC Rc.zero none 0 none 0) 31)) := (HV.out.zs _ (List.mem_cons_self ..)).1
        obtain ⟨⟨z0, z1, z2, z3, z4, z5, z6, z7, z8, z9, z10, z11⟩, hz⟩ := rw_cells HA.out
        obtain ⟨⟨c0, c1, c2⟩, f0, f1, f2⟩ := HV.out.cells
        obtain ⟨⟨q0, q1, q2, q3, q4, q5, q6, q7, q8, q9, q10, q11⟩, hf⟩ := rw_cells HV.out.blk
        cases hm : mayB R
        · have HK : Hid (decK S.data.toList = false) := by show _ = _; unfold decK; rw [HEn.out, hraw.out]; exact hm
          go_wp2
          refine bodyPost_ret (results_one rfl _ rfl (set12 _ _ _ _ _ _ _ _ _ _ _ _ HA.out)) rfl (decP_no HK.out rfl (set12_below _ _ _ _ _ _ _ _ _ _ _ _ HV.out.bel (Nat.le_refl _)))
        · have HK : Hid (decK S.data.toList = true) := by show _ = _; unfold decK; rw [HEn.out, hraw.out]; exact hm
          go_wp2
          refine bodyPost_ret (results_one rfl _ rfl (set12 _ _ _ _ _ _ _ _ _ _ _ _ HA.out)) rfl (decP_yes (r := R) (ta := ta) (tc := tc) (da := da) (dc := dc) HK.out (by rw [hraw.out]) rfl ?_ ?_ (set12_below _ _ _ _ _ _ _ _ _ _ _ _ HV.out.bel (Nat.le_refl _)))
          · exact own12 _ _ _ _ _ _ _ _ _ _ _ _ HR1.out (by decide) HA.out
          · exact own12 _ _ _ _ _ _ _ _ _ _ _ _ HR2.out (by decide) HA.out
      · have h0 : (endOf T.1 T.2 != 0) = true := by simp [hend]
        have HK : Hid (decK S.data.toList = false) := by show _ = _; unfold decK endB; rw [hraw.out]; simp [hend]
        have HA : Hid (u1.heap[w.heap.size]? = some (.cells (recC Rc.zero none 0 none 0) 31)) := (HU.out.zs _ (List.mem_cons_self ..)).1
        obtain ⟨⟨z0, z1, z2, z3, z4, z5, z6, z7, z8, z9, z10, z11⟩, hz⟩ := rw_cells HA.out
        clear hend
        go_wp2
        refine bodyPost_ret (results_one rfl _ rfl (set12 _ _ _ _ _ _ _ _ _ _ _ _ HA.out)) rfl (decP_no HK.out rfl (set12_below _ _ _ _ _ _ _ _ _ _ _ _ HU.out.bel (Nat.le_refl _)))
    · have k8 : (r0.kind == 8) = false := by simp [h8]
      have HG8 : Hid (¬ r0.kind = 8) := h8
      clear h8
      obtain ⟨⟨c0, c1, c2⟩, f0, f1, f2⟩ := Hh.out.cells
      obtain ⟨⟨q0, q1, q2, q3, q4, q5, q6, q7, q8, q9, q10, q11⟩, hf⟩ := rw_cells Hh.out.blk
      go_wp2_with fail
      clear c0 c1 c2 f0 f1 f2 q0 q1 q2 q3 q4 q5 q6 q7 q8 q9 q10 q11 hf
      have hkE := Hh.out.le
      have hsE := Hh.out.at_
      have hraw : Hid (rawS (S.data.toList, 0) = (t0, r0)) := by
        show _ = _
        rw [Hraw0.out, show onChg (t0, r0) = (t0, r0) from if_neg (by show ¬ chgB r0.kind = true; rw [HC.out]; decide), show onUnd (t0, r0) = (t0, r0) from if_neg HG2.out, show onTab (t0, r0) = (t0, r0) from if_neg HG8.out]
      obtain ⟨T, HT⟩ : ∃ x, Hid (x = t0) := ⟨_, rfl⟩
      obtain ⟨R, HR⟩ : ∃ x : Rc, Hid (x = r0) := ⟨_, rfl⟩
      have HO1 : Hid (World.ownsRow V4 w.heap.size 71 3 (.slice none (r0).txns.length 0) (r0).txns.length (txsC (r0).txns)) := by rw [show (r0).txns = [] from Hr0.out.1]; exact World.ownsRow_nil _ _ _ _
      have HO2 : Hid (World.ownsRow V4 w.heap.size 73 2 (.slice none (r0).dirty.length 0) (r0).dirty.length (disC (r0).dirty)) := by rw [show (r0).dirty = [] from Hr0.out.2]; exact World.ownsRow_nil _ _ _ _
      have hlen : Hid ((r0).txns.length + (r0).dirty.length ≤ 1000000) := by show _ ≤ _; (rw [show (r0).txns = [] from Hr0.out.1, show (r0).dirty = [] from Hr0.out.2]; decide)
      rw [← HR.out] at Hh HO1 HO2 hlen hraw
      rw [← HT.out] at Hh hsE hraw ⊢
      clear HT HR
      refine Calls.mono (te_any S _ T _ hS hkE hsE) ?_
      rintro e u1 ⟨rfl, hb⟩
      have HU : Hid _ := Hh.out.call hb
      have HP1 : Hid _ := own_below HO1.out hb
      have HP2 : Hid _ := own_below HO2.out hb
      clear hb Hh HO1 HO2 hsE
      by_cases hend : endOf T.1 T.2 = 0
      · have h0 : (endOf T.1 T.2 != 0) = false := by simp [hend]
        have HEn : Hid (endB (S.data.toList, 0) = true) := by show _ = _; unfold endB; rw [hraw.out]; simp [hend]
        clear hend
        obtain ⟨⟨c0, c1, c2⟩, f0, f1, f2⟩ := HU.out.cells
        obtain ⟨⟨q0, q1, q2, q3, q4, q5, q6, q7, q8, q9, q10, q11⟩, hf⟩ := rw_cells HU.out.blk
        go_wp2_with fail
        clear c0 c1 c2 f0 f1 f2 q0 q1 q2 q3 q4 q5 q6 q7 q8 q9 q10 q11 hf
        refine Calls.mono (refmay_any R none 0 none 0 _ ⟨(slT_of_own HP1.out).1, (slD_of_own HP2.out).1, (slT_of_own HP1.out).2, (slD_of_own HP2.out).2⟩ hlen.out) ?_
        rintro e u2 ⟨rfl, hb⟩
        have HV : Hid _ := HU.out.call hb
        have HR1 : Hid _ := own_below HP1.out hb
        have HR2 : Hid _ := own_below HP2.out hb
        clear hb HU HP1 HP2
        have HA : Hid (u2.heap[w.heap.size]? = some (.cells (recC Rc.zero none 0 none 0) 31)) := (HV.out.zs _ (List.mem_cons_self ..)).1
        obtain ⟨⟨z0, z1, z2, z3, z4, z5, z6, z7, z8, z9, z10, z11⟩, hz⟩ := rw_cells HA.out
        obtain ⟨⟨c0, c1, c2⟩, f0, f1, f2⟩ := HV.out.cells
        obtain ⟨⟨q0, q1, q2, q3, q4, q5, q6, q7, q8, q9, q10, q11⟩, hf⟩ := rw_cells HV.out.blk
        cases hm : mayB R
        · have HK : Hid (decK S.data.toList = false) := by show _ = _; unfold decK; rw [HEn.out, hraw.out]; exact hm
          go_wp2
          refine bodyPost_ret (results_one rfl _ rfl (set12 _ _ _ _ _ _ _ _ _ _ _ _ HA.out)) rfl (decP_no HK.out rfl (set12_below _ _ _ _ _ _ _ _ _ _ _ _ HV.out.bel (Nat.le_refl _)))
        · have HK : Hid (decK S.data.toList = true) := by show _ = _; unfold decK; rw [HEn.out, hraw.out]; exact hm
          go_wp2
          refine bodyPost_ret (results_one rfl _ rfl (set12 _ _ _ _ _ _ _ _ _ _ _ _ HA.out)) rfl (decP_yes (r := R) (ta := none) (tc := 0) (da := none) (dc := 0) HK.out (by rw [hraw.out]) rfl ?_ ?_ (set12_below _ _ _ _ _ _ _ _ _ _ _ _ HV.out.bel (Nat.le_refl _)))
          · exact own12 _ _ _ _ _ _ _ _ _ _ _ _ HR1.out (by decide) HA.out
          · exact own12 _ _ _ _ _ _ _ _ _ _ _ _ HR2.out (by decide) HA.out
      · have h0 : (endOf T.1 T.2 != 0) = true := by simp [hend]
        have HK : Hid (decK S.data.toList = false) := by show _ = _; unfold decK endB; rw [hraw.out]; simp [hend]
        have HA : Hid (u1.heap[w.heap.size]? = some (.cells (recC Rc.zero none 0 none 0) 31)) := (HU.out.zs _ (List.mem_cons_self ..)).1
        obtain ⟨⟨z0, z1, z2, z3, z4, z5, z6, z7, z8, z9, z10, z11⟩, hz⟩ := rw_cells HA.out
        clear hend
        go_wp2
        refine bodyPost_ret (results_one rfl _ rfl (set12 _ _ _ _ _ _ _ _ _ _ _ _ HA.out)) rfl (decP_no HK.out rfl (set12_below _ _ _ _ _ _ _ _ _ _ _ _ HU.out.bel (Nat.le_refl _)))
  · have k8 : (r0.kind == 8) = false := by simp [chgB] at hc; simp; omega
    have g8 : ¬ r0.kind = 8 := by simpa using k8
    have HC : Hid _ := hc
    have HG8 : Hid (¬ r0.kind = 8) := g8
    clear hc g8
    obtain ⟨⟨c0, c1, c2⟩, f0, f1, f2⟩ := Hh.out.cells
    obtain ⟨⟨q0, q1, q2, q3, q4, q5, q6, q7, q8, q9, q10, q11⟩, hf⟩ := rw_cells Hh.out.blk
    go_wp2_with fail
    clear c0 c1 c2 f0 f1 f2 q0 q1 q2 q3 q4 q5 q6 q7 q8 q9 q10 q11 hf
    refine Calls.mono (refchange_any S kw4 t0 r0 none 0 none 0 V4 hS hkw4 hsw4') ?_
    rintro e x ⟨kx, hkx, hsx, rfl, hb⟩
    by_cases h2 : r0.kind = 2
    · have k2 : (r0.kind == 2) = true := by simp [h2]
      have k2' : ((chgR t0 r0).kind == 2) = true := k2
      have k8' : ((chgR t0 r0).kind == 8) = false := k8
      have HG2 : Hid _ := h2
      clear h2
      have h := Hh.out.call hb
      obtain ⟨⟨c0, c1, c2⟩, f0, f1, f2⟩ := h.cells
      obtain ⟨⟨q0, q1, q2, q3, q4, q5, q6, q7, q8, q9, q10, q11⟩, hf⟩ := rw_cells h.blk
      have HX : Hid (QW w (((((((((((((((x.setCell ⟨w.heap.size + 1 + 1, 0, none⟩ (.string S)).setCell ⟨w.heap.size + 1 + 1, 1, none⟩ (.int .i64 kx)).setCell ⟨w.heap.size + 1 + 1, 2, none⟩ (.int .i64 (chgS t0).2)).setCell ⟨w.heap.size + 1, 0, none⟩ (.int .i64 (chgR t0 r0).kind)).setCell ⟨w.heap.size + 1, 1, none⟩ (.int .u64 ((chgR t0 r0).lsn : Int))).setCell ⟨w.heap.size + 1, 2, none⟩ (.int .i64 (chgR t0 r0).txn)).setCell ⟨w.heap.size + 1, 3, none⟩ (.int .u64 ((chgR t0 r0).prev : Int))).setCell ⟨w.heap.size + 1, 4, none⟩ (.int .u64 ((chgR t0 r0).undo : Int))).setCell ⟨w.heap.size + 1, 5, none⟩ (.int .i64 (chgR t0 r0).page)).setCell ⟨w.heap.size + 1, 6, none⟩ (.int .i64 (chgR t0 r0).ak)).setCell ⟨w.heap.size + 1, 7, none⟩ (.string (txt (chgR t0 r0).key))).setCell ⟨w.heap.size + 1, 8, none⟩ (.string (txt (chgR t0 r0).old))).setCell ⟨w.heap.size + 1, 9, none⟩ (.string (txt (chgR t0 r0).new))).setCell ⟨w.heap.size + 1, 10, none⟩ (.slice none (chgR t0 r0).txns.length 0)).setCell ⟨w.heap.size + 1, 11, none⟩ (.slice none (chgR t0 r0).dirty.length 0)) [(w.heap.size, Obj.cells (recC Rc.zero none 0 none 0) 31)] (w.heap.size + 1 + 1) (w.heap.size + 1) S kx (chgS t0) (recC (chgR t0 r0) none 0 none 0)) := (h.rset (s' := chgS t0) hkx hsx).put12 (.int .i64 (chgR t0 r0).kind) (.int .u64 ((chgR t0 r0).lsn : Int)) (.int .i64 (chgR t0 r0).txn) (.int .u64 ((chgR t0 r0).prev : Int)) (.int .u64 ((chgR t0 r0).undo : Int)) (.int .i64 (chgR t0 r0).page) (.int .i64 (chgR t0 r0).ak) (.string (txt (chgR t0 r0).key)) (.string (txt (chgR t0 r0).old)) (.string (txt (chgR t0 r0).new)) (.slice none (chgR t0 r0).txns.length 0) (.slice none (chgR t0 r0).dirty.length 0)
      clear h hb Hh
      go_wp2_with fail
      clear c0 c1 c2 f0 f1 f2 q0 q1 q2 q3 q4 q5 q6 q7 q8 q9 q10 q11 hf
      obtain ⟨X, HW⟩ : ∃ W, W = (((((((((((((((x.setCell ⟨w.heap.size + 1 + 1, 0, none⟩ (.string S)).setCell ⟨w.heap.size + 1 + 1, 1, none⟩ (.int .i64 kx)).setCell ⟨w.heap.size + 1 + 1, 2, none⟩ (.int .i64 (chgS t0).2)).setCell ⟨w.heap.size + 1, 0, none⟩ (.int .i64 (chgR t0 r0).kind)).setCell ⟨w.heap.size + 1, 1, none⟩ (.int .u64 ((chgR t0 r0).lsn : Int))).setCell ⟨w.heap.size + 1, 2, none⟩ (.int .i64 (chgR t0 r0).txn)).setCell ⟨w.heap.size + 1, 3, none⟩ (.int .u64 ((chgR t0 r0).prev : Int))).setCell ⟨w.heap.size + 1, 4, none⟩ (.int .u64 ((chgR t0 r0).undo : Int))).setCell ⟨w.heap.size + 1, 5, none⟩ (.int .i64 (chgR t0 r0).page)).setCell ⟨w.heap.size + 1, 6, none⟩ (.int .i64 (chgR t0 r0).ak)).setCell ⟨w.heap.size + 1, 7, none⟩ (.string (txt (chgR t0 r0).key))).setCell ⟨w.heap.size + 1, 8, none⟩ (.string (txt (chgR t0 r0).old))).setCell ⟨w.heap.size + 1, 9, none⟩ (.string (txt (chgR t0 r0).new))).setCell ⟨w.heap.size + 1, 10, none⟩ (.slice none (chgR t0 r0).txns.length 0)).setCell ⟨w.heap.size + 1, 11, none⟩ (.slice none (chgR t0 r0).dirty.length 0)) := ⟨_, rfl⟩
      rw [← HW] at HX ⊢
      clear HW
      refine Calls.mono (tk_any S kx 8 (chgS t0) _ hS hkx hsx (by decide) (by decide)) ?_
      rintro e y ⟨ky, hky, hsy, rfl, hb⟩
      have h := HX.out.call hb
      obtain ⟨⟨c0, c1, c2⟩, f0, f1, f2⟩ := h.cells
      obtain ⟨⟨q0, q1, q2, q3, q4, q5, q6, q7, q8, q9, q10, q11⟩, hf⟩ := rw_cells h.blk
      have HY : Hid (QW w _ [(w.heap.size, Obj.cells (recC Rc.zero none 0 none 0) 31)] (w.heap.size + 1 + 1) (w.heap.size + 1) S ky (sN 8 (chgS t0)) (recC (undR (chgS t0) (chgR t0 r0)) none 0 none 0)) := (h.rset (s' := sN 8 (chgS t0)) hky hsy).put (i := 4) (x := .int .u64 (rN 8 (chgS t0) : Nat)) rfl
      clear h hb HX
      go_wp2_with fail
      clear c0 c1 c2 f0 f1 f2 q0 q1 q2 q3 q4 q5 q6 q7 q8 q9 q10 q11 hf
      obtain ⟨Y, HW⟩ : ∃ W, W = (((y.setCell ⟨w.heap.size + 1 + 1, 0, none⟩ (.string S)).setCell ⟨w.heap.size + 1 + 1, 1, none⟩ (.int .i64 ky)).setCell ⟨w.heap.size + 1 + 1, 2, none⟩ (.int .i64 (sN 8 (chgS t0)).2)).setCell ⟨w.heap.size + 1, 4, none⟩ (.int .u64 (rN 8 (chgS t0) : Nat)) := ⟨_, rfl⟩
      rw [← HW] at HY ⊢
      clear HW
      have hkE := HY.out.le
      have hsE := HY.out.at_
      have hraw : Hid (rawS (S.data.toList, 0) = (sN 8 (chgS t0), undR (chgS t0) (chgR t0 r0))) := by
        show _ = _
        rw [Hraw0.out, show onChg (t0, r0) = (chgS t0, chgR t0 r0) from if_pos HC.out, show onUnd (chgS t0, chgR t0 r0) = (sN 8 (chgS t0), undR (chgS t0) (chgR t0 r0)) from if_pos HG2.out, show onTab (sN 8 (chgS t0), undR (chgS t0) (chgR t0 r0)) = (sN 8 (chgS t0), undR (chgS t0) (chgR t0 r0)) from if_neg HG8.out]
      obtain ⟨T, HT⟩ : ∃ x, Hid (x = sN 8 (chgS t0)) := ⟨_, rfl⟩
      obtain ⟨R, HR⟩ : ∃ x : Rc, Hid (x = undR (chgS t0) (chgR t0 r0)) := ⟨_, rfl⟩
      have HO1 : Hid (World.ownsRow Y w.heap.size 71 3 (.slice none (undR (chgS t0) (chgR t0 r0)).txns.length 0) (undR (chgS t0) (chgR t0 r0)).txns.length (txsC (undR (chgS t0) (chgR t0 r0)).txns)) := by rw [show (undR (chgS t0) (chgR t0 r0)).txns = [] from Hr0.out.1]; exact World.ownsRow_nil _ _ _ _
      have HO2 : Hid (World.ownsRow Y w.heap.size 73 2 (.slice none (undR (chgS t0) (chgR t0 r0)).dirty.length 0) (undR (chgS t0) (chgR t0 r0)).dirty.length (disC (undR (chgS t0) (chgR t0 r0)).dirty)) := by rw [show (undR (chgS t0) (chgR t0 r0)).dirty = [] from Hr0.out.2]; exact World.ownsRow_nil _ _ _ _
      have hlen : Hid ((undR (chgS t0) (chgR t0 r0)).txns.length + (undR (chgS t0) (chgR t0 r0)).dirty.length ≤ 1000000) := by show _ ≤ _; (rw [show (undR (chgS t0) (chgR t0 r0)).txns = [] from Hr0.out.1, show (undR (chgS t0) (chgR t0 r0)).dirty = [] from Hr0.out.2]; decide)
      rw [← HR.out] at HY HO1 HO2 hlen hraw
      rw [← HT.out] at HY hsE hraw ⊢
      clear HT HR
      refine Calls.mono (te_any S _ T _ hS hkE hsE) ?_
      rintro e u1 ⟨rfl, hb⟩
      have HU : Hid _ := HY.out.call hb
      have HP1 : Hid _ := own_below HO1.out hb
      have HP2 : Hid _ := own_below HO2.out hb
      clear hb HY HO1 HO2 hsE
      by_cases hend : endOf T.1 T.2 = 0
      · have h0 : (endOf T.1 T.2 != 0) = false := by simp [hend]
        have HEn : Hid (endB (S.data.toList, 0) = true) := by show _ = _; unfold endB; rw [hraw.out]; simp [hend]
        clear hend
        obtain ⟨⟨c0, c1, c2⟩, f0, f1, f2⟩ := HU.out.cells
        obtain ⟨⟨q0, q1, q2, q3, q4, q5, q6, q7, q8, q9, q10, q11⟩, hf⟩ := rw_cells HU.out.blk
        go_wp2_with fail
        clear c0 c1 c2 f0 f1 f2 q0 q1 q2 q3 q4 q5 q6 q7 q8 q9 q10 q11 hf
        refine Calls.mono (refmay_any R none 0 none 0 _ ⟨(slT_of_own HP1.out).1, (slD_of_own HP2.out).1, (slT_of_own HP1.out).2, (slD_of_own HP2.out).2⟩ hlen.out) ?_
        rintro e u2 ⟨rfl, hb⟩
        have HV : Hid _ := HU.out.call hb
        have HR1 : Hid _ := own_below HP1.out hb
        have HR2 : Hid _ := own_below HP2.out hb
        clear hb HU HP1 HP2
        have HA : Hid (u2.heap[w.heap.size]? = some (.cells (recC Rc.zero none 0 none 0) 31)) := (HV.out.zs _ (List.mem_cons_self ..)).1
        obtain ⟨⟨z0, z1, z2, z3, z4, z5, z6, z7, z8, z9, z10, z11⟩, hz⟩ := rw_cells HA.out
        obtain ⟨⟨c0, c1, c2⟩, f0, f1, f2⟩ := HV.out.cells
        obtain ⟨⟨q0, q1, q2, q3, q4, q5, q6, q7, q8, q9, q10, q11⟩, hf⟩ := rw_cells HV.out.blk
        cases hm : mayB R
        · have HK : Hid (decK S.data.toList = false) := by show _ = _; unfold decK; rw [HEn.out, hraw.out]; exact hm
          go_wp2
          refine bodyPost_ret (results_one rfl _ rfl (set12 _ _ _ _ _ _ _ _ _ _ _ _ HA.out)) rfl (decP_no HK.out rfl (set12_below _ _ _ _ _ _ _ _ _ _ _ _ HV.out.bel (Nat.le_refl _)))
        · have HK : Hid (decK S.data.toList = true) := by show _ = _; unfold decK; rw [HEn.out, hraw.out]; exact hm
          go_wp2
          refine bodyPost_ret (results_one rfl _ rfl (set12 _ _ _ _ _ _ _ _ _ _ _ _ HA.out)) rfl (decP_yes (r := R) (ta := none) (tc := 0) (da := none) (dc := 0) HK.out (by rw [hraw.out]) rfl ?_ ?_ (set12_below _ _ _ _ _ _ _ _ _ _ _ _ HV.out.bel (Nat.le_refl _)))
          · exact own12 _ _ _ _ _ _ _ _ _ _ _ _ HR1.out (by decide) HA.out
          · exact own12 _ _ _ _ _ _ _ _ _ _ _ _ HR2.out (by decide) HA.out
      · have h0 : (endOf T.1 T.2 != 0) = true := by simp [hend]
        have HK : Hid (decK S.data.toList = false) := by show _ = _; unfold decK endB; rw [hraw.out]; simp [hend]
        have HA : Hid (u1.heap[w.heap.size]? = some (.cells (recC Rc.zero none 0 none 0) 31)) := (HU.out.zs _ (List.mem_cons_self ..)).1
        obtain ⟨⟨z0, z1, z2, z3, z4, z5, z6, z7, z8, z9, z10, z11⟩, hz⟩ := rw_cells HA.out
        clear hend
        go_wp2
        refine bodyPost_ret (results_one rfl _ rfl (set12 _ _ _ _ _ _ _ _ _ _ _ _ HA.out)) rfl (decP_no HK.out rfl (set12_below _ _ _ _ _ _ _ _ _ _ _ _ HU.out.bel (Nat.le_refl _)))
    · have k2 : (r0.kind == 2) = false := by simp [h2]
      have k2' : ((chgR t0 r0).kind == 2) = false := k2
      have k8' : ((chgR t0 r0).kind == 8) = false := k8
      have HG2 : Hid (¬ r0.kind = 2) := h2
      clear h2
      have h := Hh.out.call hb
      obtain ⟨⟨c0, c1, c2⟩, f0, f1, f2⟩ := h.cells
      obtain ⟨⟨q0, q1, q2, q3, q4, q5, q6, q7, q8, q9, q10, q11⟩, hf⟩ := rw_cells h.blk
      have HX : Hid (QW w (((((((((((((((x.setCell ⟨w.heap.size + 1 + 1, 0, none⟩ (.string S)).setCell ⟨w.heap.size + 1 + 1, 1, none⟩ (.int .i64 kx)).setCell ⟨w.heap.size + 1 + 1, 2, none⟩ (.int .i64 (chgS t0).2)).setCell ⟨w.heap.size + 1, 0, none⟩ (.int .i64 (chgR t0 r0).kind)).setCell ⟨w.heap.size + 1, 1, none⟩ (.int .u64 ((chgR t0 r0).lsn : Int))).setCell ⟨w.heap.size + 1, 2, none⟩ (.int .i64 (chgR t0 r0).txn)).setCell ⟨w.heap.size + 1, 3, none⟩ (.int .u64 ((chgR t0 r0).prev : Int))).setCell ⟨w.heap.size + 1, 4, none⟩ (.int .u64 ((chgR t0 r0).undo : Int))).setCell ⟨w.heap.size + 1, 5, none⟩ (.int .i64 (chgR t0 r0).page)).setCell ⟨w.heap.size + 1, 6, none⟩ (.int .i64 (chgR t0 r0).ak)).setCell ⟨w.heap.size + 1, 7, none⟩ (.string (txt (chgR t0 r0).key))).setCell ⟨w.heap.size + 1, 8, none⟩ (.string (txt (chgR t0 r0).old))).setCell ⟨w.heap.size + 1, 9, none⟩ (.string (txt (chgR t0 r0).new))).setCell ⟨w.heap.size + 1, 10, none⟩ (.slice none (chgR t0 r0).txns.length 0)).setCell ⟨w.heap.size + 1, 11, none⟩ (.slice none (chgR t0 r0).dirty.length 0)) [(w.heap.size, Obj.cells (recC Rc.zero none 0 none 0) 31)] (w.heap.size + 1 + 1) (w.heap.size + 1) S kx (chgS t0) (recC (chgR t0 r0) none 0 none 0)) := (h.rset (s' := chgS t0) hkx hsx).put12 (.int .i64 (chgR t0 r0).kind) (.int .u64 ((chgR t0 r0).lsn : Int)) (.int .i64 (chgR t0 r0).txn) (.int .u64 ((chgR t0 r0).prev : Int)) (.int .u64 ((chgR t0 r0).undo : Int)) (.int .i64 (chgR t0 r0).page) (.int .i64 (chgR t0 r0).ak) (.string (txt (chgR t0 r0).key)) (.string (txt (chgR t0 r0).old)) (.string (txt (chgR t0 r0).new)) (.slice none (chgR t0 r0).txns.length 0) (.slice none (chgR t0 r0).dirty.length 0)
      clear h hb Hh
      go_wp2_with fail
      clear c0 c1 c2 f0 f1 f2 q0 q1 q2 q3 q4 q5 q6 q7 q8 q9 q10 q11 hf
      obtain ⟨X, HW⟩ : ∃ W, W = (((((((((((((((x.setCell ⟨w.heap.size + 1 + 1, 0, none⟩ (.string S)).setCell ⟨w.heap.size + 1 + 1, 1, none⟩ (.int .i64 kx)).setCell ⟨w.heap.size + 1 + 1, 2, none⟩ (.int .i64 (chgS t0).2)).setCell ⟨w.heap.size + 1, 0, none⟩ (.int .i64 (chgR t0 r0).kind)).setCell ⟨w.heap.size + 1, 1, none⟩ (.int .u64 ((chgR t0 r0).lsn : Int))).setCell ⟨w.heap.size + 1, 2, none⟩ (.int .i64 (chgR t0 r0).txn)).setCell ⟨w.heap.size + 1, 3, none⟩ (.int .u64 ((chgR t0 r0).prev : Int))).setCell ⟨w.heap.size + 1, 4, none⟩ (.int .u64 ((chgR t0 r0).undo : Int))).setCell ⟨w.heap.size + 1, 5, none⟩ (.int .i64 (chgR t0 r0).page)).setCell ⟨w.heap.size + 1, 6, none⟩ (.int .i64 (chgR t0 r0).ak)).setCell ⟨w.heap.size + 1, 7, none⟩ (.string (txt (chgR t0 r0).key))).setCell ⟨w.heap.size + 1, 8, none⟩ (.string (txt (chgR t0 r0).old))).setCell ⟨w.heap.size + 1, 9, none⟩ (.string (txt (chgR t0 r0).new))).setCell ⟨w.heap.size + 1, 10, none⟩ (.slice none (chgR t0 r0).txns.length 0)).setCell ⟨w.heap.size + 1, 11, none⟩ (.slice none (chgR t0 r0).dirty.length 0)) := ⟨_, rfl⟩
      rw [← HW] at HX ⊢
      clear HW
      have hkE := HX.out.le
      have hsE := HX.out.at_
      have hraw : Hid (rawS (S.data.toList, 0) = (chgS t0, chgR t0 r0)) := by
        show _ = _
        rw [Hraw0.out, show onChg (t0, r0) = (chgS t0, chgR t0 r0) from if_pos HC.out, show onUnd (chgS t0, chgR t0 r0) = (chgS t0, chgR t0 r0) from if_neg HG2.out, show onTab (chgS t0, chgR t0 r0) = (chgS t0, chgR t0 r0) from if_neg HG8.out]
      obtain ⟨T, HT⟩ : ∃ x, Hid (x = chgS t0) := ⟨_, rfl⟩
      obtain ⟨R, HR⟩ : ∃ x : Rc, Hid (x = chgR t0 r0) := ⟨_, rfl⟩
      have HO1 : Hid (World.ownsRow X w.heap.size 71 3 (.slice none (chgR t0 r0).txns.length 0) (chgR t0 r0).txns.length (txsC (chgR t0 r0).txns)) := by rw [show (chgR t0 r0).txns = [] from Hr0.out.1]; exact World.ownsRow_nil _ _ _ _
      have HO2 : Hid (World.ownsRow X w.heap.size 73 2 (.slice none (chgR t0 r0).dirty.length 0) (chgR t0 r0).dirty.length (disC (chgR t0 r0).dirty)) := by rw [show (chgR t0 r0).dirty = [] from Hr0.out.2]; exact World.ownsRow_nil _ _ _ _
      have hlen : Hid ((chgR t0 r0).txns.length + (chgR t0 r0).dirty.length ≤ 1000000) := by show _ ≤ _; (rw [show (chgR t0 r0).txns = [] from Hr0.out.1, show (chgR t0 r0).dirty = [] from Hr0.out.2]; decide)
      rw [← HR.out] at HX HO1 HO2 hlen hraw
      rw [← HT.out] at HX hsE hraw ⊢
      clear HT HR
      refine Calls.mono (te_any S _ T _ hS hkE hsE) ?_
      rintro e u1 ⟨rfl, hb⟩
      have HU : Hid _ := HX.out.call hb
      have HP1 : Hid _ := own_below HO1.out hb
      have HP2 : Hid _ := own_below HO2.out hb
      clear hb HX HO1 HO2 hsE
      by_cases hend : endOf T.1 T.2 = 0
      · have h0 : (endOf T.1 T.2 != 0) = false := by simp [hend]
        have HEn : Hid (endB (S.data.toList, 0) = true) := by show _ = _; unfold endB; rw [hraw.out]; simp [hend]
        clear hend
        obtain ⟨⟨c0, c1, c2⟩, f0, f1, f2⟩ := HU.out.cells
        obtain ⟨⟨q0, q1, q2, q3, q4, q5, q6, q7, q8, q9, q10, q11⟩, hf⟩ := rw_cells HU.out.blk
        go_wp2_with fail
        clear c0 c1 c2 f0 f1 f2 q0 q1 q2 q3 q4 q5 q6 q7 q8 q9 q10 q11 hf
        refine Calls.mono (refmay_any R none 0 none 0 _ ⟨(slT_of_own HP1.out).1, (slD_of_own HP2.out).1, (slT_of_own HP1.out).2, (slD_of_own HP2.out).2⟩ hlen.out) ?_
        rintro e u2 ⟨rfl, hb⟩
        have HV : Hid _ := HU.out.call hb
        have HR1 : Hid _ := own_below HP1.out hb
        have HR2 : Hid _ := own_below HP2.out hb
        clear hb HU HP1 HP2
        have HA : Hid (u2.heap[w.heap.size]? = some (.cells (recC Rc.zero none 0 none 0) 31)) := (HV.out.zs _ (List.mem_cons_self ..)).1
        obtain ⟨⟨z0, z1, z2, z3, z4, z5, z6, z7, z8, z9, z10, z11⟩, hz⟩ := rw_cells HA.out
        obtain ⟨⟨c0, c1, c2⟩, f0, f1, f2⟩ := HV.out.cells
        obtain ⟨⟨q0, q1, q2, q3, q4, q5, q6, q7, q8, q9, q10, q11⟩, hf⟩ := rw_cells HV.out.blk
        cases hm : mayB R
        · have HK : Hid (decK S.data.toList = false) := by show _ = _; unfold decK; rw [HEn.out, hraw.out]; exact hm
          go_wp2
          refine bodyPost_ret (results_one rfl _ rfl (set12 _ _ _ _ _ _ _ _ _ _ _ _ HA.out)) rfl (decP_no HK.out rfl (set12_below _ _ _ _ _ _ _ _ _ _ _ _ HV.out.bel (Nat.le_refl _)))
        · have HK : Hid (decK S.data.toList = true) := by show _ = _; unfold decK; rw [HEn.out, hraw.out]; exact hm
          go_wp2
          refine bodyPost_ret (results_one rfl _ rfl (set12 _ _ _ _ _ _ _ _ _ _ _ _ HA.out)) rfl (decP_yes (r := R) (ta := none) (tc := 0) (da := none) (dc := 0) HK.out (by rw [hraw.out]) rfl ?_ ?_ (set12_below _ _ _ _ _ _ _ _ _ _ _ _ HV.out.bel (Nat.le_refl _)))
          · exact own12 _ _ _ _ _ _ _ _ _ _ _ _ HR1.out (by decide) HA.out
          · exact own12 _ _ _ _ _ _ _ _ _ _ _ _ HR2.out (by decide) HA.out
      · have h0 : (endOf T.1 T.2 != 0) = true := by simp [hend]
        have HK : Hid (decK S.data.toList = false) := by show _ = _; unfold decK endB; rw [hraw.out]; simp [hend]
        have HA : Hid (u1.heap[w.heap.size]? = some (.cells (recC Rc.zero none 0 none 0) 31)) := (HU.out.zs _ (List.mem_cons_self ..)).1
        obtain ⟨⟨z0, z1, z2, z3, z4, z5, z6, z7, z8, z9, z10, z11⟩, hz⟩ := rw_cells HA.out
        clear hend
        go_wp2
        refine bodyPost_ret (results_one rfl _ rfl (set12 _ _ _ _ _ _ _ _ _ _ _ _ HA.out)) rfl (decP_no HK.out rfl (set12_below _ _ _ _ _ _ _ _ _ _ _ _ HU.out.bel (Nat.le_refl _)))

end Go.Proofs.Ytjhjicokbdloiaa
