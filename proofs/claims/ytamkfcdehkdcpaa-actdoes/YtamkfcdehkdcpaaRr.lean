/-
  The document's Redo.
-/
import Derived.Test.YtamkfcdehkdcpaaRd
namespace Go.Proofs.Ytamkfcdehkdcpaa
open Go.RowKit

theorem results_cell_tmp2 {fn : Func} {p u s : Tmp} {ty : TypeId} (h : fn.results = #[.cell p ty, .tmp u, .tmp s]) (tmps : Array Value) (P : Program) (w : World) :
    (results fn tmps).run P w =
      ((asAddr (tmps.getD p undef)).run P w).andThen fun a w₁ => ((loadVar ty a).run P w₁).andThen fun v w₂ => .ok (.tuple #[v, tmps.getD u undef, tmps.getD s undef]) w₂ := by
  simp only [results, h]
  simp [Sem.run_bind, Result.andThen]

set_option maxRecDepth 20000 in
set_option maxHeartbeats 3000000 in
theorem refredo_any (id : Int) (lsn : Nat) (a : Option Addr) (c : Nat) (l : List Cl) (r : Rc) (w : World) (h : SlC w a l) (hg : GoodL l) :
    Calls Try.prog 23 #[.agg (refP id lsn a l.length c), recV r] w fun e w' => ∃ a', (∃ c', e = .returned (.tuple #[.agg (refP id (redoM id l lsn r).1.2 a' (redoM id l lsn r).1.1.length c'), .bool (redoM id l lsn r).2.1, .int .i64 (redoM id l lsn r).2.2])) ∧ SlC w' a' (redoM id l lsn r).1.1 ∧ ((a' = a ∧ (redoM id l lsn r).1.1 = l) ∨ ∀ y, a' = some y → w.heap.size ≤ y.block) ∧ Below w.heap.size w w' := by
  have h64 := hg.few
  have HG := (show Hid _ from hg)
  have HB0 : Hid (Below w.heap.size w (((w.alloc (.cells #[.int .i64 id, .int .u64 (lsn : Int), .slice a l.length c] 29)).alloc (.cells #[.int .i64 r.kind, .int .u64 (r.lsn : Int), .int .i64 r.txn, .int .u64 (r.prev : Int), .int .u64 (r.undo : Int), .int .i64 r.page, .int .i64 r.act.kind, .string (txt r.act.key), .string (txt r.act.old), .string (txt r.act.new), .slice r.ta r.tn r.tc, .slice r.da r.dn r.dc] 54)).alloc (.cells #[.int .i64 0, .int .u64 0, .slice none 0 0] 29))) := (((Below.refl _ _).alloc (Nat.le_refl _) _).alloc (by simp) _).alloc (by simp; omega) _
  have HBP : Hid (Below w.heap.size w (((w.alloc (.cells #[.int .i64 id, .int .u64 (lsn : Int), .slice a l.length c] 29)).alloc (.cells #[.int .i64 r.kind, .int .u64 (r.lsn : Int), .int .i64 r.txn, .int .u64 (r.prev : Int), .int .u64 (r.undo : Int), .int .i64 r.page, .int .i64 r.act.kind, .string (txt r.act.key), .string (txt r.act.old), .string (txt r.act.new), .slice r.ta r.tn r.tc, .slice r.da r.dn r.dc] 54)).alloc (.cells #[.int .i64 id, .int .u64 (lsn : Int), .slice a l.length c] 29))) := (((Below.refl _ _).alloc (Nat.le_refl _) _).alloc (by simp) _).alloc (by simp; omega) _
  have HS := (show Hid _ from h)
  have HLT : Hid (∀ x, a = some x → l ≠ [] → x.block ≠ w.heap.size + 2) := fun x hx hl => by have := slC_lt h x hx hl; omega
  have HC := (show Hid _ from refchg_any r.kind)
  clear h hg
  cases hc : chgB r.kind
  · rw [hc] at HC
    have HE : Hid (redoM id l lsn r = ((l, lsn), false, 1)) := by show _ = _; unfold redoM; rw [if_pos (.inl hc)]
    clear hc
    simp only [refP, recV, recC] at *
    go_enter Try.func23, Try.ntmps23
    go_wp2_with fail
    refine Calls.mono (HC.out _) ?_
    rintro e w1 ⟨rfl, hw1⟩
    obtain rfl := hw1.symm
    go_wp2
    (try simp only [Exit.inBlock, Exit.then])
    refine bodyPost_ret (v := .tuple #[.agg (refP id lsn a l.length c), .bool false, .int .i64 1]) ?_ rfl ⟨a, ⟨c, ?_⟩, ?_, (.inl ⟨rfl, by rw [HE.out]⟩), ?_⟩
    · rw [results_cell_tmp2 rfl]
      simp only [refP]
      go_simp
    · rw [HE.out]; rfl
    · rw [HE.out]; exact HS.out.below (by first | with_reducible exact HBP.out | with_reducible exact HB0.out)
    · first | with_reducible exact HBP.out | with_reducible exact HB0.out
  rw [hc] at HC
  by_cases hpg : r.page = id
  rotate_left
  · have HE : Hid (redoM id l lsn r = ((l, lsn), false, 1)) := by show _ = _; unfold redoM; rw [if_pos (.inr hpg)]
    have hpg' : (r.page != id) = true := by simp [hpg]
    clear hpg hc
    simp only [refP, recV, recC] at *
    go_enter Try.func23, Try.ntmps23
    go_wp2_with fail
    refine Calls.mono (HC.out _) ?_
    rintro e w1 ⟨rfl, hw1⟩
    obtain rfl := hw1.symm
    go_wp2
    (try simp only [Exit.inBlock, Exit.then])
    refine bodyPost_ret (v := .tuple #[.agg (refP id lsn a l.length c), .bool false, .int .i64 1]) ?_ rfl ⟨a, ⟨c, ?_⟩, ?_, (.inl ⟨rfl, by rw [HE.out]⟩), ?_⟩
    · rw [results_cell_tmp2 rfl]
      simp only [refP]
      go_simp
    · rw [HE.out]; rfl
    · rw [HE.out]; exact HS.out.below (by first | with_reducible exact HBP.out | with_reducible exact HB0.out)
    · first | with_reducible exact HBP.out | with_reducible exact HB0.out
  have hpg' : (r.page != id) = false := by simp [hpg]
  by_cases hls : r.lsn ≤ lsn
  · have HE : Hid (redoM id l lsn r = ((l, lsn), false, 0)) := by show _ = _; unfold redoM; rw [if_neg (by simp [hc, hpg]), if_pos hls]
    clear hpg hc
    simp only [refP, recV, recC] at *
    go_enter Try.func23, Try.ntmps23
    go_wp2_with fail
    refine Calls.mono (HC.out _) ?_
    rintro e w1 ⟨rfl, hw1⟩
    obtain rfl := hw1.symm
    go_wp2
    (try simp only [Exit.inBlock, Exit.then])
    refine bodyPost_ret (v := .tuple #[.agg (refP id lsn a l.length c), .bool false, .int .i64 0]) ?_ rfl ⟨a, ⟨c, ?_⟩, ?_, (.inl ⟨rfl, by rw [HE.out]⟩), ?_⟩
    · rw [results_cell_tmp2 rfl]
      simp only [refP]
      go_simp
    · rw [HE.out]; rfl
    · rw [HE.out]; exact HS.out.below (by first | with_reducible exact HBP.out | with_reducible exact HB0.out)
    · first | with_reducible exact HBP.out | with_reducible exact HB0.out
  have hls2 : decide (r.lsn ≤ lsn) = false := by simp; omega
  have hls3 : ¬ r.lsn ≤ lsn := hls
  have HRe : Hid (redoM id l lsn r = if (doL l r.act).2 ≠ 0 then ((l, lsn), false, (doL l r.act).2) else (((doL l r.act).1, r.lsn), true, 0)) := by show _ = _; unfold redoM; rw [if_neg (by simp [hc, hpg]), if_neg hls]
  have HDo := (show Hid _ from refdo_any id lsn a c l r.act _ (HS.out.below HB0.out) HG.out)
  clear hpg hc hls
  simp only [refP, recV, recC, actV, actC] at *
  go_enter Try.func23, Try.ntmps23
  go_wp2_with fail
  refine Calls.mono (HC.out _) ?_
  rintro e w1 ⟨rfl, hw1⟩
  obtain rfl := hw1.symm
  go_wp2_with fail
  refine Calls.mono HDo.out ?_
  rintro e w4 ⟨a4, ⟨c4, rfl⟩, hs4, hn4, hb4⟩
  have HB4 := (show Hid _ from below_on HB0.out hb4)
  obtain ⟨k0, k1, k2⟩ := three_kept (by simpa using hb4)
  have HS4 := (show Hid _ from hs4)
  have HX4 : Hid (∀ y, a4 = some y → (doL l r.act).1 ≠ [] → y.block ≠ w.heap.size + 2) := fun y hy hl => by
    rcases hn4 with ⟨e1, e2⟩ | e1
    · exact HLT.out y (by rw [← e1]; exact hy) (by rw [← e2]; exact hl)
    · have := e1 y hy; simp at this; omega
  have HN4 : Hid ((a4 = a ∧ (doL l r.act).1 = l) ∨ ∀ y, a4 = some y → w.heap.size ≤ y.block) := hn4.imp (fun q => q) (fun e1 y hy => Nat.le_trans HB0.out.size (e1 y hy))
  have HDe := (show Hid _ from @do_err l r.act)
  generalize hD : doL l r.act = D at *
  obtain ⟨D, de⟩ := D
  clear hD
  simp only at *
  by_cases hd : de = 0
  · subst hd
    have HE : Hid (redoM id l lsn r = ((D, r.lsn), true, 0)) := by show _ = _; rw [HRe.out]; simp
    have hBq := (Below.refl w4.heap.size w4).alloc (Nat.le_refl _) (.cells #[.int .i64 id, .int .u64 (r.lsn : Int), .slice a4 D.length c4] 29)
    have HBX := (show Hid _ from below_on HB4.out hBq)
    have hkx := box_in' k0 hBq
    have hrx := box_in' k1 hBq
    have HQX := (show Hid _ from box_in' k2 hBq)
    have HSX := (show Hid _ from HS4.out.below hBq)
    obtain ⟨b0, b1, b2, b3, b4, b5, b6, b7, b8, b9, b10, b11, hz3⟩ := cell12 k1
    obtain ⟨q0, q1, q2, g0, g1, g2, hz2⟩ := cell3 HQX.out
    obtain ⟨r0, r1, r2, hS, hB⟩ := put_end (id := id) (lsn := r.lsn) (k := D.length) (xc := c4) HBX.out HQX.out HSX.out HX4.out
    have HF := (show Hid _ from And.intro hS hB)
    clear hS hB hBq hkx hrx k0 k1 k2 hs4 hn4 hb4 b0 b2 b3 b4 b5 b6 b7 b8 b9 b10 b11
    go_wp2
    (try simp only [Exit.inBlock, Exit.then])
    refine bodyPost_ret (v := .tuple #[.agg (refP id r.lsn a4 D.length c4), .bool true, .int .i64 0]) ?_ rfl ⟨a4, ⟨c4, ?_⟩, ?_, (by rw [HE.out]; exact HN4.out), HF.out.2⟩
    · rw [results_cell_tmp2 rfl]
      simp only [refP]
      go_simp
    · rw [HE.out]; rfl
    · rw [HE.out]; exact HF.out.1
  · have HE : Hid (redoM id l lsn r = ((l, lsn), false, de)) := by show _ = _; rw [HRe.out, if_pos hd]
    have hd' : (de != 0) = true := by simp [hd]
    have hBq := (Below.refl w4.heap.size w4).alloc (Nat.le_refl _) (.cells #[.int .i64 id, .int .u64 (lsn : Int), .slice a4 D.length c4] 29)
    have HBX := (show Hid _ from below_on HB4.out hBq)
    have HKX := (show Hid _ from box_in' k0 hBq)
    have HQX := (show Hid _ from box_in' k2 hBq)
    have HSX := (show Hid _ from HS.out.below HBX.out)
    obtain ⟨p0, p1, p2, f0, f1, f2, hz⟩ := cell3 HKX.out
    obtain ⟨q0, q1, q2, g0, g1, g2, hz2⟩ := cell3 HQX.out
    obtain ⟨r0, r1, r2, hS, hB⟩ := put_end (id := id) (lsn := lsn) (k := l.length) (xc := c) HBX.out HQX.out HSX.out HLT.out
    have HF := (show Hid _ from And.intro hS hB)
    clear hS hB hBq k0 k1 k2 hs4 hn4 hb4 hd
    go_wp2
    (try simp only [Exit.inBlock, Exit.then])
    refine bodyPost_ret (v := .tuple #[.agg (refP id lsn a l.length c), .bool false, .int .i64 de]) ?_ rfl ⟨a, ⟨c, ?_⟩, ?_, (.inl ⟨rfl, by rw [HE.out]⟩), HF.out.2⟩
    · rw [results_cell_tmp2 rfl]
      simp only [refP]
      go_simp
    · rw [HE.out]; rfl
    · rw [HE.out]; exact HF.out.1

end Go.Proofs.Ytamkfcdehkdcpaa
