/-
  A step's record; a table that isn't there.
-/
import Derived.Test.YticadfaclnimgaaNg
namespace Go.Proofs.Yticadfaclnimgaa
open Go.RowKit Go.Maps

/-- A step. -/
structure OpL where
  kind : Int
  txn : Int
  n : Int
  r : Rc
  ta : Option Addr
  tc : Nat
  da : Option Addr
  dc : Nat
abbrev opC (o : OpL) : Array Value := #[.int .i64 o.kind, .int .i64 o.txn, .int .i64 o.n, .int .i64 o.r.kind, .int .u64 (o.r.lsn : Int), .int .i64 o.r.txn, .int .u64 (o.r.prev : Int), .int .u64 (o.r.undo : Int), .int .i64 o.r.page, .int .i64 o.r.ak, .string (txt o.r.key), .string (txt o.r.old), .string (txt o.r.new), .slice o.ta o.r.txns.length o.tc, .slice o.da o.r.dirty.length o.dc]
/-- The record of a step. -/
def recordR (kind txn : Int) (r : Rc) (last i : Nat) : Rc :=
  if kind = 2 then { r with txn := txn, prev := last, lsn := 16 * (i + 1), undo := if r.kind = 2 ∧ 16 * (i + 1) ≤ r.undo then 0 else r.undo } else r

theorem record_rows (kind txn : Int) (r : Rc) (last i : Nat) : (recordR kind txn r last i).txns = r.txns ∧ (recordR kind txn r last i).dirty = r.dirty ∧ (recordR kind txn r last i).key = r.key ∧ (recordR kind txn r last i).old = r.old ∧ (recordR kind txn r last i).new = r.new ∧ (recordR kind txn r last i).kind = r.kind := by
  unfold recordR; split <;> exact ⟨rfl, rfl, rfl, rfl, rfl, rfl⟩

set_option maxRecDepth 100000 in
set_option maxHeartbeats 8000000 in
theorem record13 (o : OpL) (last i : Nat) (w : World) (hi : i ≤ 1000) :
    Calls Try.prog 13 #[.agg (opC o), .int .u64 (last : Int), .int .i64 (i : Int)] w fun e w' => e = .returned (recV (recordR o.kind o.txn o.r last i) o.ta o.tc o.da o.dc) ∧ Below w.heap.size w w' := by
  obtain ⟨kind, txn, n, ⟨rk, lsn, rt, prev, undo, page, ak, key, old, new, txns, dirty⟩, ta, tc, da, dc⟩ := o
  generalize htl : txns.length = tl
  generalize hdl : dirty.length = dl
  have hcast : ((16 * (i + 1) : Nat) : Int) = 16 * ((i : Int) + 1) := by omega
  by_cases h2 : kind = 2
  · have g2 : (kind == 2) = true := by simpa using h2
    by_cases h3 : rk = 2
    · have g3 : (rk == 2) = true := by simpa using h3
      by_cases h4 : 16 * (i + 1) ≤ undo
      · have g4 : 16 * ((i : Int) + 1) ≤ (undo : Int) := by omega
        have HE := toHid (show recV (recordR kind txn ⟨rk, lsn, rt, prev, undo, page, ak, key, old, new, txns, dirty⟩ last i) ta tc da dc = .agg #[.int .i64 rk, .int .u64 (16 * ((i : Int) + 1)), .int .i64 txn, .int .u64 (last : Int), .int .u64 0, .int .i64 page, .int .i64 ak, .string (txt key), .string (txt old), .string (txt new), .slice ta tl tc, .slice da dl dc] by unfold recordR; rw [if_pos h2]; simp only [recV, recC, htl, hdl]; rw [if_pos ⟨h3, h4⟩, hcast]; rfl)
        clear h2 h3 h4
        clear hcast
        simp only [opC, htl, hdl]
        go_enter Try.func13, Try.ntmps13
        go_wp2
        refine bodyPost_ret (v := .agg #[.int .i64 rk, .int .u64 (16 * ((i : Int) + 1)), .int .i64 txn, .int .u64 (last : Int), .int .u64 0, .int .i64 page, .int .i64 ak, .string (txt key), .string (txt old), .string (txt new), .slice ta tl tc, .slice da dl dc]) (by simp [results, Try.results13, go_sem]) rfl ⟨by rw [HE.out], ?_⟩
        exact (((Below.refl _ _).alloc (Nat.le_refl _) _).alloc (by simp) _).alloc (by simp; omega) _
      · have g4 : ¬ 16 * ((i : Int) + 1) ≤ (undo : Int) := by omega
        have HE := toHid (show recV (recordR kind txn ⟨rk, lsn, rt, prev, undo, page, ak, key, old, new, txns, dirty⟩ last i) ta tc da dc = .agg #[.int .i64 rk, .int .u64 (16 * ((i : Int) + 1)), .int .i64 txn, .int .u64 (last : Int), .int .u64 (undo : Int), .int .i64 page, .int .i64 ak, .string (txt key), .string (txt old), .string (txt new), .slice ta tl tc, .slice da dl dc] by unfold recordR; rw [if_pos h2]; simp only [recV, recC, htl, hdl]; rw [if_neg (fun h => h4 h.2), hcast])
        clear h2 h3 h4
        clear hcast
        simp only [opC, htl, hdl]
        go_enter Try.func13, Try.ntmps13
        go_wp2
        refine bodyPost_ret (v := .agg #[.int .i64 rk, .int .u64 (16 * ((i : Int) + 1)), .int .i64 txn, .int .u64 (last : Int), .int .u64 (undo : Int), .int .i64 page, .int .i64 ak, .string (txt key), .string (txt old), .string (txt new), .slice ta tl tc, .slice da dl dc]) (by simp [results, Try.results13, go_sem]) rfl ⟨by rw [HE.out], ?_⟩
        exact (((Below.refl _ _).alloc (Nat.le_refl _) _).alloc (by simp) _).alloc (by simp; omega) _
    · have g3 : (rk == 2) = false := by simpa using h3
      have HE := toHid (show recV (recordR kind txn ⟨rk, lsn, rt, prev, undo, page, ak, key, old, new, txns, dirty⟩ last i) ta tc da dc = .agg #[.int .i64 rk, .int .u64 (16 * ((i : Int) + 1)), .int .i64 txn, .int .u64 (last : Int), .int .u64 (undo : Int), .int .i64 page, .int .i64 ak, .string (txt key), .string (txt old), .string (txt new), .slice ta tl tc, .slice da dl dc] by unfold recordR; rw [if_pos h2]; simp only [recV, recC, htl, hdl]; rw [if_neg (fun h => h3 h.1), hcast])
      clear h2 h3
      clear hcast
      simp only [opC, htl, hdl]
      go_enter Try.func13, Try.ntmps13
      go_wp2
      refine bodyPost_ret (v := .agg #[.int .i64 rk, .int .u64 (16 * ((i : Int) + 1)), .int .i64 txn, .int .u64 (last : Int), .int .u64 (undo : Int), .int .i64 page, .int .i64 ak, .string (txt key), .string (txt old), .string (txt new), .slice ta tl tc, .slice da dl dc]) (by simp [results, Try.results13, go_sem]) rfl ⟨by rw [HE.out], ?_⟩
      exact (((Below.refl _ _).alloc (Nat.le_refl _) _).alloc (by simp) _).alloc (by simp; omega) _
  · have g2 : (kind == 2) = false := by simpa using h2
    have HE := toHid (show recV (recordR kind txn ⟨rk, lsn, rt, prev, undo, page, ak, key, old, new, txns, dirty⟩ last i) ta tc da dc = .agg #[.int .i64 rk, .int .u64 ((lsn : Int)), .int .i64 rt, .int .u64 (prev : Int), .int .u64 (undo : Int), .int .i64 page, .int .i64 ak, .string (txt key), .string (txt old), .string (txt new), .slice ta tl tc, .slice da dl dc] by unfold recordR; rw [if_neg h2]; simp only [recV, recC, htl, hdl])
    clear h2
    clear hcast
    simp only [opC, htl, hdl]
    go_enter Try.func13, Try.ntmps13
    go_wp2
    refine bodyPost_ret (v := .agg #[.int .i64 rk, .int .u64 ((lsn : Int)), .int .i64 rt, .int .u64 (prev : Int), .int .u64 (undo : Int), .int .i64 page, .int .i64 ak, .string (txt key), .string (txt old), .string (txt new), .slice ta tl tc, .slice da dl dc]) (by simp [results, Try.results13, go_sem]) rfl ⟨by rw [HE.out], ?_⟩
    exact (((Below.refl _ _).alloc (Nat.le_refl _) _).alloc (by simp) _).alloc (by simp; omega) _

/-! A table that isn't there. -/
theorem kept_nil (t : Int) (w : World) : Calls Try.prog 14 #[.pointer none, .int .i64 t] w fun e w' => e = .returned (.int .i64 0) ∧ w' = w := by
  have ha := at_nil t w
  go_enter Try.func14, Try.ntmps14
  go_wp2_with (go_at_call 25; refine ha.mono ?_; rintro e w1 ⟨rfl, hw⟩; obtain rfl := hw.symm)
  go_ret
  exact ⟨rfl, rfl⟩
theorem next_nil (t : Int) (w : World) : Calls Try.prog 15 #[.pointer none, .int .i64 t] w fun e w' => e = .returned (.int .u64 0) ∧ w' = w := by
  have ha := at_nil t w
  go_enter Try.func15, Try.ntmps15
  go_wp2_with (go_at_call 25; refine ha.mono ?_; rintro e w1 ⟨rfl, hw⟩; obtain rfl := hw.symm)
  go_ret
  exact ⟨rfl, rfl⟩
theorem rows_nil (w : World) : Calls Try.prog 24 #[.pointer none] w fun e w' => e = .returned (.slice none 0 0) ∧ w' = w := by
  go_enter Try.func24, Try.ntmps24
  go_wp2
  go_ret
  exact ⟨rfl, rfl⟩
theorem need_nil (r : Rc) (ta : Option Addr) (tc : Nat) (da : Option Addr) (dc : Nat) (w : World) : Calls Try.prog 23 #[.pointer none, recV r ta tc da dc] w fun e w' => e = .returned (.int .i64 0) ∧ Below w.heap.size w w' := by
  have ha := toHid (fun W => at_nil r.txn W)
  have HB := toHid (show Below w.heap.size w (w.alloc (.cells (recC r ta tc da dc) 34)) from (Below.refl _ _).alloc (Nat.le_refl _) _)
  go_enter Try.func23, Try.ntmps23
  go_wp2_with (go_at_call 25; refine Calls.mono (ha.out _) ?_; rintro e w1 ⟨rfl, hw⟩; obtain rfl := hw.symm)
  go_ret
  exact ⟨rfl, HB.out⟩
theorem note_anynil {w : World} {r : Rc} {ta : Option Addr} {tc : Nat} {da : Option Addr} {dc : Nat} (hr : RI w r ta da) : Calls Try.prog 16 #[.pointer none, recV r ta tc da dc] w fun e w' => e = .returned (.int .i64 1) ∧ Below w.heap.size w w' := by
  cases hm : mayB r with
  | false => exact note_arg none hr hm
  | true =>
    by_cases h7 : r.kind < 7
    · exact note_nil hr hm h7
    · exact note_kind none hr hm (by omega)
end Go.Proofs.Yticadfaclnimgaa
