/-
  The walk of ChainNils.
-/
import Derived.Test.YticadfaclnimgaaLc
import Derived.Test.YticadfaclnimgaaLd
namespace Go.Proofs.Yticadfaclnimgaa
open Go.RowKit Go.Maps

theorem eqTx0 (W : World) : (binOp BinOp.eql 43 (.agg #[.int .i64 0, .int .i64 0, .int .u64 0]) (.agg #[.int .i64 0, .int .i64 0, .int .u64 0])).run Try.prog W = .ok (.bool true) W := by kernel_rfl

abbrev Tx0 (W : World) (g : Nat) : Prop := W.cell? ⟨g, 0, none⟩ = some (.int .i64 0) ∧ W.cell? ⟨g, 1, none⟩ = some (.int .i64 0) ∧ W.cell? ⟨g, 2, none⟩ = some (.int .u64 0)

section
variable {w : World} {r : Rc} {ta : Option Addr} {tc : Nat} {da : Option Addr} {dc : Nat}
set_option maxRecDepth 100000 in
set_option maxHeartbeats 8000000 in
theorem nils_walk (t : Int) (hr : RI w r ta da) : Calls Try.prog 6 #[.int .i64 t, recV r ta tc da dc] w fun e w' => e = .returned (.bool true) ∧ Below w.heap.size w w' := by
  have hB0 : Below w.heap.size w (w.alloc (.cells (recC r ta tc da dc) 34)) := (Below.refl _ _).alloc (Nat.le_refl _) _
  have HX := toHid (show ∀ W, Below (w.heap.size + 1) (w.alloc (.cells (recC r ta tc da dc) 34)) W → Box W w.heap.size r ta tc da dc ∧ Below w.heap.size w W from fun W hW => ⟨box_of (box_new hW), hB0.trans (hW.mono (by omega))⟩)
  have hlg := light9 (w := w.alloc (.cells (recC r ta tc da dc) 34)) (ta := ta) (tc := tc) (da := da) (dc := dc) hr.lt hr.ld
  have HLv := toHid lives10
  have HS20 := toHid (fun W => save_nil t W)
  have HS22 := toHid (fun W => mark_nil t 0 W)
  have HS12 := toHid (fun W => row_nil t W)
  have HS11 := toHid (fun W => open_nil t W)
  have HS16 := toHid (fun W (hW : Below w.heap.size w W) => note_anynil (tc := tc) (dc := dc) (hr.below hW))
  have HS21 := toHid (fun W => drop_nil t 0 W)
  have HS15 := toHid (fun W => next_nil t W)
  have HS14 := toHid (fun W => kept_nil t W)
  have HS23 := toHid (fun W => need_nil r ta tc da dc W)
  have HS24 := toHid rows_nil
  have HS19 := toHid (fun W => gone_nil t W)
  have heq := eqTx0
  clear hr hB0
  go_enter Try.func6, Try.ntmps6
  go_wp2_with fail
  refine hlg.mono ?_
  rintro e w1 ⟨b, rfl, hb1⟩
  have HB1 := toHid (show Below (w.heap.size + 1) (w.alloc (.cells (recC r ta tc da dc) 34)) w1 from (by simpa using hb1))
  clear hb1 hlg
  cases b with
  | false =>
    go_wp2_with (go_at_call 10; refine Calls.mono (HLv.out _) ?_; rintro e w2 ⟨rfl, hb2⟩; have HB2 := toHid hb2; clear hb2)
    go_ret
    exact ⟨rfl, (HX.out _ (HB1.out.trans (HB2.out.mono (by have := HB1.out.size; simpa using this)))).2⟩
  | true =>
    go_wp2_with (first
      | (go_at_call 20; refine Calls.mono (HS20.out _) ?_; rintro e w2 ⟨rfl, hw⟩; obtain rfl := hw.symm)
      | (go_at_call 22; refine Calls.mono (HS22.out _) ?_; rintro e w2 ⟨rfl, hw⟩; obtain rfl := hw.symm)
      | (go_at_call 12; refine Calls.mono (HS12.out _) ?_; rintro e w3 ⟨rfl, hb3⟩; simp only [rowO]; have HB3 := toHid (HB1.out.trans (hb3.mono (by have := HB1.out.size; simpa using this))); have hs3 : w.heap.size < w3.heap.size := (by have := HB3.out.size; simp at this; omega); obtain ⟨e0, e1, e2, e3, e4, e5, e6, e7, e8, e9, e10, e11⟩ := (HX.out w3 HB3.out).1; clear hb3)
      | (go_at_call 11; refine Calls.mono (HS11.out _) ?_; rintro e w2 ⟨rfl, hw⟩; obtain rfl := hw.symm))
    have HT := toHid (show ∀ W, Below (w3.heap.size + 1) (w3.alloc (.cells #[.int .i64 0, .int .i64 0, .int .u64 0] 43)) W → Below w.heap.size w W ∧ (Box W w.heap.size r ta tc da dc ∧ Tx0 W w3.heap.size) from fun W hW => by
      have h1 : Below (w.heap.size + 1) (w.alloc (.cells (recC r ta tc da dc) 34)) W := (HB3.out.alloc (by omega) _).trans (hW.mono (by omega))
      have h2 : W.heap[w3.heap.size]? = some (.cells #[.int .i64 0, .int .i64 0, .int .u64 0] 43) := by
        rw [hW.block _ (by omega)]
        exact heap_alloc_new w3 _
      obtain ⟨c0, c1, c2, _⟩ := cells3 h2
      exact ⟨(HX.out W h1).2, (HX.out W h1).1, c0, c1, c2⟩)
    have HD3 := toHid (show Below (w3.heap.size + 1) (w3.alloc (.cells #[.int .i64 0, .int .i64 0, .int .u64 0] 43)) ((w3.alloc (.cells #[.int .i64 0, .int .i64 0, .int .u64 0] 43)).drew) from (Below.refl _ _).drew)
    have hS3 := (HT.out _ HD3.out).2
    clear e0 e1 e2 e3 e4 e5 e6 e7 e8 e9 e10 e11
    simp only [List.append_eq, List.cons_append, List.nil_append]
    go_region_held3 (fun W => Box W w.heap.size r ta tc da dc ∧ Tx0 W w3.heap.size) (with_reducible assumption) (first
      | (go_at_call 11; refine Calls.mono (HS11.out _) ?_; rintro e w2 ⟨rfl, hw⟩; obtain rfl := hw.symm)
      | (go_at_call 16; refine Calls.mono (HS16.out _ (HT.out _ HD3.out).1) ?_; rintro e w4 ⟨rfl, hb4⟩; have HD4 := toHid (HD3.out.trans (hb4.mono (by simp))); have hS4 := (HT.out _ HD4.out).2; clear hb4)
      | (go_at_call 21; refine Calls.mono (HS21.out _) ?_; rintro e w2 ⟨rfl, hw⟩; obtain rfl := hw.symm)
      | (go_at_call 15; refine Calls.mono (HS15.out _) ?_; rintro e w2 ⟨rfl, hw⟩; obtain rfl := hw.symm)
      | (go_at_call 14; refine Calls.mono (HS14.out _) ?_; rintro e w2 ⟨rfl, hw⟩; obtain rfl := hw.symm)
      | (go_at_call 23; refine Calls.mono (HS23.out _) ?_; rintro e w5 ⟨rfl, hb5⟩; have HD5 := toHid (HD4.out.trans (hb5.mono (by have := HD4.out.size; simpa using this))); have hS5 := (HT.out _ HD5.out).2; clear hb5)
      | (go_at_call 24; refine Calls.mono (HS24.out _) ?_; rintro e w2 ⟨rfl, hw⟩; obtain rfl := hw.symm)
      | (go_at_call 19; refine Calls.mono (HS19.out _) ?_; rintro e w2 ⟨rfl, hw⟩; obtain rfl := hw.symm)
      | (go_at_call 10; refine Calls.mono (HLv.out _) ?_; rintro e w6 ⟨rfl, hb6⟩; have HD6 := toHid (HD5.out.trans (hb6.mono (by have := HD5.out.size; simpa using this))); have hS6 := (HT.out _ HD6.out).2; clear hb6))
    all_goals
      go_wp2
      go_ret
      exact ⟨rfl, (HT.out _ HD6.out).1⟩
end
end Go.Proofs.Yticadfaclnimgaa
