/-
  The walk of pair.
-/
import Derived.Test.YtebchgoaelamcaaDoorPr
namespace Go.Proofs.YtebchgoaelamcaaDoor
open Go.RowKit
set_option maxRecDepth 100000

theorem results_tmp_cell {fn : Func} {p u : Tmp} {ty : TypeId} (h : fn.results = #[.tmp u, .cell p ty]) (tmps : Array Value) (P : Program) (w : World) :
    (results fn tmps).run P w =
      ((asAddr (tmps.getD p undef)).run P w).andThen fun a w₁ => ((loadVar ty a).run P w₁).andThen fun v w₂ => .ok (.tuple #[tmps.getD u undef, v]) w₂ := by
  simp only [results, h]
  simp [Sem.run_bind, Result.andThen]

theorem PairOk.drew {w : World} {n p q : Nat} {id : Int} {L : List Cl} {v : Value} {a : Option Addr} {c : Nat} (h : PairOk w n p q id L v a c) : PairOk w.drew n p q id L v a c := ⟨h.pg.drew, h.good, h.ref, ⟨h.sl.nonil, h.sl.cells⟩, h.own, h.sep⟩
theorem PairOk.drewN {w : World} {n p q : Nat} {id : Int} {L : List Cl} {v : Value} {a : Option Addr} {c : Nat} (h : PairOk w n p q id L v a c) (m : Nat) : PairOk (w.drewN m) n p q id L v a c := ⟨h.pg.drewN m, h.good, h.ref, ⟨h.sl.nonil, h.sl.cells⟩, h.own, h.sep⟩

theorem PairOk.setN {w : World} {n : Nat} {id : Int} {L : List Cl} {v : Value} {a : Option Addr} {c : Nat} (h : PairOk w n (n + 1) (n + 2) id L v a c) (i : Nat) (u : Value) : PairOk (w.setCell ⟨n, i, none⟩ u) n (n + 1) (n + 2) id L v a c :=
  ⟨⟨by rw [heap_setCell_other _ _ _ _ (by simp)]; exact h.pg.blk, ownsRow_setCell_other h.pg.own (a := ⟨n, i, none⟩) (fun e => by have := h.own _ e; simp at this; omega) _, h.pg.ne, h.pg.base⟩, h.good, by rw [heap_setCell_other _ _ _ _ (by simp)]; exact h.ref, h.sl.setOther (p := ⟨n, i, none⟩) (fun y hy hl => by have := (h.sep y hy hl).2.2; simp; omega) _, h.own, h.sep⟩

set_option maxRecDepth 20000 in
set_option maxHeartbeats 2000000 in
theorem pair_any (a : Option Addr) (c : Nat) (l : List Pr) (w : World) (h : SlP w a l) (hl : l.length ≤ maxLen) :
    Calls Tryd.prog 18 #[.slice a l.length c] w fun e w' => ∃ L v a' c', e = .returned (.tuple #[.pointer (some ⟨w.heap.size + 1, 0, none⟩), .agg (refP 0 0 a' L.length c')]) ∧ PairOk w' w.heap.size (w.heap.size + 1) (w.heap.size + 2) 0 L v a' c' ∧ Below w.heap.size w w' := by
  unfold maxLen at hl
  have HS := (show Hid _ from h)
  have hB0 : Below w.heap.size w (w.alloc (.cells #[.int .i64 0, .int .u64 0, .slice none 0 0] 39)) := (Below.refl _ _).alloc (Nat.le_refl _) _
  have HN := (show Hid _ from new_yes 0 (w.alloc (.cells #[.int .i64 0, .int .u64 0, .slice none 0 0] 39)) (by decide))
  clear h
  go_enter Tryd.func18, Tryd.ntmps18
  go_wp2_with fail
  refine Calls.mono HN.out ?_
  rintro e w1 ⟨rfl, hw1⟩
  have hp1 : PgOk w1 (w.heap.size + 1) (w.heap.size + 1) 0 0 (.slice none 0 0) [] := by rw [hw1]; simpa using PgOk.new 0 (w.alloc (.cells #[.int .i64 0, .int .u64 0, .slice none 0 0] 39))
  have hz1 : w1.heap.size = w.heap.size + 2 := by rw [hw1]; simp
  have hb1 : Below w.heap.size w w1 := by rw [hw1]; exact hB0.alloc (by simp) _
  have hr1 : w1.heap[w.heap.size]? = some (.cells #[.int .i64 0, .int .u64 0, .slice none 0 0] 39) := by
    rw [hw1, Below.heap_alloc _ _ _ (by simp)]
    exact heap_alloc_new _ _
  have HP2 : Hid (PairOk (w1.alloc (.cells #[.int .i64 0, .int .u64 0, .slice none 0 0] 39)) w.heap.size (w.heap.size + 1) (w.heap.size + 2) 0 [] (.slice none 0 0) none 0) := by
    refine ⟨hp1.below ((Below.refl _ _).alloc (Nat.le_refl _) _) (Nat.le_refl _), goodL_nil, ?_, ⟨fun _ => rfl, fun x hx => by simp at hx⟩, fun k hk => by simp [Value.ownBlock] at hk, fun y hy => by simp at hy⟩
    have := heap_alloc_new w1 (.cells #[.int .i64 0, .int .u64 0, .slice none 0 0] 39)
    rw [hz1] at this
    exact this
  have HR2 : Hid ((w1.alloc (.cells #[.int .i64 0, .int .u64 0, .slice none 0 0] 39)).heap[w.heap.size]? = some (.cells #[.int .i64 0, .int .u64 0, .slice none 0 0] 39)) := by
    show _ = _
    rw [Below.heap_alloc _ _ _ (by omega)]
    exact hr1
  have HB2 : Hid (Below w.heap.size w (w1.alloc (.cells #[.int .i64 0, .int .u64 0, .slice none 0 0] 39))) := hb1.alloc (by omega) _
  have HZ1 := (show Hid _ from hz1)
  have hn : (⟨w1.heap.size, 0, none⟩ : Addr) = ⟨w.heap.size + 2, 0, none⟩ := by rw [hz1]
  clear hp1 hb1 hr1 hw1 hB0 HN hn
  go_wp2_with fail
  go_loopw [7] (fun i wr => ∃ (k : Nat) (L : List Cl) (v : Value) (a' : Option Addr) (c' : Nat), k ≤ l.length ∧ i = .int .i64 k ∧ PairOk wr w.heap.size (w.heap.size + 1) (w.heap.size + 2) 0 L v a' c' ∧ wr.heap[w.heap.size]? = some (.cells #[.int .i64 0, .int .u64 0, .slice none 0 0] 39) ∧ Below w.heap.size w wr) (fun i _ => l.length - (intOf i).toNat)
  case atStart => exact ⟨0, [], _, _, _, Nat.zero_le _, rfl, HP2.out, HR2.out, HB2.out⟩
  case round =>
    obtain ⟨k, L, v, a', c', hk, rfl, hpr, hrr, hbr⟩ := hrel
    have HPr := (show Hid _ from hpr)
    have HRr := (show Hid _ from hrr)
    have HBr := (show Hid _ from hbr)
    clear hpr hrr hbr HP2 HR2 HB2
    obtain ⟨d0, d1, d2, g0, g1, g2, hzd⟩ := cell3 HPr.out.ref
    by_cases hlt : k < l.length
    · by_cases h70 : k < 70
      · obtain ⟨b, o, rfl, hbl, c0, c1⟩ := (HS.out.on HBr.out).at k hlt
        have hsm := HS.out.small l[k] (List.getElem_mem hlt)
        go_wp2_with fail
        go_quiet (fail)
        go_wp2_with fail
        · generalize hwq : wr.drewN nq = wq
          have HPq : Hid (PairOk wq w.heap.size (w.heap.size + 1) (w.heap.size + 2) 0 L v a' c') := by rw [← hwq]; exact HPr.out.drewN _
          have HRq : Hid (wq.heap[w.heap.size]? = some (.cells #[.int .i64 0, .int .u64 0, .slice none 0 0] 39)) := by rw [← hwq]; exact HRr.out
          have HBq : Hid (Below w.heap.size w wq) := by rw [← hwq]; exact below_drewN HBr.out _
          clear hwq c0 c1 hbl d0 d1 d2 g0 g1 g2 hzd HPr HRr HBr
          obtain ⟨b', o', he, hbl, c0, c1⟩ := (HS.out.on HBq.out).at k hlt
          simp at he
          obtain ⟨rfl, rfl⟩ := he
          refine wp_region_quiet_tail 11 Tryd.mixed (by kernel_rfl) ?_
          simp only [List.take_succ_cons, List.take_zero, List.drop_succ_cons, List.drop_zero]
          repeat (go_big_quiet_step (fail))
          refine wpQuiet_nil ?_
          go_wp2_with fail
          refine Calls.mono (insert_any (w.heap.size + 1) (w.heap.size + 1) 0 0 v L l[k].key l[k].val _ HPq.out.drew.pg HPq.out.good hsm.1 hsm.2) ?_
          rintro e w3 ⟨rfl, v3, hp3, ht3, hf3⟩
          have hi1 := HPq.out.drew.ins1 hp3 ht3 hf3 (by omega)
          have HI1 := (show Hid _ from hi1)
          have HP3 := (show Hid _ from hp3)
          have HR3 := (show Hid _ from ht3.kept (show wq.drew.heap[w.heap.size]? = some (.cells #[.int .i64 0, .int .u64 0, .slice none 0 0] 39) from HRq.out) (by omega) (fun e => by have := HPq.out.own _ e; omega))
          have HB3 : Hid (Below w.heap.size w w3) := HBq.out.drew.trans ((HPq.out.drew.pg.touched ht3).mono (by omega))
          clear hi1 hp3 ht3 hf3 c0 c1 hbl
          obtain ⟨b', o', he, hbl, c0, c1⟩ := (HS.out.on HB3.out).at k hlt
          simp at he
          obtain ⟨rfl, rfl⟩ := he
          obtain ⟨d0, d1, d2, g0, g1, g2, hzd⟩ := cell3 HI1.out.1
          have HIn := (show Hid _ from refinsert_any 0 0 a' c' L l[k].key l[k].val w3.drew ⟨HI1.out.2.1.nonil, HI1.out.2.1.cells⟩ HPq.out.good)
          simp only [refP] at HIn
          go_wp2_with fail
          refine wp_region_held_drew (S := (fun W => W.cell? ⟨b, o + k * 2, none⟩ = some (.string (txt l[k].key)) ∧ W.cell? ⟨b, o + k * 2 + 1, none⟩ = some (.string (txt l[k].val)))) (by kernel_rfl) ⟨c0, c1⟩ (fun hHeld => ?_)
          refine wpAnyH_take (i := 1) (v := ?_) rfl (by kernel_rfl) (by kernel_rfl) (by kernel_rfl) (fun _ _ _ h => h) (Or.inl ⟨by rfl, ?_⟩) (by assumption) ?_
          rotate_left
          · (intro W hSw; (try dsimp only at hSw); go_simp; try with_reducible rfl)
          try simp only [Act.put, List.getElem_toArray, List.getElem_cons_zero, List.getElem_cons_succ, List.setIfInBounds_toArray, List.set_cons_zero, List.set_cons_succ]
          refine wpAnyH_take (i := 2) (v := ?_) rfl (by kernel_rfl) (by kernel_rfl) (by kernel_rfl) (fun _ _ _ h => h) (Or.inl ⟨by rfl, ?_⟩) (by assumption) ?_
          rotate_left
          · (intro W hSw; (try dsimp only at hSw); go_simp; try with_reducible rfl)
          try simp only [Act.put, List.getElem_toArray, List.getElem_cons_zero, List.getElem_cons_succ, List.setIfInBounds_toArray, List.set_cons_zero, List.set_cons_succ]
          refine wpAnyH_take (i := 3) (v := ?_) rfl (by kernel_rfl) (by kernel_rfl) (by kernel_rfl) (fun _ _ _ h => h) (Or.inl ⟨by rfl, ?_⟩) (by assumption) ?_
          rotate_left
          · (intro W hSw; (try dsimp only at hSw); go_simp; try with_reducible rfl)
          try simp only [Act.put, List.getElem_toArray, List.getElem_cons_zero, List.getElem_cons_succ, List.setIfInBounds_toArray, List.set_cons_zero, List.set_cons_succ]
          refine wpAnyH_take (i := 4) (v := ?_) rfl (by kernel_rfl) (by kernel_rfl) (by kernel_rfl) (fun _ _ _ h => h) (Or.inl ⟨by rfl, ?_⟩) (by assumption) ?_
          rotate_left
          · (intro W hSw; (try dsimp only at hSw); go_simp; try with_reducible rfl)
          try simp only [Act.put, List.getElem_toArray, List.getElem_cons_zero, List.getElem_cons_succ, List.setIfInBounds_toArray, List.set_cons_zero, List.set_cons_succ]
          refine wpAnyH_take (i := 5) (v := ?_) rfl (by kernel_rfl) (by kernel_rfl) (by kernel_rfl) (fun _ _ _ h => h) (Or.inl ⟨by rfl, ?_⟩) (by assumption) ?_
          rotate_left
          · (intro W hSw; (try dsimp only at hSw); go_simp; try with_reducible rfl)
          try simp only [Act.put, List.getElem_toArray, List.getElem_cons_zero, List.getElem_cons_succ, List.setIfInBounds_toArray, List.set_cons_zero, List.set_cons_succ]
          refine wpAnyH_take (i := 6) (v := ?_) rfl (by kernel_rfl) (by kernel_rfl) (by kernel_rfl) (fun _ _ _ h => h) (Or.inl ⟨by rfl, ?_⟩) (by assumption) ?_
          rotate_left
          · (intro W hSw; (try dsimp only at hSw); go_simp; try with_reducible rfl)
          try simp only [Act.put, List.getElem_toArray, List.getElem_cons_zero, List.getElem_cons_succ, List.setIfInBounds_toArray, List.set_cons_zero, List.set_cons_succ]
          refine wpAnyH_take (i := 7) (v := ?_) rfl (by kernel_rfl) (by kernel_rfl) (by kernel_rfl) (fun _ _ _ h => h) (Or.inl ⟨by rfl, ?_⟩) (by assumption) ?_
          rotate_left
          · (intro W hSw; (try dsimp only at hSw); go_simp; try with_reducible rfl)
          try simp only [Act.put, List.getElem_toArray, List.getElem_cons_zero, List.getElem_cons_succ, List.setIfInBounds_toArray, List.set_cons_zero, List.set_cons_succ]
          refine wpAnyH_take (i := 8) (v := ?_) rfl (by kernel_rfl) (by kernel_rfl) (by kernel_rfl) (fun _ _ _ h => h) (Or.inl ⟨by rfl, ?_⟩) (by assumption) ?_
          rotate_left
          · (intro W hSw; (try dsimp only at hSw); go_simp; try with_reducible rfl)
          try simp only [Act.put, List.getElem_toArray, List.getElem_cons_zero, List.getElem_cons_succ, List.setIfInBounds_toArray, List.set_cons_zero, List.set_cons_succ]
          refine wpAnyH_take (i := 9) (v := ?_) rfl (by kernel_rfl) (by kernel_rfl) (by kernel_rfl) (fun _ _ _ h => h) (Or.inl ⟨by rfl, ?_⟩) (by assumption) ?_
          rotate_left
          · (intro W hSw; (try dsimp only at hSw); go_simp; try with_reducible rfl)
          try simp only [Act.put, List.getElem_toArray, List.getElem_cons_zero, List.getElem_cons_succ, List.setIfInBounds_toArray, List.set_cons_zero, List.set_cons_succ]
          refine wpAnyH_take (i := 10) (v := ?_) rfl (by kernel_rfl) (by kernel_rfl) (by kernel_rfl) (fun _ _ _ h => h) (Or.inl ⟨by rfl, ?_⟩) (by assumption) ?_
          rotate_left
          · (intro W hSw; (try dsimp only at hSw); go_simp; try with_reducible rfl)
          try simp only [Act.put, List.getElem_toArray, List.getElem_cons_zero, List.getElem_cons_succ, List.setIfInBounds_toArray, List.set_cons_zero, List.set_cons_succ]
          refine wpAnyH_ready (rs := [0]) (by kernel_rfl) (by simp) ?_
          refine AllReadyH.cons rfl (fun K hK => ?_) AllReadyH.nil
          go_simp
          try go_wp2_with fail
          refine hK.out _ _ (⟨c0, c1⟩) (fun hHeld => ?_)
          clear hK K
          try simp only [Act.put, List.getElem_toArray, List.getElem_cons_zero, List.getElem_cons_succ, List.setIfInBounds_toArray, List.set_cons_zero, List.set_cons_succ]
          refine wpAnyH_ready (rs := [11]) (by kernel_rfl) (by simp) ?_
          refine AllReadyH.cons rfl (fun K hK => ?_) AllReadyH.nil
          go_simp
          refine Calls.mono HIn.out ?_
          clear hHeld
          rintro e w5 ⟨a5, ⟨c5, rfl⟩, hs5, hn5, hb5⟩
          have hq5 := box_in' HI1.out.1 (below_undrew hb5)
          have HR5 := (show Hid _ from box_in' HR3.out (below_undrew hb5))
          have HB5 := (show Hid _ from below_on HB3.out (below_undrew hb5))
          have HP6 := (show Hid _ from PairOk.ins2 (c' := c5) HP3.out (ins_good HPq.out.good _ _) HI1.out.1 HI1.out.2.2.1 HI1.out.2.2.2 hs5 hn5 (below_undrew hb5) (by omega))
          clear d0 d1 d2 g0 g1 g2 hzd hs5 hn5 hb5 c0 c1 hbl
          obtain ⟨b', o', he, hbl, c0, c1⟩ := (HS.out.on HB5.out).at k hlt
          simp at he
          obtain ⟨rfl, rfl⟩ := he
          obtain ⟨d0, d1, d2, g0, g1, g2, hzd⟩ := cell3 hq5
          clear hq5
          try go_wp2_with fail
          refine hK.out _ _ (⟨c0, c1⟩) (fun hHeld => ?_)
          clear hK K
          try simp only [Act.put, List.getElem_toArray, List.getElem_cons_zero, List.getElem_cons_succ, List.setIfInBounds_toArray, List.set_cons_zero, List.set_cons_succ]
          refine wpAnyH_take (i := 12) (v := ?_) rfl (by kernel_rfl) (by kernel_rfl) (by kernel_rfl) (fun _ _ _ h => h) (Or.inl ⟨by rfl, ?_⟩) (by assumption) ?_
          rotate_left
          · (intro W hSw; (try dsimp only at hSw); go_simp; try with_reducible rfl)
          try simp only [Act.put, List.getElem_toArray, List.getElem_cons_zero, List.getElem_cons_succ, List.setIfInBounds_toArray, List.set_cons_zero, List.set_cons_succ]
          refine wpAnyH_take (i := 13) (v := ?_) rfl (by kernel_rfl) (by kernel_rfl) (by kernel_rfl) (fun _ _ _ h => h) (Or.inl ⟨by rfl, ?_⟩) (by assumption) ?_
          rotate_left
          · (intro W hSw; (try dsimp only at hSw); go_simp; try with_reducible rfl)
          try simp only [Act.put, List.getElem_toArray, List.getElem_cons_zero, List.getElem_cons_succ, List.setIfInBounds_toArray, List.set_cons_zero, List.set_cons_succ]
          refine wpAnyH_take (i := 14) (v := ?_) rfl (by kernel_rfl) (by kernel_rfl) (by kernel_rfl) (fun _ _ _ h => h) (Or.inl ⟨by rfl, ?_⟩) (by assumption) ?_
          rotate_left
          · (intro W hSw; (try dsimp only at hSw); go_simp; try with_reducible rfl)
          try simp only [Act.put, List.getElem_toArray, List.getElem_cons_zero, List.getElem_cons_succ, List.setIfInBounds_toArray, List.set_cons_zero, List.set_cons_succ]
          refine wpAnyH_ready (rs := [15]) (by kernel_rfl) (by simp) ?_
          refine AllReadyH.cons rfl (fun K hK => ?_) AllReadyH.nil
          go_simp
          try go_wp2_with fail
          have HB6 := (show Hid _ from ((HB5.out.setCell (p := ⟨w.heap.size + 2, 0, none⟩) (by simp) (.int .i64 0)).setCell (p := ⟨w.heap.size + 2, 1, none⟩) (by simp) (.int .u64 0)).setCell (p := ⟨w.heap.size + 2, 2, none⟩) (by simp) (.slice a5 (insL L l[k].key l[k].val).1.length c5))
          obtain ⟨b', o', he, hbl6, e0, e1⟩ := (HS.out.on HB6.out).at k hlt
          simp at he
          obtain ⟨rfl, rfl⟩ := he
          refine hK.out _ _ ⟨e0, e1⟩ (fun hHeld => ?_)
          clear hK K
          try simp only [Act.put, List.getElem_toArray, List.getElem_cons_zero, List.getElem_cons_succ, List.setIfInBounds_toArray, List.set_cons_zero, List.set_cons_succ]
          refine wpAnyH_done (by kernel_rfl) ?_ _
          clear hHeld e0 e1 hbl6
          go_wp2_with fail
          go_roundw
          case rel => exact ⟨k + 1, _, v3, a5, c5, by omega, by simp, HP6.out, by
            rw [heap_setCell_other _ _ _ _ (by simp), heap_setCell_other _ _ _ _ (by simp), heap_setCell_other _ _ _ _ (by simp)]
            exact HR5.out, ((HB5.out.setCell (by simp) _).setCell (by simp) _).setCell (by simp) _⟩
          case measure => first | omega | (simp only [intOf]; omega)
        · go_roundw
          case rel => exact ⟨k + 1, L, v, a', c', by omega, by simp, HPr.out.drewN _, HRr.out, below_drewN HBr.out _⟩
          case measure => first | omega | (simp only [intOf]; omega)
      · have hkk : decide ((k : Int) < 70) = false := by simp; omega
        go_wp2_with fail
        refine wp_region_quiet_tail 3 Tryd.mixed (by kernel_rfl) ?_
        simp only [List.take_succ_cons, List.take_zero, List.drop_succ_cons, List.drop_zero]
        repeat (go_big_quiet_step (fail))
        refine wpQuiet_nil ?_
        obtain ⟨r0, r1, r2, hS, hB⟩ := put_end (id := 0) (lsn := 0) (k := L.length) (xc := c') (xa := a') (L := L) (HBr.out.drew) (show wr.drew.heap[w.heap.size]? = some (.cells #[.int .i64 0, .int .u64 0, .slice none 0 0] 39) from HRr.out) (HPr.out.drew.sl) (fun x hx hl => by have := (HPr.out.sep x hx hl).2.2; omega)
        have HF := (show Hid _ from And.intro (((HPr.out.drew.setN 0 (.int .i64 0)).setN 1 (.int .u64 ((0 : Nat) : Int))).setN 2 (.slice a' L.length c')) hB)
        clear hS hB
        obtain ⟨y0, y1, y2, z0, z1, z2, hzy⟩ := cell3 HRr.out
        simp only [show ((0 : Nat) : Int) = 0 from rfl] at r0 r1 r2
        go_wp2
        refine bodyPost_ret (v := .tuple #[.pointer (some ⟨w.heap.size + 1, 0, none⟩), .agg (refP 0 0 a' L.length c')]) ?_ ?_ ?_
        · rw [results_tmp_cell rfl]
          simp only [refP]
          go_simp
        · rfl
        · first | exact ⟨L, v, a', c', rfl, HF.out.1, HF.out.2⟩ | exact ⟨L, v, a', ⟨c', rfl, HF.out.1⟩, HF.out.2⟩
    · have hkl : k = l.length := by omega
      have hkk : decide ((k : Int) < (l.length : Int)) = false := by simp; omega
      go_wp2_with fail
      refine wp_region_quiet_tail 3 Tryd.mixed (by kernel_rfl) ?_
      simp only [List.take_succ_cons, List.take_zero, List.drop_succ_cons, List.drop_zero]
      repeat (go_big_quiet_step (fail))
      refine wpQuiet_nil ?_
      obtain ⟨r0, r1, r2, hS, hB⟩ := put_end (id := 0) (lsn := 0) (k := L.length) (xc := c') (xa := a') (L := L) (HBr.out.drew) (show wr.drew.heap[w.heap.size]? = some (.cells #[.int .i64 0, .int .u64 0, .slice none 0 0] 39) from HRr.out) (HPr.out.drew.sl) (fun x hx hl => by have := (HPr.out.sep x hx hl).2.2; omega)
      have HF := (show Hid _ from And.intro (((HPr.out.drew.setN 0 (.int .i64 0)).setN 1 (.int .u64 ((0 : Nat) : Int))).setN 2 (.slice a' L.length c')) hB)
      clear hS hB
      obtain ⟨y0, y1, y2, z0, z1, z2, hzy⟩ := cell3 HRr.out
      simp only [show ((0 : Nat) : Int) = 0 from rfl] at r0 r1 r2
      go_wp2
      refine bodyPost_ret (v := .tuple #[.pointer (some ⟨w.heap.size + 1, 0, none⟩), .agg (refP 0 0 a' L.length c')]) ?_ ?_ ?_
      · rw [results_tmp_cell rfl]
        simp only [refP]
        go_simp
      · rfl
      · first | exact ⟨L, v, a', c', rfl, HF.out.1, HF.out.2⟩ | exact ⟨L, v, a', ⟨c', rfl, HF.out.1⟩, HF.out.2⟩

end Go.Proofs.YtebchgoaelamcaaDoor
