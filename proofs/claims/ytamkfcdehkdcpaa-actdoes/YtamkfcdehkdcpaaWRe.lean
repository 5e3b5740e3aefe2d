/-
  The walk of ActRedoes.
-/
import Derived.Test.YtamkfcdehkdcpaaAl
import Derived.Test.YtamkfcdehkdcpaaPw
import Derived.Test.YtamkfcdehkdcpaaOr
namespace Go.Proofs.Ytamkfcdehkdcpaa
open Go.RowKit

/-- A page in block p, the document's in block g, that have the same. -/
structure TwoOk (w : World) (n p g : Nat) (id : Int) (lsn : Nat) (L : List Cl) (v : Value) (a : Option Addr) (c : Nat) : Prop where
  pg : PgOk w (n + 1) p id lsn v L
  good : GoodL L
  ref : w.heap[g]? = some (.cells #[.int .i64 id, .int .u64 (lsn : Int), .slice a L.length c] 29)
  sl : SlC w a L
  own : v.ownBlock ≠ some g
  pne : g ≠ p
  sep : ∀ y, a = some y → L ≠ [] → y.block ≠ p ∧ v.ownBlock ≠ some y.block ∧ y.block ≠ g

theorem TwoOk.on {w w' : World} {n p g : Nat} {id : Int} {lsn : Nat} {L : List Cl} {v : Value} {a : Option Addr} {c : Nat} (h : TwoOk w n p g id lsn L v a c) (hb : Below w.heap.size w w') : TwoOk w' n p g id lsn L v a c :=
  ⟨h.pg.below hb (Nat.le_refl _), h.good, box_in' h.ref hb, h.sl.below hb, h.own, h.pne, h.sep⟩

def newW (w : World) (g : Nat) (id : Int) (lsn : Nat) (x : Value) : World := ((w.setCell ⟨g, 0, none⟩ (.int .i64 id)).setCell ⟨g, 1, none⟩ (.int .u64 (lsn : Int))).setCell ⟨g, 2, none⟩ x

theorem newW_other {w : World} {g k : Nat} (hk : k ≠ g) (id : Int) (lsn : Nat) (x : Value) : (newW w g id lsn x).heap[k]? = w.heap[k]? := by
  unfold newW
  rw [heap_setCell_other _ _ _ _ hk, heap_setCell_other _ _ _ _ hk, heap_setCell_other _ _ _ _ hk]
theorem newW_size {w : World} {g : Nat} (id : Int) (lsn : Nat) (x : Value) : (newW w g id lsn x).heap.size = w.heap.size := by simp [newW]
theorem newW_at {w : World} {g : Nat} {z0 z1 z2 : Value} (h : w.heap[g]? = some (.cells #[z0, z1, z2] 29)) (id : Int) (lsn : Nat) (x : Value) : (newW w g id lsn x).heap[g]? = some (.cells #[.int .i64 id, .int .u64 (lsn : Int), x] 29) :=
  heap_setCell_same _ g 2 _ 29 x (heap_setCell_same _ g 1 _ 29 (.int .u64 (lsn : Int)) (heap_setCell_same w g 0 _ 29 (.int .i64 id) h))
theorem newW_below {w0 w : World} {n g : Nat} (h : Below n w0 w) (hg : n ≤ g) (id : Int) (lsn : Nat) (x : Value) : Below n w0 (newW w g id lsn x) := ((h.setCell hg _).setCell hg _).setCell hg _
theorem newW_sl {w : World} {g : Nat} {a : Option Addr} {l : List Cl} (h : SlC w a l) (hx : ∀ y, a = some y → l ≠ [] → y.block ≠ g) (id : Int) (lsn : Nat) (x : Value) : SlC (newW w g id lsn x) a l :=
  ((h.setOther (p := ⟨g, 0, none⟩) hx _).setOther (p := ⟨g, 1, none⟩) hx _).setOther (p := ⟨g, 2, none⟩) hx _
theorem newW_pg {w : World} {g B p : Nat} {id0 : Int} {lsn0 : Nat} {v : Value} {l : List Cl} (h : PgOk w B p id0 lsn0 v l) (hg : g ≠ p) (ho : v.ownBlock ≠ some g) (id : Int) (lsn : Nat) (x : Value) : PgOk (newW w g id lsn x) B p id0 lsn0 v l :=
  ⟨by rw [newW_other (Ne.symm hg)]; exact h.blk, ownsRow_setCell_other (ownsRow_setCell_other (ownsRow_setCell_other h.own (a := ⟨g, 0, none⟩) ho _) (a := ⟨g, 1, none⟩) ho _) (a := ⟨g, 2, none⟩) ho _, h.ne, h.base⟩

/-- Behind both. -/
theorem two_next {wX w8 : World} {n p g : Nat} {id : Int} {lsn lsn' : Nat} {L L' : List Cl} {v v8 : Value} {a a5 : Option Addr} {c c5 : Nat} (T : TwoOk wX n p g id lsn L v a c) (hS : SlC wX a5 L') (hn : ∀ y, a5 = some y → L' ≠ [] → y.block ≠ p ∧ v.ownBlock ≠ some y.block ∧ y.block ≠ g)
    (hg : GoodL L') (hp : PgOk w8 (n + 1) p id lsn' v8 L') (ht : Touch p v.ownBlock (newW wX g id lsn' (.slice a5 L'.length c5)) w8) (hf : Fresh (newW wX g id lsn' (.slice a5 L'.length c5)) v v8) : TwoOk w8 n p g id lsn' L' v8 a5 c5 := by
  have hgz := lt_of_blk T.ref
  have hS7 := newW_sl hS (fun y hy hl => (hn y hy hl).2.2) id lsn' (.slice a5 L'.length c5)
  refine ⟨hp, hg, ht.kept (newW_at T.ref _ _ _) T.pne T.own, hS7.touch ht (fun y hy hl => ⟨(hn y hy hl).1, (hn y hy hl).2.1⟩), fun e => ?_, T.pne, fun y hy hl => ⟨(hn y hy hl).1, fun e => ?_, (hn y hy hl).2.2⟩⟩
  · rcases hf _ e with e' | e'
    · exact T.own e'
    · rw [newW_size] at e'; omega
  · rcases hf _ e with e' | e'
    · exact (hn y hy hl).2.1 e'
    · have := slC_lt hS y hy hl; rw [newW_size] at e'; omega

set_option maxRecDepth 20000 in
set_option maxHeartbeats 2000000 in
theorem walkRedoes (a : Option Addr) (c : Nat) (l : List Pr) (ra : Option Addr) (rc : Nat) (rs : List Rc) (w : World) (h : SlP w a l) (hl : l.length ≤ maxLen) (hr : SlR w ra rs) :
    Calls Try.prog 6 #[.slice a l.length c, .slice ra rs.length rc] w fun e w' => e = .returned (.bool true) ∧ Below w.heap.size w w' := by
  have HP := (show Hid _ from pair_any 3 (by decide) a c l w h hl)
  have HR := (show Hid _ from hr)
  have HLv := (show Hid _ from lives_any)
  clear h hl hr
  go_enter Try.func6, Try.ntmps6
  go_wp2_with fail
  refine Calls.mono HP.out ?_
  rintro e w1 ⟨L0, v0, a0, c0, rfl, hp0, hb0⟩
  have hBa := (Below.refl w1.heap.size w1).alloc (Nat.le_refl _) (.cells #[.int .i64 3, .int .u64 0, .slice a0 L0.length c0] 29)
  have HT0 : Hid (TwoOk (w1.alloc (.cells #[.int .i64 3, .int .u64 0, .slice a0 L0.length c0] 29)) w.heap.size (w.heap.size + 1) w1.heap.size 3 0 L0 v0 a0 c0) :=
    ⟨hp0.pg.below hBa (Nat.le_refl _), hp0.good, heap_alloc_new _ _, hp0.sl.below hBa, fun e => by have := ownsRow_lt hp0.pg.own _ e; omega, by have := lt_of_blk hp0.pg.blk; omega, fun y hy hl => ⟨(hp0.sep y hy hl).1, (hp0.sep y hy hl).2.1, by have := slC_lt hp0.sl y hy hl; omega⟩⟩
  have HB0 := (show Hid _ from below_on hb0 hBa)
  have HW1 : Hid (w.heap.size ≤ w1.heap.size) := hb0.size
  clear hp0 hb0 hBa HP
  simp only [refP]
  go_wp2_with fail
  go_loopw [7] (fun i wr => ∃ (k : Nat) (L : List Cl) (lsn : Nat) (v : Value) (a' : Option Addr) (c' : Nat), k ≤ rs.length ∧ i = .int .i64 k ∧ TwoOk wr w.heap.size (w.heap.size + 1) w1.heap.size 3 lsn L v a' c' ∧ lsn < 18446744073709551616 ∧ Below w.heap.size w wr) (fun i _ => rs.length - (intOf i).toNat)
  case atStart => exact ⟨0, L0, 0, v0, a0, c0, Nat.zero_le _, rfl, HT0.out, by decide, HB0.out⟩
  case round =>
    obtain ⟨k, L, lsn, v, a', c', hk, rfl, htr, hlsn, hbr⟩ := hrel
    have HTr := (show Hid _ from htr)
    have HBr := (show Hid _ from hbr)
    clear htr hbr HT0 HB0
    by_cases hlt : k < rs.length
    · by_cases h60 : k < 60
      · obtain ⟨b, o, rfl, hbl, hC⟩ := (HR.out.on HBr.out).at k hlt
        have s6 := hC 6 _ rfl
        have s7 := hC 7 _ rfl
        have s8 := hC 8 _ rfl
        have s9 := hC 9 _ rfl
        have HSh := (show Hid _ from short_any rs[k].act)
        simp only [actV, actC] at HSh
        clear hC
        go_wp2_with fail
        refine Calls.mono (HSh.out _) ?_
        rintro e w3 ⟨⟨bb, rfl⟩, hb3⟩
        have HB3 := (show Hid _ from below_on HBr.out hb3)
        have HT3 := (show Hid _ from HTr.out.on hb3)
        clear hb3 s6 s7 s8 s9 hbl HSh HTr HBr
        cases bb
        · go_wp2_with fail
          refine Calls.mono (HLv.out _) ?_
          rintro e w4 ⟨rfl, hb4⟩
          go_wp2
          go_ret
          exact ⟨rfl, below_on HB3.out hb4⟩
        · go_wp2_with fail
          have HST : Hid (∀ W, W.heap[w1.heap.size]? = some (.cells #[.int .i64 3, .int .u64 (lsn : Int), .slice a' L.length c'] 29) → Below w.heap.size w W → W.cell? ⟨w1.heap.size, 0, none⟩ = some (.int .i64 3) ∧ W.cell? ⟨w1.heap.size, 1, none⟩ = some (.int .u64 (lsn : Int)) ∧ W.cell? ⟨w1.heap.size, 2, none⟩ = some (.slice a' L.length c') ∧ W.cell? ⟨b, o + k * 12, none⟩ = some (.int .i64 rs[k].kind) ∧ W.cell? ⟨b, o + k * 12 + 1, none⟩ = some (.int .u64 (rs[k].lsn : Int)) ∧ W.cell? ⟨b, o + k * 12 + 2, none⟩ = some (.int .i64 rs[k].txn) ∧ W.cell? ⟨b, o + k * 12 + 3, none⟩ = some (.int .u64 (rs[k].prev : Int)) ∧ W.cell? ⟨b, o + k * 12 + 4, none⟩ = some (.int .u64 (rs[k].undo : Int)) ∧ W.cell? ⟨b, o + k * 12 + 5, none⟩ = some (.int .i64 rs[k].page) ∧ W.cell? ⟨b, o + k * 12 + 6, none⟩ = some (.int .i64 rs[k].act.kind) ∧ W.cell? ⟨b, o + k * 12 + 7, none⟩ = some (.string (txt rs[k].act.key)) ∧ W.cell? ⟨b, o + k * 12 + 8, none⟩ = some (.string (txt rs[k].act.old)) ∧ W.cell? ⟨b, o + k * 12 + 9, none⟩ = some (.string (txt rs[k].act.new)) ∧ W.cell? ⟨b, o + k * 12 + 10, none⟩ = some (.slice rs[k].ta rs[k].tn rs[k].tc) ∧ W.cell? ⟨b, o + k * 12 + 11, none⟩ = some (.slice rs[k].da rs[k].dn rs[k].dc)) := fun W h1 h2 => by
            obtain ⟨q0, q1, q2, _⟩ := cell3 h1
            obtain ⟨b', o', he, _, hC⟩ := (HR.out.on h2).at k hlt
            simp at he
            obtain ⟨rfl, rfl⟩ := he
            exact ⟨q0, q1, q2, hC 0 _ rfl, hC 1 _ rfl, hC 2 _ rfl, hC 3 _ rfl, hC 4 _ rfl, hC 5 _ rfl, hC 6 _ rfl, hC 7 _ rfl, hC 8 _ rfl, hC 9 _ rfl, hC 10 _ rfl, hC 11 _ rfl⟩
          have HSm := (show Hid _ from HR.out.small rs[k] (List.getElem_mem hlt))
          have HRd : Hid (∀ W, SlC W a' L → Calls Try.prog 23 #[.agg #[.int .i64 3, .int .u64 (lsn : Int), .slice a' L.length c'], .agg #[.int .i64 rs[k].kind, .int .u64 (rs[k].lsn : Int), .int .i64 rs[k].txn, .int .u64 (rs[k].prev : Int), .int .u64 (rs[k].undo : Int), .int .i64 rs[k].page, .int .i64 rs[k].act.kind, .string (txt rs[k].act.key), .string (txt rs[k].act.old), .string (txt rs[k].act.new), .slice rs[k].ta rs[k].tn rs[k].tc, .slice rs[k].da rs[k].dn rs[k].dc]] W fun e w' => ∃ a5 c5, e = .returned (.tuple #[.agg #[.int .i64 3, .int .u64 ((redoM 3 L lsn rs[k]).1.2 : Int), .slice a5 (redoM 3 L lsn rs[k]).1.1.length c5], .bool (redoM 3 L lsn rs[k]).2.1, .int .i64 (redoM 3 L lsn rs[k]).2.2]) ∧ SlC w' a5 (redoM 3 L lsn rs[k]).1.1 ∧ ((a5 = a' ∧ (redoM 3 L lsn rs[k]).1.1 = L) ∨ ∀ y, a5 = some y → W.heap.size ≤ y.block) ∧ Below W.heap.size W w') := fun W hW =>
            (refredo_any 3 lsn a' c' L rs[k] W hW HT3.out.good).mono fun e w' ⟨a5, ⟨c5, e1⟩, e2, e3, e4⟩ => ⟨a5, c5, e1, e2, e3, e4⟩
          have HRp : Hid (∀ W, PgOk W (w.heap.size + 1) (w.heap.size + 1) 3 lsn v L → Calls Try.prog 24 #[.pointer (some ⟨w.heap.size + 1, 0, none⟩), .agg #[.int .i64 rs[k].kind, .int .u64 (rs[k].lsn : Int), .int .i64 rs[k].txn, .int .u64 (rs[k].prev : Int), .int .u64 (rs[k].undo : Int), .int .i64 rs[k].page, .int .i64 rs[k].act.kind, .string (txt rs[k].act.key), .string (txt rs[k].act.old), .string (txt rs[k].act.new), .slice rs[k].ta rs[k].tn rs[k].tc, .slice rs[k].da rs[k].dn rs[k].dc]] W fun e w' => e = .returned (.tuple #[.bool (redoM 3 L lsn rs[k]).2.1, .int .i64 (redoM 3 L lsn rs[k]).2.2]) ∧ ∃ v', PgOk w' (w.heap.size + 1) (w.heap.size + 1) 3 (redoM 3 L lsn rs[k]).1.2 v' (redoM 3 L lsn rs[k]).1.1 ∧ Touch (w.heap.size + 1) v.ownBlock W w' ∧ Fresh W v v') := fun W hW => redo_any _ _ 3 lsn v L rs[k] W hW HT3.out.good
          have HGd : Hid (GoodL (redoM 3 L lsn rs[k]).1.1) := redo_good HT3.out.good
          have HLs : Hid ((redoM 3 L lsn rs[k]).1.2 < 18446744073709551616) := by
            have := HSm.out.1
            show _ < _
            unfold redoM
            repeat' split
            all_goals assumption
          generalize redoM 3 L lsn rs[k] = R at *
          obtain ⟨⟨L5, lsn5⟩, rb, re⟩ := R
          simp only at HRd HRp HGd HLs
          have hS0 := HST.out w3.drew HT3.out.ref HB3.out.drew
          refine wp_region_held_drew (S := (fun W => W.cell? ⟨w1.heap.size, 0, none⟩ = some (.int .i64 3) ∧ W.cell? ⟨w1.heap.size, 1, none⟩ = some (.int .u64 (lsn : Int)) ∧ W.cell? ⟨w1.heap.size, 2, none⟩ = some (.slice a' L.length c') ∧ W.cell? ⟨b, o + k * 12, none⟩ = some (.int .i64 rs[k].kind) ∧ W.cell? ⟨b, o + k * 12 + 1, none⟩ = some (.int .u64 (rs[k].lsn : Int)) ∧ W.cell? ⟨b, o + k * 12 + 2, none⟩ = some (.int .i64 rs[k].txn) ∧ W.cell? ⟨b, o + k * 12 + 3, none⟩ = some (.int .u64 (rs[k].prev : Int)) ∧ W.cell? ⟨b, o + k * 12 + 4, none⟩ = some (.int .u64 (rs[k].undo : Int)) ∧ W.cell? ⟨b, o + k * 12 + 5, none⟩ = some (.int .i64 rs[k].page) ∧ W.cell? ⟨b, o + k * 12 + 6, none⟩ = some (.int .i64 rs[k].act.kind) ∧ W.cell? ⟨b, o + k * 12 + 7, none⟩ = some (.string (txt rs[k].act.key)) ∧ W.cell? ⟨b, o + k * 12 + 8, none⟩ = some (.string (txt rs[k].act.old)) ∧ W.cell? ⟨b, o + k * 12 + 9, none⟩ = some (.string (txt rs[k].act.new)) ∧ W.cell? ⟨b, o + k * 12 + 10, none⟩ = some (.slice rs[k].ta rs[k].tn rs[k].tc) ∧ W.cell? ⟨b, o + k * 12 + 11, none⟩ = some (.slice rs[k].da rs[k].dn rs[k].dc))) (by kernel_rfl) hS0 (fun hHeld => ?_)
          clear hS0
          refine wpAnyH_take (i := 0) (v := ?_) rfl (by kernel_rfl) (by kernel_rfl) (by kernel_rfl) (fun _ _ _ h => h) (Or.inl ⟨by rfl, ?_⟩) (by assumption) ?_
          rotate_left
          · (intro W hSw; (try dsimp only at hSw); go_simp; try with_reducible rfl)
          try simp only [Act.put, List.getElem_toArray, List.getElem_cons_zero, List.setIfInBounds_toArray, List.set_cons_zero, List.set_cons_succ]
          refine wpAnyH_take (i := 1) (v := ?_) rfl (by kernel_rfl) (by kernel_rfl) (by kernel_rfl) (fun _ _ _ h => h) (Or.inl ⟨by rfl, ?_⟩) (by assumption) ?_
          rotate_left
          · (intro W hSw; (try dsimp only at hSw); go_simp; try with_reducible rfl)
          try simp only [Act.put, List.getElem_toArray, List.getElem_cons_zero, List.getElem_cons_succ, List.setIfInBounds_toArray, List.set_cons_zero, List.set_cons_succ]
          refine wpAnyH_take (i := 2) (v := ?_) rfl (by kernel_rfl) (by kernel_rfl) (by kernel_rfl) (fun _ _ _ h => h) (Or.inl ⟨by rfl, ?_⟩) (by assumption) ?_
          rotate_left
          · (intro W hSw; (try dsimp only at hSw); go_simp; try with_reducible rfl)
          try simp only [Act.put, List.getElem_toArray, List.getElem_cons_zero, List.getElem_cons_succ, List.setIfInBounds_toArray, List.set_cons_zero, List.set_cons_succ]
          refine wpAnyH_take (i := 3) (v := ?_) rfl (by kernel_rfl) (by kernel_rfl) (by kernel_rfl) (fun _ _ _ h => h) (Or.inl ⟨by rfl, ?_⟩) (by assumption) ?_
          rotate_left
          · (intro W hSw; (try dsimp only at hSw); go_simp; try with_reducible rfl)
          try simp only [Act.put, List.getElem_toArray, List.getElem_cons_zero, List.getElem_cons_succ, List.setIfInBounds_toArray, List.set_cons_zero, List.set_cons_succ]
          refine wpAnyH_take (i := 4) (v := ?_) rfl (by kernel_rfl) (by kernel_rfl) (by kernel_rfl) (fun _ _ _ h => h) (Or.inl ⟨by rfl, ?_⟩) (by assumption) ?_
          rotate_left
          · (intro W hSw; (try dsimp only at hSw); go_simp; try with_reducible rfl)
          try simp only [Act.put, List.getElem_toArray, List.getElem_cons_zero, List.getElem_cons_succ, List.setIfInBounds_toArray, List.set_cons_zero, List.set_cons_succ]
          refine wpAnyH_ready (rs := [5, 10]) (by kernel_rfl) (by simp) ?_
          refine AllReadyH.cons rfl (fun K hK => ?_) (AllReadyH.cons rfl (fun K hK => ?_) AllReadyH.nil)
          · go_simp
            refine Calls.mono (HRd.out _ ⟨HT3.out.sl.nonil, HT3.out.sl.cells⟩) ?_
            clear hHeld
            rintro e w5 ⟨a5, c5, rfl, hs5, hn5, hb5⟩
            have HB5 := (show Hid _ from below_on HB3.out (below_undrew hb5))
            have HT5 := (show Hid _ from HT3.out.on (below_undrew hb5))
            have HNX : Hid (∀ y, a5 = some y → L5 ≠ [] → y.block ≠ w.heap.size + 1 ∧ v.ownBlock ≠ some y.block ∧ y.block ≠ w1.heap.size) := fun y hy hl => by
              rcases hn5 with ⟨q1, q2⟩ | q1
              · exact HT3.out.sep y (by rw [← q1]; exact hy) (by rw [← q2]; exact hl)
              · have u0 := q1 y hy; have u1 := lt_of_blk HT3.out.pg.blk; have u2 := lt_of_blk HT3.out.ref; simp at u0; exact ⟨by omega, fun q => by have := ownsRow_lt HT3.out.pg.own _ q; omega, by omega⟩
            have hBz := (Below.refl w5.heap.size w5).alloc (Nat.le_refl _) (.cells #[.int .i64 0, .int .u64 0, .slice none 0 0] 29)
            have hBn := (Below.refl w5.heap.size w5).alloc (Nat.le_refl _) (.cells #[.int .i64 3, .int .u64 (lsn5 : Int), .slice a5 L5.length c5] 29)
            have HSZ := (show Hid _ from HST.out _ (box_in' HT5.out.ref hBz) (below_on HB5.out hBz))
            have HTX := (show Hid _ from HT5.out.on hBn)
            have HBX := (show Hid _ from below_on HB5.out hBn)
            have HSX := (show Hid _ from hs5.below hBn)
            have HKH : Hid ((w5.alloc (.cells #[.int .i64 3, .int .u64 (lsn5 : Int), .slice a5 L5.length c5] 29)).heap[w5.heap.size]? = some (.cells #[.int .i64 3, .int .u64 (lsn5 : Int), .slice a5 L5.length c5] 29)) := heap_alloc_new _ _
            have HSN := (show Hid _ from HST.out _ HTX.out.ref HBX.out)
            clear hs5 hn5 hb5 hBz hBn
            try go_wp2_with fail
            refine hK.out _ _ (HST.out _ HT5.out.ref HB5.out) (fun hHeld => ?_)
            clear hK K
            try simp only [Act.put, List.getElem_toArray, List.getElem_cons_zero, List.getElem_cons_succ, List.setIfInBounds_toArray, List.set_cons_zero, List.set_cons_succ]
            refine wpAnyH_take (i := 6) (v := ?_) rfl (by kernel_rfl) (by kernel_rfl) (by kernel_rfl) (fun _ _ _ h => h) (Or.inl ⟨by rfl, ?_⟩) (by assumption) ?_
            rotate_left
            · (intro W hSw; (try dsimp only at hSw); go_simp; try with_reducible rfl)
            try simp only [Act.put, List.getElem_toArray, List.getElem_cons_zero, List.getElem_cons_succ, List.setIfInBounds_toArray, List.set_cons_zero, List.set_cons_succ]
            refine wpAnyH_take (i := 7) (v := ?_) rfl (by kernel_rfl) (by kernel_rfl) (by kernel_rfl) (fun _ _ _ h => h) (Or.inl ⟨by rfl, ?_⟩) (by assumption) ?_
            rotate_left
            · (intro W hSw; (try dsimp only at hSw); go_simp; try with_reducible rfl)
            try simp only [Act.put, List.getElem_toArray, List.getElem_cons_zero, List.getElem_cons_succ, List.setIfInBounds_toArray, List.set_cons_zero, List.set_cons_succ]
            refine wpAnyH_take (i := 8) (v := ?_) rfl (by kernel_rfl) (by kernel_rfl) (by kernel_rfl) (fun _ _ _ h => h) (Or.inl ⟨by rfl, ?_⟩) (by assumption) ?_
            rotate_left
            · (intro W hSw; (try dsimp only at hSw); go_simp; try with_reducible rfl)
            try simp only [Act.put, List.getElem_toArray, List.getElem_cons_zero, List.getElem_cons_succ, List.setIfInBounds_toArray, List.set_cons_zero, List.set_cons_succ]
            refine wpAnyH_take (i := 9) (v := ?_) rfl (by kernel_rfl) (by kernel_rfl) (by kernel_rfl) (fun _ _ _ h => h) (Or.inl ⟨by rfl, ?_⟩) (by assumption) ?_
            rotate_left
            · (intro W hSw; (try dsimp only at hSw); go_simp; try with_reducible rfl)
            try simp only [Act.put, List.getElem_toArray, List.getElem_cons_zero, List.getElem_cons_succ, List.setIfInBounds_toArray, List.set_cons_zero, List.set_cons_succ]
            refine wpAnyH_ready (rs := [10]) (by kernel_rfl) (by simp) ?_
            refine AllReadyH.cons rfl (fun K hK => ?_) AllReadyH.nil
            go_simp
            try go_wp2_with fail
            refine hK.out _ _ (HSZ.out) (fun hHeld => ?_)
            clear hK K
            try simp only [Act.put, List.getElem_toArray, List.getElem_cons_zero, List.getElem_cons_succ, List.setIfInBounds_toArray, List.set_cons_zero, List.set_cons_succ]
            refine wpAnyH_ready (rs := [11]) (by kernel_rfl) (by simp) ?_
            refine AllReadyH.cons rfl (fun K hK => ?_) AllReadyH.nil
            go_simp
            try go_wp2_with fail
            refine hK.out _ _ (HSN.out) (fun hHeld => ?_)
            clear hK K
            try simp only [Act.put, List.getElem_toArray, List.getElem_cons_zero, List.getElem_cons_succ, List.setIfInBounds_toArray, List.set_cons_zero, List.set_cons_succ]
            refine wpAnyH_take (i := 12) (v := ?_) rfl (by kernel_rfl) (by kernel_rfl) (by kernel_rfl) (fun _ _ _ h => h) (Or.inl ⟨by rfl, ?_⟩) (by assumption) ?_
            rotate_left
            · (intro W hSw; (try dsimp only at hSw); go_simp; try with_reducible rfl)
            try simp only [Act.put, List.getElem_toArray, List.getElem_cons_zero, List.getElem_cons_succ, List.setIfInBounds_toArray, List.set_cons_zero, List.set_cons_succ]
            refine wpAnyH_take (i := 13) (v := ?_) rfl (by kernel_rfl) (by kernel_rfl) (by kernel_rfl) (fun _ _ _ h => h) (Or.inl ⟨by rfl, ?_⟩) (by assumption) ?_
            rotate_left
            · (intro W hSw; (try dsimp only at hSw); go_simp; try with_reducible rfl)
            try simp only [Act.put, List.getElem_toArray, List.getElem_cons_zero, List.getElem_cons_succ, List.setIfInBounds_toArray, List.set_cons_zero, List.set_cons_succ]
            refine wpAnyH_done (by kernel_rfl) ?_ _
            clear hHeld HSZ HSN HST
            obtain ⟨x0, x1, x2, y0, y1, y2, hzx⟩ := cell3 HKH.out
            obtain ⟨d0, d1, d2, g0, g1, g2, hzd⟩ := cell3 HTX.out.ref
            have HB7 := (show Hid _ from newW_below HBX.out (show w.heap.size ≤ w1.heap.size from HW1.out) 3 lsn5 (.slice a5 L5.length c5))
            have HP7 := (show Hid _ from newW_pg HTX.out.pg HTX.out.pne HTX.out.own 3 lsn5 (.slice a5 L5.length c5))
            obtain ⟨b', o', he, hbl, hC⟩ := (HR.out.on HB7.out).at k hlt
            simp at he
            obtain ⟨rfl, rfl⟩ := he
            have e0 := hC 0 _ rfl
            have e1 := hC 1 _ rfl
            have e2 := hC 2 _ rfl
            have e3 := hC 3 _ rfl
            have e4 := hC 4 _ rfl
            have e5 := hC 5 _ rfl
            have e6 := hC 6 _ rfl
            have e7 := hC 7 _ rfl
            have e8 := hC 8 _ rfl
            have e9 := hC 9 _ rfl
            have e10 := hC 10 _ rfl
            have e11 := hC 11 _ rfl
            simp only [newW, Nat.add_zero] at e0 e1 e2 e3 e4 e5 e6 e7 e8 e9 e10 e11 hbl
            clear hC
            go_wp2_with fail
            refine Calls.mono (HRp.out _ HP7.out) ?_
            rintro e w8 ⟨rfl, v8, hp8, ht8, hf8⟩
            have HT8 := (show Hid _ from two_next (c5 := c5) HTX.out HSX.out HNX.out HGd.out hp8 ht8 hf8)
            have HB8 : Hid (Below w.heap.size w w8) := HB7.out.trans ((HP7.out.touched ht8).mono (by omega))
            have HAl := (show Hid _ from alike_any (w.heap.size + 1) (w.heap.size + 1) 3 lsn5 v8 a5 c5 L5 w8 HT8.out.pg HT8.out.sl HT8.out.good (by decide) HLs.out)
            simp only [refP] at HAl
            clear hp8 ht8 hf8 x0 x1 x2 y0 y1 y2 hzx d0 d1 d2 g0 g1 g2 hzd e0 e1 e2 e3 e4 e5 e6 e7 e8 e9 e10 e11 hbl
            obtain ⟨d0, d1, d2, g0, g1, g2, hzd⟩ := cell3 HT8.out.ref
            go_wp2_with fail
            refine Calls.mono HAl.out ?_
            rintro e w9 ⟨rfl, hb9⟩
            go_wp2_with fail
            refine ⟨?_, ?measure⟩
            iterate 40 (try apply Exists.intro)
            iterate 40 (try apply Exists.intro)
            refine ⟨?rel, rfl⟩
            case rel => exact ⟨k + 1, L5, lsn5, v8, a5, c5, by omega, by simp, HT8.out.on hb9, HLs.out, below_on HB8.out hb9⟩
            case measure => first | omega | (simp only [intOf]; omega) | (simp [intOf]; omega)
          · go_simp
            have hBz := (Below.refl w3.heap.size w3.drew).alloc (Nat.le_refl _) (.cells #[.int .i64 0, .int .u64 0, .slice none 0 0] 29)
            have hBz' := below_undrew hBz
            have HTZ := (show Hid _ from HT3.out.on hBz')
            have HBZ := (show Hid _ from below_on HB3.out hBz')
            clear hBz hBz'
            try go_wp2_with fail
            refine hK.out _ _ (HST.out _ HTZ.out.ref HBZ.out) (fun hHeld => ?_)
            clear hK K
            try simp only [Act.put, List.getElem_toArray, List.getElem_cons_zero, List.getElem_cons_succ, List.setIfInBounds_toArray, List.set_cons_zero, List.set_cons_succ]
            refine wpAnyH_ready (rs := [5]) (by kernel_rfl) (by simp) ?_
            refine AllReadyH.cons rfl (fun K hK => ?_) AllReadyH.nil
            go_simp
            refine Calls.mono (HRd.out _ HTZ.out.sl) ?_
            clear hHeld
            rintro e w5 ⟨a5, c5, rfl, hs5, hn5, hb5⟩
            have HB5 := (show Hid _ from below_on HBZ.out hb5)
            have HT5 := (show Hid _ from HTZ.out.on hb5)
            have HNX : Hid (∀ y, a5 = some y → L5 ≠ [] → y.block ≠ w.heap.size + 1 ∧ v.ownBlock ≠ some y.block ∧ y.block ≠ w1.heap.size) := fun y hy hl => by
              rcases hn5 with ⟨q1, q2⟩ | q1
              · exact HT3.out.sep y (by rw [← q1]; exact hy) (by rw [← q2]; exact hl)
              · have u0 := q1 y hy; have u1 := lt_of_blk HT3.out.pg.blk; have u2 := lt_of_blk HT3.out.ref; simp at u0; exact ⟨by omega, fun q => by have := ownsRow_lt HT3.out.pg.own _ q; omega, by omega⟩
            have hh5 : w5.heap[w3.heap.size]? = some (.cells #[.int .i64 0, .int .u64 0, .slice none 0 0] 29) := by have := box_in (below_undrew hb5); simpa using this
            have HH5 := (show Hid _ from hh5)
            have u1 := lt_of_blk HT3.out.pg.blk
            have u2 := lt_of_blk HT3.out.ref
            have HTX : Hid (TwoOk (newW w5 w3.heap.size 3 lsn5 (.slice a5 L5.length c5)) w.heap.size (w.heap.size + 1) w1.heap.size 3 lsn L v a' c') := ⟨newW_pg HT5.out.pg (by omega) (fun q => by have := ownsRow_lt HT3.out.pg.own _ q; omega) _ _ _, HT5.out.good, by rw [newW_other (by omega)]; exact HT5.out.ref, newW_sl HT5.out.sl (fun y hy hl => by have := slC_lt HT3.out.sl y hy hl; omega) _ _ _, HT5.out.own, HT5.out.pne, HT5.out.sep⟩
            have HBX := (show Hid _ from newW_below HB5.out (show w.heap.size ≤ w3.heap.size from HB3.out.size) 3 lsn5 (.slice a5 L5.length c5))
            have HSX : Hid (SlC (newW w5 w3.heap.size 3 lsn5 (.slice a5 L5.length c5)) a5 L5) := newW_sl hs5 (fun y hy hl => by
              rcases hn5 with ⟨q1, q2⟩ | q1
              · have := slC_lt HT3.out.sl y (by rw [← q1]; exact hy) (by rw [← q2]; exact hl); omega
              · have := q1 y hy; simp at this; omega) _ _ _
            have HKH := (show Hid _ from newW_at HH5.out 3 lsn5 (.slice a5 L5.length c5))
            have HSN := (show Hid _ from HST.out _ HTX.out.ref HBX.out)
            obtain ⟨m0, m1, m2, n0, n1, n2, hzm⟩ := cell3 hh5
            clear hs5 hn5 hb5 hh5
            try go_wp2_with fail
            refine hK.out _ _ (HST.out _ HT5.out.ref HB5.out) (fun hHeld => ?_)
            clear hK K
            try simp only [Act.put, List.getElem_toArray, List.getElem_cons_zero, List.getElem_cons_succ, List.setIfInBounds_toArray, List.set_cons_zero, List.set_cons_succ]
            refine wpAnyH_take (i := 6) (v := ?_) rfl (by kernel_rfl) (by kernel_rfl) (by kernel_rfl) (fun _ _ _ h => h) (Or.inl ⟨by rfl, ?_⟩) (by assumption) ?_
            rotate_left
            · (intro W hSw; (try dsimp only at hSw); go_simp; try with_reducible rfl)
            try simp only [Act.put, List.getElem_toArray, List.getElem_cons_zero, List.getElem_cons_succ, List.setIfInBounds_toArray, List.set_cons_zero, List.set_cons_succ]
            refine wpAnyH_take (i := 7) (v := ?_) rfl (by kernel_rfl) (by kernel_rfl) (by kernel_rfl) (fun _ _ _ h => h) (Or.inl ⟨by rfl, ?_⟩) (by assumption) ?_
            rotate_left
            · (intro W hSw; (try dsimp only at hSw); go_simp; try with_reducible rfl)
            try simp only [Act.put, List.getElem_toArray, List.getElem_cons_zero, List.getElem_cons_succ, List.setIfInBounds_toArray, List.set_cons_zero, List.set_cons_succ]
            refine wpAnyH_take (i := 8) (v := ?_) rfl (by kernel_rfl) (by kernel_rfl) (by kernel_rfl) (fun _ _ _ h => h) (Or.inl ⟨by rfl, ?_⟩) (by assumption) ?_
            rotate_left
            · (intro W hSw; (try dsimp only at hSw); go_simp; try with_reducible rfl)
            try simp only [Act.put, List.getElem_toArray, List.getElem_cons_zero, List.getElem_cons_succ, List.setIfInBounds_toArray, List.set_cons_zero, List.set_cons_succ]
            refine wpAnyH_take (i := 9) (v := ?_) rfl (by kernel_rfl) (by kernel_rfl) (by kernel_rfl) (fun _ _ _ h => h) (Or.inl ⟨by rfl, ?_⟩) (by assumption) ?_
            rotate_left
            · (intro W hSw; (try dsimp only at hSw); go_simp; try with_reducible rfl)
            try simp only [Act.put, List.getElem_toArray, List.getElem_cons_zero, List.getElem_cons_succ, List.setIfInBounds_toArray, List.set_cons_zero, List.set_cons_succ]
            refine wpAnyH_ready (rs := [11]) (by kernel_rfl) (by simp) ?_
            refine AllReadyH.cons rfl (fun K hK => ?_) AllReadyH.nil
            go_simp
            try go_wp2_with fail
            refine hK.out _ _ (HSN.out) (fun hHeld => ?_)
            clear hK K
            try simp only [Act.put, List.getElem_toArray, List.getElem_cons_zero, List.getElem_cons_succ, List.setIfInBounds_toArray, List.set_cons_zero, List.set_cons_succ]
            refine wpAnyH_take (i := 12) (v := ?_) rfl (by kernel_rfl) (by kernel_rfl) (by kernel_rfl) (fun _ _ _ h => h) (Or.inl ⟨by rfl, ?_⟩) (by assumption) ?_
            rotate_left
            · (intro W hSw; (try dsimp only at hSw); go_simp; try with_reducible rfl)
            try simp only [Act.put, List.getElem_toArray, List.getElem_cons_zero, List.getElem_cons_succ, List.setIfInBounds_toArray, List.set_cons_zero, List.set_cons_succ]
            refine wpAnyH_take (i := 13) (v := ?_) rfl (by kernel_rfl) (by kernel_rfl) (by kernel_rfl) (fun _ _ _ h => h) (Or.inl ⟨by rfl, ?_⟩) (by assumption) ?_
            rotate_left
            · (intro W hSw; (try dsimp only at hSw); go_simp; try with_reducible rfl)
            try simp only [Act.put, List.getElem_toArray, List.getElem_cons_zero, List.getElem_cons_succ, List.setIfInBounds_toArray, List.set_cons_zero, List.set_cons_succ]
            refine wpAnyH_done (by kernel_rfl) ?_ _
            clear hHeld HSN HST m0 m1 m2 n0 n1 n2 hzm
            obtain ⟨x0, x1, x2, y0, y1, y2, hzx⟩ := cell3 HKH.out
            obtain ⟨d0, d1, d2, g0, g1, g2, hzd⟩ := cell3 HTX.out.ref
            simp only [newW] at x0 x1 x2 y0 y1 y2 hzx d0 d1 d2 g0 g1 g2 hzd
            have HB7 := (show Hid _ from newW_below HBX.out (show w.heap.size ≤ w1.heap.size from HW1.out) 3 lsn5 (.slice a5 L5.length c5))
            have HP7 := (show Hid _ from newW_pg HTX.out.pg HTX.out.pne HTX.out.own 3 lsn5 (.slice a5 L5.length c5))
            obtain ⟨b', o', he, hbl, hC⟩ := (HR.out.on HB7.out).at k hlt
            simp at he
            obtain ⟨rfl, rfl⟩ := he
            have e0 := hC 0 _ rfl
            have e1 := hC 1 _ rfl
            have e2 := hC 2 _ rfl
            have e3 := hC 3 _ rfl
            have e4 := hC 4 _ rfl
            have e5 := hC 5 _ rfl
            have e6 := hC 6 _ rfl
            have e7 := hC 7 _ rfl
            have e8 := hC 8 _ rfl
            have e9 := hC 9 _ rfl
            have e10 := hC 10 _ rfl
            have e11 := hC 11 _ rfl
            simp only [newW, Nat.add_zero] at e0 e1 e2 e3 e4 e5 e6 e7 e8 e9 e10 e11 hbl
            clear hC
            go_wp2_with fail
            refine Calls.mono (HRp.out _ HP7.out) ?_
            rintro e w8 ⟨rfl, v8, hp8, ht8, hf8⟩
            have HT8 := (show Hid _ from two_next (c5 := c5) HTX.out HSX.out HNX.out HGd.out hp8 ht8 hf8)
            have HB8 : Hid (Below w.heap.size w w8) := HB7.out.trans ((HP7.out.touched ht8).mono (by omega))
            have HAl := (show Hid _ from alike_any (w.heap.size + 1) (w.heap.size + 1) 3 lsn5 v8 a5 c5 L5 w8 HT8.out.pg HT8.out.sl HT8.out.good (by decide) HLs.out)
            simp only [refP] at HAl
            clear hp8 ht8 hf8 x0 x1 x2 y0 y1 y2 hzx d0 d1 d2 g0 g1 g2 hzd e0 e1 e2 e3 e4 e5 e6 e7 e8 e9 e10 e11 hbl
            obtain ⟨d0, d1, d2, g0, g1, g2, hzd⟩ := cell3 HT8.out.ref
            go_wp2_with fail
            refine Calls.mono HAl.out ?_
            rintro e w9 ⟨rfl, hb9⟩
            go_wp2_with fail
            refine ⟨?_, ?measure⟩
            iterate 40 (try apply Exists.intro)
            iterate 40 (try apply Exists.intro)
            refine ⟨?rel, rfl⟩
            case rel => exact ⟨k + 1, L5, lsn5, v8, a5, c5, by omega, by simp, HT8.out.on hb9, HLs.out, below_on HB8.out hb9⟩
            case measure => first | omega | (simp only [intOf]; omega) | (simp [intOf]; omega)
      · have h60' : decide ((k : Int) < 60) = false := by simp; omega
        go_wp2_with fail
        refine Calls.mono (redo_nil ⟨1, 16, 0, 0, 0, 0, Ac.zero, none, 0, 0, none, 0, 0⟩ _) ?_
        rintro e w4 ⟨rfl, hb4⟩
        go_wp2_with fail
        refine Calls.mono (HLv.out _) ?_
        rintro e w5 ⟨rfl, hb5⟩
        go_wp2
        go_ret
        exact ⟨rfl, below_on (below_on HBr.out hb4) hb5⟩
    · have hkl : decide ((k : Int) < (rs.length : Int)) = false := by simp; omega
      have hk3 : ¬ k < rs.length := hlt
      go_wp2_with fail
      refine Calls.mono (redo_nil ⟨1, 16, 0, 0, 0, 0, Ac.zero, none, 0, 0, none, 0, 0⟩ _) ?_
      rintro e w4 ⟨rfl, hb4⟩
      go_wp2_with fail
      refine Calls.mono (HLv.out _) ?_
      rintro e w5 ⟨rfl, hb5⟩
      go_wp2
      go_ret
      exact ⟨rfl, below_on (below_on HBr.out hb4) hb5⟩

end Go.Proofs.Ytamkfcdehkdcpaa
