/-
  The walk of taken.
-/
import Derived.Test.YtjhjicokbdloiaaTv
import Derived.Test.YtjhjicokbdloiaaEn
namespace Go.Proofs.Ytjhjicokbdloiaa
open Go.RowKit

/-- All that is taken off, from what a reader has. -/
def rawS (s : St) : St × Rc := onTab (onUnd (onChg (headS s, headR s)))
/-- Is it all, and without an error? -/
def endB (s : St) : Bool := endOf (rawS s).1.1 (rawS s).1.2 == 0

/-- The ending of taken. -/
def endT (b : Bool) (v : Value) : Ending := if b then .returned v else .panicked [noRec]

theorem set12 {W : World} {n : Nat} {z0 z1 z2 z3 z4 z5 z6 z7 z8 z9 z10 z11 : Value} (v0 v1 v2 v3 v4 v5 v6 v7 v8 v9 v10 v11 : Value) (h : W.heap[n]? = some (.cells #[z0, z1, z2, z3, z4, z5, z6, z7, z8, z9, z10, z11] 31)) :
    ((((((((((((W.setCell ⟨n, 0, none⟩ v0).setCell ⟨n, 1, none⟩ v1).setCell ⟨n, 2, none⟩ v2).setCell ⟨n, 3, none⟩ v3).setCell ⟨n, 4, none⟩ v4).setCell ⟨n, 5, none⟩ v5).setCell ⟨n, 6, none⟩ v6).setCell ⟨n, 7, none⟩ v7).setCell ⟨n, 8, none⟩ v8).setCell ⟨n, 9, none⟩ v9).setCell ⟨n, 10, none⟩ v10).setCell ⟨n, 11, none⟩ v11).heap[n]? = some (.cells #[v0, v1, v2, v3, v4, v5, v6, v7, v8, v9, v10, v11] 31) := by
  have h0 : (W.setCell ⟨n, 0, none⟩ v0).heap[n]? = some (.cells #[v0, z1, z2, z3, z4, z5, z6, z7, z8, z9, z10, z11] 31) := cells_set h
  have h1 : ((W.setCell ⟨n, 0, none⟩ v0).setCell ⟨n, 1, none⟩ v1).heap[n]? = some (.cells #[v0, v1, z2, z3, z4, z5, z6, z7, z8, z9, z10, z11] 31) := cells_set h0
  have h2 : (((W.setCell ⟨n, 0, none⟩ v0).setCell ⟨n, 1, none⟩ v1).setCell ⟨n, 2, none⟩ v2).heap[n]? = some (.cells #[v0, v1, v2, z3, z4, z5, z6, z7, z8, z9, z10, z11] 31) := cells_set h1
  have h3 : ((((W.setCell ⟨n, 0, none⟩ v0).setCell ⟨n, 1, none⟩ v1).setCell ⟨n, 2, none⟩ v2).setCell ⟨n, 3, none⟩ v3).heap[n]? = some (.cells #[v0, v1, v2, v3, z4, z5, z6, z7, z8, z9, z10, z11] 31) := cells_set h2
  have h4 : (((((W.setCell ⟨n, 0, none⟩ v0).setCell ⟨n, 1, none⟩ v1).setCell ⟨n, 2, none⟩ v2).setCell ⟨n, 3, none⟩ v3).setCell ⟨n, 4, none⟩ v4).heap[n]? = some (.cells #[v0, v1, v2, v3, v4, z5, z6, z7, z8, z9, z10, z11] 31) := cells_set h3
  have h5 : ((((((W.setCell ⟨n, 0, none⟩ v0).setCell ⟨n, 1, none⟩ v1).setCell ⟨n, 2, none⟩ v2).setCell ⟨n, 3, none⟩ v3).setCell ⟨n, 4, none⟩ v4).setCell ⟨n, 5, none⟩ v5).heap[n]? = some (.cells #[v0, v1, v2, v3, v4, v5, z6, z7, z8, z9, z10, z11] 31) := cells_set h4
  have h6 : (((((((W.setCell ⟨n, 0, none⟩ v0).setCell ⟨n, 1, none⟩ v1).setCell ⟨n, 2, none⟩ v2).setCell ⟨n, 3, none⟩ v3).setCell ⟨n, 4, none⟩ v4).setCell ⟨n, 5, none⟩ v5).setCell ⟨n, 6, none⟩ v6).heap[n]? = some (.cells #[v0, v1, v2, v3, v4, v5, v6, z7, z8, z9, z10, z11] 31) := cells_set h5
  have h7 : ((((((((W.setCell ⟨n, 0, none⟩ v0).setCell ⟨n, 1, none⟩ v1).setCell ⟨n, 2, none⟩ v2).setCell ⟨n, 3, none⟩ v3).setCell ⟨n, 4, none⟩ v4).setCell ⟨n, 5, none⟩ v5).setCell ⟨n, 6, none⟩ v6).setCell ⟨n, 7, none⟩ v7).heap[n]? = some (.cells #[v0, v1, v2, v3, v4, v5, v6, v7, z8, z9, z10, z11] 31) := cells_set h6
  have h8 : (((((((((W.setCell ⟨n, 0, none⟩ v0).setCell ⟨n, 1, none⟩ v1).setCell ⟨n, 2, none⟩ v2).setCell ⟨n, 3, none⟩ v3).setCell ⟨n, 4, none⟩ v4).setCell ⟨n, 5, none⟩ v5).setCell ⟨n, 6, none⟩ v6).setCell ⟨n, 7, none⟩ v7).setCell ⟨n, 8, none⟩ v8).heap[n]? = some (.cells #[v0, v1, v2, v3, v4, v5, v6, v7, v8, z9, z10, z11] 31) := cells_set h7
  have h9 : ((((((((((W.setCell ⟨n, 0, none⟩ v0).setCell ⟨n, 1, none⟩ v1).setCell ⟨n, 2, none⟩ v2).setCell ⟨n, 3, none⟩ v3).setCell ⟨n, 4, none⟩ v4).setCell ⟨n, 5, none⟩ v5).setCell ⟨n, 6, none⟩ v6).setCell ⟨n, 7, none⟩ v7).setCell ⟨n, 8, none⟩ v8).setCell ⟨n, 9, none⟩ v9).heap[n]? = some (.cells #[v0, v1, v2, v3, v4, v5, v6, v7, v8, v9, z10, z11] 31) := cells_set h8
  have h10 : (((((((((((W.setCell ⟨n, 0, none⟩ v0).setCell ⟨n, 1, none⟩ v1).setCell ⟨n, 2, none⟩ v2).setCell ⟨n, 3, none⟩ v3).setCell ⟨n, 4, none⟩ v4).setCell ⟨n, 5, none⟩ v5).setCell ⟨n, 6, none⟩ v6).setCell ⟨n, 7, none⟩ v7).setCell ⟨n, 8, none⟩ v8).setCell ⟨n, 9, none⟩ v9).setCell ⟨n, 10, none⟩ v10).heap[n]? = some (.cells #[v0, v1, v2, v3, v4, v5, v6, v7, v8, v9, v10, z11] 31) := cells_set h9
  have h11 : ((((((((((((W.setCell ⟨n, 0, none⟩ v0).setCell ⟨n, 1, none⟩ v1).setCell ⟨n, 2, none⟩ v2).setCell ⟨n, 3, none⟩ v3).setCell ⟨n, 4, none⟩ v4).setCell ⟨n, 5, none⟩ v5).setCell ⟨n, 6, none⟩ v6).setCell ⟨n, 7, none⟩ v7).setCell ⟨n, 8, none⟩ v8).setCell ⟨n, 9, none⟩ v9).setCell ⟨n, 10, none⟩ v10).setCell ⟨n, 11, none⟩ v11).heap[n]? = some (.cells #[v0, v1, v2, v3, v4, v5, v6, v7, v8, v9, v10, v11] 31) := cells_set h10
  exact h11

theorem set12_other {W : World} {n : Nat} (v0 v1 v2 v3 v4 v5 v6 v7 v8 v9 v10 v11 : Value) (b : Nat) (hb : b ≠ n) : ((((((((((((W.setCell ⟨n, 0, none⟩ v0).setCell ⟨n, 1, none⟩ v1).setCell ⟨n, 2, none⟩ v2).setCell ⟨n, 3, none⟩ v3).setCell ⟨n, 4, none⟩ v4).setCell ⟨n, 5, none⟩ v5).setCell ⟨n, 6, none⟩ v6).setCell ⟨n, 7, none⟩ v7).setCell ⟨n, 8, none⟩ v8).setCell ⟨n, 9, none⟩ v9).setCell ⟨n, 10, none⟩ v10).setCell ⟨n, 11, none⟩ v11).heap[b]? = W.heap[b]? := by
  repeat rw [Below.heap_setCell _ _ _ _ (by simpa using hb)]

theorem set12_below {W0 W : World} {B n : Nat} (v0 v1 v2 v3 v4 v5 v6 v7 v8 v9 v10 v11 : Value) (h : Below B W0 W) (hn : B ≤ n) : Below B W0 ((((((((((((W.setCell ⟨n, 0, none⟩ v0).setCell ⟨n, 1, none⟩ v1).setCell ⟨n, 2, none⟩ v2).setCell ⟨n, 3, none⟩ v3).setCell ⟨n, 4, none⟩ v4).setCell ⟨n, 5, none⟩ v5).setCell ⟨n, 6, none⟩ v6).setCell ⟨n, 7, none⟩ v7).setCell ⟨n, 8, none⟩ v8).setCell ⟨n, 9, none⟩ v9).setCell ⟨n, 10, none⟩ v10).setCell ⟨n, 11, none⟩ v11) :=
  (Below.setCell (Below.setCell (Below.setCell (Below.setCell (Below.setCell (Below.setCell (Below.setCell (Below.setCell (Below.setCell (Below.setCell (Below.setCell (Below.setCell h hn _) hn _) hn _) hn _) hn _) hn _) hn _) hn _) hn _) hn _) hn _) hn _)

theorem set12_own {W : World} {D n : Nat} {e : TypeId} {size : Nat} {v : Value} {m : Nat} {xs : List Value} (v0 v1 v2 v3 v4 v5 v6 v7 v8 v9 v10 v11 : Value) (h : W.ownsRow D e size v m xs) (hn : n < D) : ((((((((((((W.setCell ⟨n, 0, none⟩ v0).setCell ⟨n, 1, none⟩ v1).setCell ⟨n, 2, none⟩ v2).setCell ⟨n, 3, none⟩ v3).setCell ⟨n, 4, none⟩ v4).setCell ⟨n, 5, none⟩ v5).setCell ⟨n, 6, none⟩ v6).setCell ⟨n, 7, none⟩ v7).setCell ⟨n, 8, none⟩ v8).setCell ⟨n, 9, none⟩ v9).setCell ⟨n, 10, none⟩ v10).setCell ⟨n, 11, none⟩ v11).ownsRow D e size v m xs := by
  refine ⟨h.1, ?_⟩
  rcases h.2 with h2 | ⟨g, cap, cur, hv, hD, hh, r⟩
  · exact .inl h2
  · refine .inr ⟨g, cap, cur, hv, hD, ?_, r⟩
    rw [set12_other _ _ _ _ _ _ _ _ _ _ _ _ g (by omega)]
    exact hh

theorem chg_kind (s : St) (r : Rc) : (onUnd (chgS s, chgR s r)).2.kind = r.kind := by
  unfold onUnd
  split <;> rfl

set_option maxRecDepth 20000 in
set_option maxHeartbeats 2000000 in
theorem taken_any (B p : Nat) (s : St) (w : World) (h : RS w B p s) (hB : B ≤ p) (hp : p < w.heap.size) :
    Calls Try.prog 45 #[.pointer (some ⟨p, 0, none⟩)] w fun e w' => ∃ ta tc da dc, e = endT (endB s) (recV (rawS s).2 ta tc da dc) ∧
      w'.ownsRow w.heap.size 71 3 (.slice ta (rawS s).2.txns.length tc) (rawS s).2.txns.length (txsC (rawS s).2.txns) ∧ w'.ownsRow w.heap.size 73 2 (.slice da (rawS s).2.dirty.length dc) (rawS s).2.dirty.length (disC (rawS s).2.dirty) ∧ Below B w w' := by
  have HB : Hid (Below w.heap.size w (w.alloc (.cells #[.int .i64 0, .int .u64 0, .int .i64 0, .int .u64 0, .int .u64 0, .int .i64 0, .int .i64 0, .string ⟨#[]⟩, .string ⟨#[]⟩, .string ⟨#[]⟩, .slice none 0 0, .slice none 0 0] 31))) := (Below.refl _ _).alloc (Nat.le_refl _) _
  have h0 : RS (w.alloc (.cells #[.int .i64 0, .int .u64 0, .int .i64 0, .int .u64 0, .int .u64 0, .int .i64 0, .int .i64 0, .string ⟨#[]⟩, .string ⟨#[]⟩, .string ⟨#[]⟩, .slice none 0 0, .slice none 0 0] 31)) B p s := by
    obtain ⟨a, c, hr⟩ := h
    exact ⟨a, c, hr.below HB.out (Nat.le_refl _)⟩
  have b1 := rN_bd 1 s
  have b2 := rN_bd 4 (sN 8 (sN 1 s))
  simp only [Nat.reducePow] at b1 b2
  clear h
  go_enter Try.func45, Try.ntmps45
  go_wp2_with fail
  refine (rb_any B p s _ h0).mono ?_
  rintro e w1 ⟨rfl, hs1, hg1⟩
  have hn1 : w1.heap[w.heap.size]? = some (.cells #[.int .i64 0, .int .u64 0, .int .i64 0, .int .u64 0, .int .u64 0, .int .i64 0, .int .i64 0, .string ⟨#[]⟩, .string ⟨#[]⟩, .string ⟨#[]⟩, .slice none 0 0, .slice none 0 0] 31) := by
    rw [hg1.block _ (by simp) (by simp; omega)]
    exact heap_alloc_new w _
  have hz1 : w.heap.size < w1.heap.size := lt_of_block hn1
  have hB1 : Below B w w1 := (HB.out.mono (by omega)).trans ((Below.refl _ _).grown hg1 (by simp; omega) (fun k hk => by simp at hk; omega))
  obtain ⟨X, HX⟩ : ∃ X, X = w1.alloc (.cells #[.int .i64 (rN 1 s : Nat), .int .u64 0, .int .i64 0, .int .u64 0, .int .u64 0, .int .i64 0, .int .i64 0, .string ⟨#[]⟩, .string ⟨#[]⟩, .string ⟨#[]⟩, .slice none 0 0, .slice none 0 0] 31) := ⟨_, rfl⟩
  have hR0 : RW X X B p w1.heap.size (sN 1 s) (recC ⟨rN 1 s, 0, 0, 0, 0, 0, 0, [], [], [], [], []⟩ none 0 none 0) := by
    obtain ⟨a, c, hr⟩ := hs1
    rw [HX]
    exact ⟨⟨a, c, hr.below ((Below.refl _ _).alloc (Nat.le_refl _) _) (Nat.le_refl _)⟩, heap_alloc_new w1 _, by omega, KeptQ.refl _ _ _⟩
  have hnX : X.heap[w.heap.size]? = some (.cells #[.int .i64 0, .int .u64 0, .int .i64 0, .int .u64 0, .int .u64 0, .int .i64 0, .int .i64 0, .string ⟨#[]⟩, .string ⟨#[]⟩, .string ⟨#[]⟩, .slice none 0 0, .slice none 0 0] 31) := by
    rw [HX, Below.heap_alloc _ _ _ hz1]
    exact hn1
  have HBX : Hid (Below B w X) := by show Below _ _ _; rw [HX]; exact hB1.alloc (by omega) _
  have hXs : w1.heap.size < X.heap.size := by rw [HX]; simp
  clear hs1 hg1 h0 hn1 hB1
  go_wp2_with fail
  rw [← HX]
  clear HX
  generalize w1.heap.size = q at *
  refine (r8_any B p _ _ hR0.rs).mono ?_
  rintro e w2 ⟨rfl, hs2, hg2⟩
  have h2 := hR0.read hs2 hg2
  clear hs2 hg2 hR0
  obtain ⟨⟨q0, q1, q2, q3, q4, q5, q6, q7, q8, q9, q10, q11⟩, hf⟩ := rw_cells h2.blk
  have h3 : RW X (w2.setCell ⟨q, 1, none⟩ (.int .u64 (rN 8 (sN 1 s) : Nat))) B p q (sN 8 (sN 1 s)) (recC ⟨rN 1 s, rN 8 (sN 1 s), 0, 0, 0, 0, 0, [], [], [], [], []⟩ none 0 none 0) := h2.put rfl
  go_wp2_with fail
  refine (r4_any B p _ _ h3.rs).mono ?_
  rintro e w4 ⟨rfl, hs4, hg4⟩
  have h4 := h3.read hs4 hg4
  clear hs4 hg4 h3 h2 q0 q1 q2 q3 q4 q5 q6 q7 q8 q9 q10 q11 hf
  obtain ⟨⟨q0, q1, q2, q3, q4, q5, q6, q7, q8, q9, q10, q11⟩, hf⟩ := rw_cells h4.blk
  have h5 : RW X (w4.setCell ⟨q, 2, none⟩ (.int .i64 (rN 4 (sN 8 (sN 1 s)) : Nat))) B p q (sN 4 (sN 8 (sN 1 s))) (recC ⟨rN 1 s, rN 8 (sN 1 s), rN 4 (sN 8 (sN 1 s)), 0, 0, 0, 0, [], [], [], [], []⟩ none 0 none 0) := h4.put rfl
  go_wp2_with fail
  refine (r8_any B p _ _ h5.rs).mono ?_
  rintro e w6 ⟨rfl, hs6, hg6⟩
  have h6 := h5.read hs6 hg6
  clear hs6 hg6 h5 h4 q0 q1 q2 q3 q4 q5 q6 q7 q8 q9 q10 q11 hf
  obtain ⟨⟨q0, q1, q2, q3, q4, q5, q6, q7, q8, q9, q10, q11⟩, hf⟩ := rw_cells h6.blk
  have h7 : RW X (w6.setCell ⟨q, 3, none⟩ (.int .u64 (rN 8 (sN 4 (sN 8 (sN 1 s))) : Nat))) B p q (headS s) (recC (headR s) none 0 none 0) := h6.put rfl
  clear h6
  go_wp2_with fail
  refine (haschg_any _ _).mono ?_
  rintro e w7 ⟨rfl, hw7⟩
  obtain rfl := hw7.symm
  have hT0 : TW X (w6.setCell ⟨q, 3, none⟩ (.int .u64 (rN 8 (sN 4 (sN 8 (sN 1 s))) : Nat))) B p q (headS s) (headR s) none 0 none 0 := ⟨h7, World.ownsRow_nil _ _ _ _, World.ownsRow_nil _ _ _ _⟩
  clear h7
  cases hc : chgB (rN 1 s : Nat)
  · by_cases h8 : ((rN 1 s : Nat) : Int) = 8
    · have E : Hid (rawS s = (tabS (headS s), tabR (headS s) (headR s))) := by
        show _ = _
        unfold rawS onChg
        rw [if_neg (show ¬ chgB (headR s).kind = true by rw [show (headR s).kind = ((rN 1 s : Nat) : Int) from rfl, hc]; decide)]
        unfold onUnd
        rw [if_neg (show ¬ (headR s).kind = 2 by rw [show (headR s).kind = ((rN 1 s : Nat) : Int) from rfl, h8]; decide)]
        unfold onTab
        rw [if_pos (show (headR s).kind = 8 from h8)]
      have h8' : (((rN 1 s : Nat) : Int) == 8) = true := by simp [h8]
      have HT0 := (show Hid _ from hT0)
      clear hc h8 hT0
      go_wp2_with fail
      refine (takeTables_any B p q (headS s) (headR s) none 0 none 0 X _ HT0.out rfl rfl).mono ?_
      rintro e V ⟨rfl, ta, tc, da, dc, hT⟩
      clear h8' q0 q1 q2 q3 q4 q5 q6 q7 q8 q9 q10 q11 hf HT0
      generalize tabS (headS s) = S' at *
      generalize tabR (headS s) (headR s) = R' at *
      go_wp2_with fail
      have HT := (show Hid _ from hT)
      clear hT
      obtain ⟨a, c, hr⟩ := HT.out.rw.rs
      have HR := (show Hid _ from rend_any B p a c _ _ _ hr)
      clear hr
      refine Calls.mono HR.out ?_
      rintro e w9 ⟨rfl, hw9⟩
      obtain rfl := hw9.symm
      clear HR
      have Hend : Hid (endB s = (endOf S'.1 S'.2 == 0)) := by show _ = _; unfold endB; rw [E.out]
      have HBV : Hid (Below B w V) := HBX.out.trans (HT.out.rw.kq.below hB (by omega))
      have HO1 := (show Hid _ from ownsRow_base HT.out.own1 (show w.heap.size ≤ q + 1 by omega))
      have HO2 := (show Hid _ from ownsRow_base HT.out.own2 (show w.heap.size ≤ q + 1 by omega))
      have hqV := HT.out.rw.q
      obtain ⟨⟨q0, q1, q2, q3, q4, q5, q6, q7, q8, q9, q10, q11⟩, hf⟩ := rw_cells HT.out.rw.blk
      have hnV : V.heap[w.heap.size]? = some (.cells #[.int .i64 0, .int .u64 0, .int .i64 0, .int .u64 0, .int .u64 0, .int .i64 0, .int .i64 0, .string ⟨#[]⟩, .string ⟨#[]⟩, .string ⟨#[]⟩, .slice none 0 0, .slice none 0 0] 31) := by
        rw [HT.out.rw.kq.block _ hz1 (by omega)]
        exact hnX
      obtain ⟨⟨m0, m1, m2, m3, m4, m5, m6, m7, m8, m9, m10, m11⟩, hfn⟩ := rw_cells hnV
      go_wp2_with fail
      refine parts (must_any _ _) (fun hb w10 hw => ?_) (fun hb w10 hw => ?_)
      · subst hw
        go_wp2
        refine ⟨rfl, ta, tc, da, dc, ?_⟩
        rw [E.out, Hend.out, hb.out]
        exact ⟨rfl, HO1.out, HO2.out, HBV.out⟩
      · subst hw
        have _hres := set12 (.int .i64 R'.kind) (.int .u64 (R'.lsn : Int)) (.int .i64 R'.txn) (.int .u64 (R'.prev : Int)) (.int .u64 (R'.undo : Int)) (.int .i64 R'.page) (.int .i64 R'.ak) (.string (txt R'.key)) (.string (txt R'.old)) (.string (txt R'.new)) (.slice ta R'.txns.length tc) (.slice da R'.dirty.length dc) hnV
        have HS1 := (show Hid _ from set12_own (n := w.heap.size) (.int .i64 R'.kind) (.int .u64 (R'.lsn : Int)) (.int .i64 R'.txn) (.int .u64 (R'.prev : Int)) (.int .u64 (R'.undo : Int)) (.int .i64 R'.page) (.int .i64 R'.ak) (.string (txt R'.key)) (.string (txt R'.old)) (.string (txt R'.new)) (.slice ta R'.txns.length tc) (.slice da R'.dirty.length dc) HT.out.own1 (by omega))
        have HS2 := (show Hid _ from set12_own (n := w.heap.size) (.int .i64 R'.kind) (.int .u64 (R'.lsn : Int)) (.int .i64 R'.txn) (.int .u64 (R'.prev : Int)) (.int .u64 (R'.undo : Int)) (.int .i64 R'.page) (.int .i64 R'.ak) (.string (txt R'.key)) (.string (txt R'.old)) (.string (txt R'.new)) (.slice ta R'.txns.length tc) (.slice da R'.dirty.length dc) HT.out.own2 (by omega))
        have HS3 := (show Hid _ from set12_below (n := w.heap.size) (.int .i64 R'.kind) (.int .u64 (R'.lsn : Int)) (.int .i64 R'.txn) (.int .u64 (R'.prev : Int)) (.int .u64 (R'.undo : Int)) (.int .i64 R'.page) (.int .i64 R'.ak) (.string (txt R'.key)) (.string (txt R'.old)) (.string (txt R'.new)) (.slice ta R'.txns.length tc) (.slice da R'.dirty.length dc) HBV.out (by omega))
        clear _hres
        go_wp2
        refine bodyPost_ret (v := recV R' ta tc da dc) (by simp [results, Try.results45, go_sem, m0, m1, m2, m3, m4, m5, m6, m7, m8, m9, m10, m11]) rfl ⟨ta, tc, da, dc, ?_⟩
        rw [E.out, Hend.out, hb.out]
        exact ⟨rfl, ownsRow_base HS1.out (by omega), ownsRow_base HS2.out (by omega), HS3.out⟩
    · have E : Hid (rawS s = (headS s, headR s)) := by
        show _ = _
        unfold rawS onChg
        rw [if_neg (show ¬ chgB (headR s).kind = true by rw [show (headR s).kind = ((rN 1 s : Nat) : Int) from rfl, hc]; decide)]
        unfold onUnd
        rw [if_neg (show ¬ (headR s).kind = 2 by intro e; rw [show (headR s).kind = ((rN 1 s : Nat) : Int) from rfl] at e; rw [e] at hc; cases hc)]
        unfold onTab
        rw [if_neg (show ¬ (headR s).kind = 8 from h8)]
      have h8' : (((rN 1 s : Nat) : Int) == 8) = false := by simpa using h8
      clear hc h8
      go_wp2_with fail
      have hT := hT0
      clear hT0 h8' q0 q1 q2 q3 q4 q5 q6 q7 q8 q9 q10 q11 hf
      generalize w6.setCell ⟨q, 3, none⟩ (.int .u64 (rN 8 (sN 4 (sN 8 (sN 1 s))) : Nat)) = V at *
      generalize headS s = S' at *
      generalize headR s = R' at *
      have HT := (show Hid _ from hT)
      clear hT
      obtain ⟨a, c, hr⟩ := HT.out.rw.rs
      have HR := (show Hid _ from rend_any B p a c _ _ _ hr)
      clear hr
      refine Calls.mono HR.out ?_
      rintro e w9 ⟨rfl, hw9⟩
      obtain rfl := hw9.symm
      clear HR
      have Hend : Hid (endB s = (endOf S'.1 S'.2 == 0)) := by show _ = _; unfold endB; rw [E.out]
      have HBV : Hid (Below B w V) := HBX.out.trans (HT.out.rw.kq.below hB (by omega))
      have HO1 := (show Hid _ from ownsRow_base HT.out.own1 (show w.heap.size ≤ q + 1 by omega))
      have HO2 := (show Hid _ from ownsRow_base HT.out.own2 (show w.heap.size ≤ q + 1 by omega))
      have hqV := HT.out.rw.q
      obtain ⟨⟨q0, q1, q2, q3, q4, q5, q6, q7, q8, q9, q10, q11⟩, hf⟩ := rw_cells HT.out.rw.blk
      have hnV : V.heap[w.heap.size]? = some (.cells #[.int .i64 0, .int .u64 0, .int .i64 0, .int .u64 0, .int .u64 0, .int .i64 0, .int .i64 0, .string ⟨#[]⟩, .string ⟨#[]⟩, .string ⟨#[]⟩, .slice none 0 0, .slice none 0 0] 31) := by
        rw [HT.out.rw.kq.block _ hz1 (by omega)]
        exact hnX
      obtain ⟨⟨m0, m1, m2, m3, m4, m5, m6, m7, m8, m9, m10, m11⟩, hfn⟩ := rw_cells hnV
      go_wp2_with fail
      refine parts (must_any _ _) (fun hb w10 hw => ?_) (fun hb w10 hw => ?_)
      · subst hw
        go_wp2
        refine ⟨rfl, none, 0, none, 0, ?_⟩
        rw [E.out, Hend.out, hb.out]
        exact ⟨rfl, HO1.out, HO2.out, HBV.out⟩
      · subst hw
        have _hres := set12 (.int .i64 R'.kind) (.int .u64 (R'.lsn : Int)) (.int .i64 R'.txn) (.int .u64 (R'.prev : Int)) (.int .u64 (R'.undo : Int)) (.int .i64 R'.page) (.int .i64 R'.ak) (.string (txt R'.key)) (.string (txt R'.old)) (.string (txt R'.new)) (.slice none R'.txns.length 0) (.slice none R'.dirty.length 0) hnV
        have HS1 := (show Hid _ from set12_own (n := w.heap.size) (.int .i64 R'.kind) (.int .u64 (R'.lsn : Int)) (.int .i64 R'.txn) (.int .u64 (R'.prev : Int)) (.int .u64 (R'.undo : Int)) (.int .i64 R'.page) (.int .i64 R'.ak) (.string (txt R'.key)) (.string (txt R'.old)) (.string (txt R'.new)) (.slice none R'.txns.length 0) (.slice none R'.dirty.length 0) HT.out.own1 (by omega))
        have HS2 := (show Hid _ from set12_own (n := w.heap.size) (.int .i64 R'.kind) (.int .u64 (R'.lsn : Int)) (.int .i64 R'.txn) (.int .u64 (R'.prev : Int)) (.int .u64 (R'.undo : Int)) (.int .i64 R'.page) (.int .i64 R'.ak) (.string (txt R'.key)) (.string (txt R'.old)) (.string (txt R'.new)) (.slice none R'.txns.length 0) (.slice none R'.dirty.length 0) HT.out.own2 (by omega))
        have HS3 := (show Hid _ from set12_below (n := w.heap.size) (.int .i64 R'.kind) (.int .u64 (R'.lsn : Int)) (.int .i64 R'.txn) (.int .u64 (R'.prev : Int)) (.int .u64 (R'.undo : Int)) (.int .i64 R'.page) (.int .i64 R'.ak) (.string (txt R'.key)) (.string (txt R'.old)) (.string (txt R'.new)) (.slice none R'.txns.length 0) (.slice none R'.dirty.length 0) HBV.out (by omega))
        clear _hres
        go_wp2
        refine bodyPost_ret (v := recV R' none 0 none 0) (by simp [results, Try.results45, go_sem, m0, m1, m2, m3, m4, m5, m6, m7, m8, m9, m10, m11]) rfl ⟨none, 0, none, 0, ?_⟩
        rw [E.out, Hend.out, hb.out]
        exact ⟨rfl, ownsRow_base HS1.out (by omega), ownsRow_base HS2.out (by omega), HS3.out⟩
  · have E : Hid (rawS s = onUnd (chgS (headS s), chgR (headS s) (headR s))) := by
      show _ = _
      have hk : (onUnd (chgS (headS s), chgR (headS s) (headR s))).2.kind = ((rN 1 s : Nat) : Int) := chg_kind _ _
      unfold rawS onChg
      rw [if_pos (show chgB (headR s).kind = true from hc)]
      unfold onTab
      rw [if_neg (by rw [hk]; intro e; rw [e] at hc; cases hc)]
    have hR8 : ((onUnd (chgS (headS s), chgR (headS s) (headR s))).2.kind == 8) = false := by
      rw [chg_kind]
      have := (chgB_iff ((rN 1 s : Nat) : Int)).1 hc
      show (((rN 1 s : Nat) : Int) == 8) = false
      simp
      omega
    have hRt : (onUnd (chgS (headS s), chgR (headS s) (headR s))).2.txns = [] ∧ (onUnd (chgS (headS s), chgR (headS s) (headR s))).2.dirty = [] := by
      unfold onUnd
      split <;> exact ⟨rfl, rfl⟩
    have HT0 := (show Hid _ from hT0)
    clear hT0
    go_wp2_with fail
    refine (takeChange_any B p q (headS s) (headR s) none 0 none 0 X _ HT0.out.rw).mono ?_
    rintro e V ⟨rfl, hV⟩
    clear hc q0 q1 q2 q3 q4 q5 q6 q7 q8 q9 q10 q11 hf HT0
    generalize onUnd (chgS (headS s), chgR (headS s) (headR s)) = SR at *
    obtain ⟨S', R'⟩ := SR
    simp only at hV hR8 hRt
    have hT : TW X V B p q S' R' none 0 none 0 := ⟨hV, by rw [hRt.1]; exact World.ownsRow_nil _ _ _ _, by rw [hRt.2]; exact World.ownsRow_nil _ _ _ _⟩
    obtain ⟨⟨q0, q1, q2, q3, q4, q5, q6, q7, q8, q9, q10, q11⟩, hf⟩ := rw_cells hV.blk
    have hqV0 := hV.q
    clear hV hRt
    go_wp2_with fail
    clear q0 q1 q2 q3 q4 q5 q6 q7 q8 q9 q10 q11 hf hR8 hqV0
    have HT := (show Hid _ from hT)
    clear hT
    obtain ⟨a, c, hr⟩ := HT.out.rw.rs
    have HR := (show Hid _ from rend_any B p a c _ _ _ hr)
    clear hr
    refine Calls.mono HR.out ?_
    rintro e w9 ⟨rfl, hw9⟩
    obtain rfl := hw9.symm
    clear HR
    have Hend : Hid (endB s = (endOf S'.1 S'.2 == 0)) := by show _ = _; unfold endB; rw [E.out]
    have HBV : Hid (Below B w V) := HBX.out.trans (HT.out.rw.kq.below hB (by omega))
    have HO1 := (show Hid _ from ownsRow_base HT.out.own1 (show w.heap.size ≤ q + 1 by omega))
    have HO2 := (show Hid _ from ownsRow_base HT.out.own2 (show w.heap.size ≤ q + 1 by omega))
    have hqV := HT.out.rw.q
    obtain ⟨⟨q0, q1, q2, q3, q4, q5, q6, q7, q8, q9, q10, q11⟩, hf⟩ := rw_cells HT.out.rw.blk
    have hnV : V.heap[w.heap.size]? = some (.cells #[.int .i64 0, .int .u64 0, .int .i64 0, .int .u64 0, .int .u64 0, .int .i64 0, .int .i64 0, .string ⟨#[]⟩, .string ⟨#[]⟩, .string ⟨#[]⟩, .slice none 0 0, .slice none 0 0] 31) := by
      rw [HT.out.rw.kq.block _ hz1 (by omega)]
      exact hnX
    obtain ⟨⟨m0, m1, m2, m3, m4, m5, m6, m7, m8, m9, m10, m11⟩, hfn⟩ := rw_cells hnV
    go_wp2_with fail
    refine parts (must_any _ _) (fun hb w10 hw => ?_) (fun hb w10 hw => ?_)
    · subst hw
      go_wp2
      refine ⟨rfl, none, 0, none, 0, ?_⟩
      rw [E.out, Hend.out, hb.out]
      exact ⟨rfl, HO1.out, HO2.out, HBV.out⟩
    · subst hw
      have _hres := set12 (.int .i64 R'.kind) (.int .u64 (R'.lsn : Int)) (.int .i64 R'.txn) (.int .u64 (R'.prev : Int)) (.int .u64 (R'.undo : Int)) (.int .i64 R'.page) (.int .i64 R'.ak) (.string (txt R'.key)) (.string (txt R'.old)) (.string (txt R'.new)) (.slice none R'.txns.length 0) (.slice none R'.dirty.length 0) hnV
      have HS1 := (show Hid _ from set12_own (n := w.heap.size) (.int .i64 R'.kind) (.int .u64 (R'.lsn : Int)) (.int .i64 R'.txn) (.int .u64 (R'.prev : Int)) (.int .u64 (R'.undo : Int)) (.int .i64 R'.page) (.int .i64 R'.ak) (.string (txt R'.key)) (.string (txt R'.old)) (.string (txt R'.new)) (.slice none R'.txns.length 0) (.slice none R'.dirty.length 0) HT.out.own1 (by omega))
      have HS2 := (show Hid _ from set12_own (n := w.heap.size) (.int .i64 R'.kind) (.int .u64 (R'.lsn : Int)) (.int .i64 R'.txn) (.int .u64 (R'.prev : Int)) (.int .u64 (R'.undo : Int)) (.int .i64 R'.page) (.int .i64 R'.ak) (.string (txt R'.key)) (.string (txt R'.old)) (.string (txt R'.new)) (.slice none R'.txns.length 0) (.slice none R'.dirty.length 0) HT.out.own2 (by omega))
      have HS3 := (show Hid _ from set12_below (n := w.heap.size) (.int .i64 R'.kind) (.int .u64 (R'.lsn : Int)) (.int .i64 R'.txn) (.int .u64 (R'.prev : Int)) (.int .u64 (R'.undo : Int)) (.int .i64 R'.page) (.int .i64 R'.ak) (.string (txt R'.key)) (.string (txt R'.old)) (.string (txt R'.new)) (.slice none R'.txns.length 0) (.slice none R'.dirty.length 0) HBV.out (by omega))
      clear _hres
      go_wp2
      refine bodyPost_ret (v := recV R' none 0 none 0) (by simp [results, Try.results45, go_sem, m0, m1, m2, m3, m4, m5, m6, m7, m8, m9, m10, m11]) rfl ⟨none, 0, none, 0, ?_⟩
      rw [E.out, Hend.out, hb.out]
      exact ⟨rfl, ownsRow_base HS1.out (by omega), ownsRow_base HS2.out (by omega), HS3.out⟩

end Go.Proofs.Ytjhjicokbdloiaa
