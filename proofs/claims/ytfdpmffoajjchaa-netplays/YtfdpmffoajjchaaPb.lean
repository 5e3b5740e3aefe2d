/-
  NetPlays: the document's Send.
-/
import Derived.Test.YtfdpmffoajjchaaPa
namespace Go.Proofs.Ytfdpmffoajjchaa
open Go.RowKit Go.Conc

theorem step_append_fresh {P : Program} {ops : Array Oper} {o : Oper} {a : Act} {w : World} {K : Act → World → Prop} {Q : Exit → Act → World → Prop} {E : Prop}
    (hg : o.guard = none) (s x : Operand) (t : TypeId) (hop : o.op = Op.call { callee := Callee.builtin Builtin.append, args := #[s, x], argTypes := #[t, t] })
    (base : Nat) (e : TypeId) (i : TypeInfo) (z : Value) (size bytes : Nat) (h1 : P.underlying t = some (.slice e)) (h2 : P.info? e = some i) (h3 : i.zero = some z) (h4 : i.size = size) (h5 : i.bytes = bytes) (h6 : z.cells.size = size) (h7 : 0 < size)
    (v : Value) (n : Nat) (xs : List Value) (hs : a.eval s = v) (hown : w.ownsRow base e size v n xs)
    (ad : Addr) (m c : Nat) (news : List Value) (hx : a.eval x = .slice (some ad) m c) (hn : news.length = m * size) (hc : ∀ j u, news[j]? = some u → w.cell? (ad.add j) = some u) (h1c : ∀ u ∈ news, u.oneCell' = true)
    (b1 : n + m ≤ maxLen) (b2 : (n + m) * bytes ≤ 140737488355328) (hb : base ≤ w.heap.size)
    (hK : ∀ v' w', w'.ownsRow base e size v' (n + m) (xs ++ news) → w.grownBy w' v.ownBlock → K (a.put o.dst v') w') :
    if Region.wanted o (yielded ops a.tmps) = true then Oper.wp P o a w K Q else E := by
  have hw : Region.wanted o (yielded ops a.tmps) = true := by simp [Region.wanted, hg]
  rw [if_pos hw]
  obtain ⟨v', w', hrun, r1, r2, _⟩ := run_append_own (P := P) w base t o.type e i z size bytes h1 h2 h3 h4 h5 h6 h7 v n xs hown ad m c news hn hc h1c b1 b2 hb
  unfold Oper.wp
  simp [execOp, hop, resolve, invoke, builtin, hs, hx, hrun, Result.andThen]
  exact hK v' w' r1 r2

theorem info82 : (Try.prog.info? 82).map (fun i => (i.zero, i.size, i.bytes)) = some (some (.agg (#[.int .i64 0, .int .i64 0] ++ zeroC)), 11, 128) := by kernel_rfl
theorem info45 : (Try.prog.info? 45).map (fun i => (i.zero, i.size, i.bytes)) = some (some (.agg #[.int .i64 0, .slice none 0 0]), 2, 32) := by kernel_rfl

theorem itsC_ones (l : List It) : ∀ u ∈ itsC l, u.oneCell' = true := by
  intro u hu
  simp only [itsC, List.mem_flatMap] at hu
  obtain ⟨x, _, hu⟩ := hu
  simp only [itL, List.mem_append, List.mem_cons, List.not_mem_nil, or_false] at hu
  rcases hu with (rfl | rfl) | hu
  · rfl
  · rfl
  · exact msL_one _ _ u hu
theorem cell2 {w : World} {q t : Nat} {v0 v1 : Value} (h : w.heap[q]? = some (.cells #[v0, v1] t)) : w.cell? ⟨q, 0, none⟩ = some v0 ∧ w.cell? ⟨q, 1, none⟩ = some v1 ∧ (∀ i, w.frozen? ⟨q, i, none⟩ = false) := by
  simp [World.cell?, World.frozen?, h]
theorem put2_same {W : World} {n t : Nat} {z0 z1 : Value} (v0 v1 : Value) (h : W.heap[n]? = some (.cells #[z0, z1] t)) : ((W.setCell ⟨n, 0, none⟩ v0).setCell ⟨n, 1, none⟩ v1).heap[n]? = some (.cells #[v0, v1] t) := by
  have h0 : (W.setCell ⟨n, 0, none⟩ v0).heap[n]? = some (.cells #[v0, z1] t) := cells_set h
  exact cells_set h0

/-- The three boxes of the document's Send. -/
structure Box3 (w W : World) (A B : Array Value) : Prop where
  h0 : W.heap[w.heap.size]? = some (.cells A 45)
  h1 : W.heap[w.heap.size + 1]? = some (.cells B 31)
  h2 : W.heap[w.heap.size + 2]? = some (.cells #[.int .i64 0, .slice none 0 0] 45)
  bel : Below w.heap.size w W
theorem Box3.new (w : World) (A B : Array Value) : Box3 w (((w.alloc (.cells A 45)).alloc (.cells B 31)).alloc (.cells #[.int .i64 0, .slice none 0 0] 45)) A B := by
  refine ⟨?_, ?_, ?_, ((((Below.refl _ _).alloc (Nat.le_refl _) _).alloc (by simp) _).alloc (by simp; omega) _)⟩
  · rw [Below.heap_alloc _ _ _ (by simp; omega), Below.heap_alloc _ _ _ (by simp)]
    exact heap_alloc_new _ _
  · rw [Below.heap_alloc _ _ _ (by simp)]
    have := heap_alloc_new (w.alloc (.cells A 45)) (.cells B 31)
    simpa using this
  · have := heap_alloc_new ((w.alloc (.cells A 45)).alloc (.cells B 31)) (.cells #[.int .i64 0, .slice none 0 0] 45)
    simpa using this
theorem Box3.low {w W W' : World} {A B : Array Value} {N : Nat} (h : Box3 w W A B) (hb : Below N W W') (hN : w.heap.size + 2 < N) : Box3 w W' A B :=
  ⟨by rw [hb.block _ (by omega)]; exact h.h0, by rw [hb.block _ (by omega)]; exact h.h1, by rw [hb.block _ (by omega)]; exact h.h2, h.bel.trans (hb.mono (by omega))⟩
theorem Box3.below {w W W' : World} {A B : Array Value} (h : Box3 w W A B) (hb : Below W.heap.size W W') : Box3 w W' A B :=
  ⟨KeepC.below hb _ _ _ _ h.h0, KeepC.below hb _ _ _ _ h.h1, KeepC.below hb _ _ _ _ h.h2, h.bel.trans (hb.mono h.bel.size)⟩

set_option maxRecDepth 100000 in
set_option maxHeartbeats 2000000 in
theorem refSend_no (n : Nat) (a : Option Addr) (c : Nat) (l : List It) (f t : Int) (m : Ms) (p : Pl) (w : World) (hr : rix n f t = none) :
    Calls Try.prog 30 #[refN n (.slice a l.length c), .int .i64 f, .int .i64 t, msV m p] w fun e w' => e = .returned (.tuple #[refN n (.slice a l.length c), .int .i64 1]) ∧ Below w.heap.size w w' := by
  have HX0 := toHid (Box3.new w #[.int .i64 n, .slice a l.length c] (msC m p))
  obtain ⟨wa, wc, pa, pc⟩ := p
  obtain ⟨x0, x1, xf⟩ := cell2 HX0.out.h0
  obtain ⟨y0, y1, yf⟩ := cell2 HX0.out.h2
  go_enter Try.func30, Try.ntmps30
  go_wp2_with fail
  go_at_call 18
  refine Calls.mono (row18 n (.slice a l.length c) f t _) ?_
  rintro e w1 ⟨rfl, hB1⟩
  have HX1 := toHid (HX0.out.below hB1)
  clear hB1 x0 x1 xf y0 y1 yf
  rw [hr]
  simp only [Option.isSome_none]
  obtain ⟨x0, x1, xf⟩ := cell2 HX1.out.h0
  obtain ⟨y0, y1, yf⟩ := cell2 HX1.out.h2
  go_wp2_with fail
  have hfin := put2_same (.int .i64 (n : Int)) (.slice a l.length c) HX1.out.h2
  refine bodyPost_ret (results_cell_row2 (P := Try.prog) Try.results30 _ _ (w.heap.size + 2) 45 _ (0, 0) _ rfl hfin Try.underlying45 rfl (by kernel_rfl)) rfl ⟨rfl, ?_⟩
  exact (HX1.out.bel.setCell (by simp; omega) _).setCell (by simp; omega) _

set_option maxRecDepth 100000 in
set_option maxHeartbeats 2000000 in
theorem refSend_full (n : Nat) (a : Option Addr) (c : Nat) (l : List It) (f t : Int) (m : Ms) (p : Pl) (w : World) (h : Rd w a (itsC l)) (hl : l.length ≤ 100000) (k : Nat) (hr : rix n f t = some k) (h256 : 256 ≤ (pkM l f t).length) :
    Calls Try.prog 30 #[refN n (.slice a l.length c), .int .i64 f, .int .i64 t, msV m p] w fun e w' => e = .returned (.tuple #[refN n (.slice a l.length c), .int .i64 7]) ∧ Below w.heap.size w w' := by
  have hg : (256 : Int) ≤ ((pkM l f t).length : Int) := by omega
  generalize hlen : (pkM l f t).length = len at hg h256
  have HX0 := toHid (Box3.new w #[.int .i64 n, .slice a l.length c] (msC m p))
  obtain ⟨wa, wc, pa, pc⟩ := p
  obtain ⟨x0, x1, xf⟩ := cell2 HX0.out.h0
  obtain ⟨y0, y1, yf⟩ := cell2 HX0.out.h2
  go_enter Try.func30, Try.ntmps30
  go_wp2_with fail
  go_at_call 18
  refine Calls.mono (row18 n (.slice a l.length c) f t _) ?_
  rintro e w1 ⟨rfl, hB1⟩
  have HX1 := toHid (HX0.out.below hB1)
  clear hB1 x0 x1 xf y0 y1 yf
  rw [hr]
  simp only [Option.isSome_some]
  obtain ⟨x0, x1, xf⟩ := cell2 HX1.out.h0
  obtain ⟨y0, y1, yf⟩ := cell2 HX1.out.h2
  go_wp2_with fail
  go_at_call 34
  refine Calls.mono (refPeek34 n a c l f t _ (h.below HX1.out.bel) hl) ?_
  rintro e w2 ⟨v2, rfl, hv2, hB2⟩
  rw [hlen] at hv2
  obtain ⟨a2, c2, rfl⟩ := ownsRow_shape hv2
  have HX2 := toHid (HX1.out.below hB2)
  clear hv2 hB2 x0 x1 xf y0 y1 yf
  obtain ⟨x0, x1, xf⟩ := cell2 HX2.out.h0
  obtain ⟨y0, y1, yf⟩ := cell2 HX2.out.h2
  go_wp2_with fail
  have hfin := put2_same (.int .i64 (n : Int)) (.slice a l.length c) HX2.out.h2
  refine bodyPost_ret (results_cell_row2 (P := Try.prog) Try.results30 _ _ (w.heap.size + 2) 45 _ (0, 0) _ rfl hfin Try.underlying45 rfl (by kernel_rfl)) rfl ⟨rfl, ?_⟩
  exact (HX2.out.bel.setCell (by simp; omega) _).setCell (by simp; omega) _

set_option maxRecDepth 100000 in
set_option maxHeartbeats 2000000 in
theorem refSend_yes (n : Nat) (a : Option Addr) (c : Nat) (l : List It) (f t : Int) (m : Ms) (p : Pl) (w : World) (h : Rd w a (itsC l)) (hl : l.length ≤ 100000) (hnil : a = none → l.length = 0 ∧ c = 0) (k : Nat) (hr : rix n f t = some k) (h256 : (pkM l f t).length < 256) :
    Calls Try.prog 30 #[refN n (.slice a l.length c), .int .i64 f, .int .i64 t, msV m p] w fun e w' => ∃ v', e = .returned (.tuple #[refN n v', .int .i64 0]) ∧ w'.ownsRow w.heap.size 82 11 v' (l.length + 1) (itsC (l ++ [⟨f, t, m, p⟩])) ∧ Below w.heap.size w w' := by
  have hg : ¬ (256 : Int) ≤ ((pkM l f t).length : Int) := by omega
  obtain ⟨i0, hi0, hz0, hz1, hz2⟩ := info_parts info82
  generalize hlen : (pkM l f t).length = len at hg h256
  have HX0 := toHid (Box3.new w #[.int .i64 n, .slice a l.length c] (msC m p))
  obtain ⟨wa, wc, pa, pc⟩ := p
  obtain ⟨x0, x1, xf⟩ := cell2 HX0.out.h0
  obtain ⟨y0, y1, yf⟩ := cell2 HX0.out.h2
  go_enter Try.func30, Try.ntmps30
  go_wp2_with fail
  go_at_call 18
  refine Calls.mono (row18 n (.slice a l.length c) f t _) ?_
  rintro e w1 ⟨rfl, hB1⟩
  have HX1 := toHid (HX0.out.below hB1)
  clear hB1 x0 x1 xf y0 y1 yf
  rw [hr]
  simp only [Option.isSome_some]
  obtain ⟨x0, x1, xf⟩ := cell2 HX1.out.h0
  obtain ⟨y0, y1, yf⟩ := cell2 HX1.out.h2
  go_wp2_with fail
  go_at_call 34
  refine Calls.mono (refPeek34 n a c l f t _ (h.below HX1.out.bel) hl) ?_
  rintro e w2 ⟨v2, rfl, hv2, hB2⟩
  rw [hlen] at hv2
  obtain ⟨a2, c2, rfl⟩ := ownsRow_shape hv2
  have HX2 := toHid (HX1.out.below hB2)
  clear hv2 hB2 x0 x1 xf y0 y1 yf
  obtain ⟨x0, x1, xf⟩ := cell2 HX2.out.h0
  obtain ⟨y0, y1, yf⟩ := cell2 HX2.out.h2
  have HRd := toHid (h.below HX2.out.bel)
  have hsz := HX2.out.bel.size
  go_wp2_with (at_builtin; go_must (refine wpList_append_src _ rfl (.tmp 24) (.tmp 26) 43 rfl w2.heap.size 82 i0 _ 11 128 Try.underlying43 hi0 hz0 hz1 hz2 rfl (by decide) (.slice none 0 0) 0 [] rfl (World.ownsRow_nil _ _ _ _) a l.length c (itsC l) rfl (fun e => hnil e) (itsC_length _) HRd.out.flat (itsC_ones _) (by unfold maxLen; omega) (by omega) (Nat.le_refl _) ?_; intro v3 w3 hown3 hgrow3 _; rw [Nat.zero_add, List.nil_append] at hown3; obtain ⟨a3, c3, rfl⟩ := ownsRow_shape hown3; have HO3 := toHid hown3; have hb3 : Below w2.heap.size w2 w3 := ⟨hgrow3.os, hgrow3.tape, hgrow3.output, hgrow3.size, fun k hk => hgrow3.block k hk (by simp [Value.ownBlock])⟩; have HX3 := toHid (HX2.out.below hb3); have hs3 := hb3.size; clear hown3 hgrow3 hb3 x0 x1 xf y0 y1 yf; obtain ⟨x0, x1, xf⟩ := cell2 HX3.out.h0; obtain ⟨y0, y1, yf⟩ := cell2 HX3.out.h2))
  obtain ⟨m0, m1, m2, m3, m4, m5, m6, m7, m8, mf⟩ := cell9 HX3.out.h1
  have hS0 : (fun W => W.cell? ⟨w.heap.size, 0, none⟩ = some (.int .i64 n) ∧ W.cell? ⟨w.heap.size + 1, 0, none⟩ = some (.int .i64 m.kind) ∧ W.cell? ⟨w.heap.size + 1, 1, none⟩ = some (.int .i64 m.txn) ∧ W.cell? ⟨w.heap.size + 1, 2, none⟩ = some (.int .i64 m.page) ∧ W.cell? ⟨w.heap.size + 1, 3, none⟩ = some (.int .i64 m.to) ∧ W.cell? ⟨w.heap.size + 1, 4, none⟩ = some (.bool m.fast) ∧ W.cell? ⟨w.heap.size + 1, 5, none⟩ = some (.int .u64 (m.lsn : Int)) ∧ W.cell? ⟨w.heap.size + 1, 6, none⟩ = some (.slice wa m.wants.length wc) ∧ W.cell? ⟨w.heap.size + 1, 7, none⟩ = some (.slice pa m.pages.length pc) ∧ W.cell? ⟨w.heap.size + 1, 8, none⟩ = some (.string (txt m.body))) w3.drew := ⟨x0, m0, m1, m2, m3, m4, m5, m6, m7, m8⟩
  have HS0 := toHid hS0
  clear hS0
  refine wp_region_held_drew (S := fun W => W.cell? ⟨w.heap.size, 0, none⟩ = some (.int .i64 n) ∧ W.cell? ⟨w.heap.size + 1, 0, none⟩ = some (.int .i64 m.kind) ∧ W.cell? ⟨w.heap.size + 1, 1, none⟩ = some (.int .i64 m.txn) ∧ W.cell? ⟨w.heap.size + 1, 2, none⟩ = some (.int .i64 m.page) ∧ W.cell? ⟨w.heap.size + 1, 3, none⟩ = some (.int .i64 m.to) ∧ W.cell? ⟨w.heap.size + 1, 4, none⟩ = some (.bool m.fast) ∧ W.cell? ⟨w.heap.size + 1, 5, none⟩ = some (.int .u64 (m.lsn : Int)) ∧ W.cell? ⟨w.heap.size + 1, 6, none⟩ = some (.slice wa m.wants.length wc) ∧ W.cell? ⟨w.heap.size + 1, 7, none⟩ = some (.slice pa m.pages.length pc) ∧ W.cell? ⟨w.heap.size + 1, 8, none⟩ = some (.string (txt m.body))) (by kernel_rfl) HS0.out (fun hHeld => ?_)
  refine wpAnyH_take (i := 0) (v := ?_) rfl (by kernel_rfl) (by kernel_rfl) (by kernel_rfl) (fun _ _ _ h => h) (Or.inl ⟨by rfl, ?_⟩) (by assumption) ?_
  rotate_left
  · (intro W hSw; obtain ⟨x0, m0, m1, m2, m3, m4, m5, m6, m7, m8⟩ := hSw; go_simp; try with_reducible rfl)
  try simp only [Act.put, List.getElem_toArray, List.getElem_cons_zero, List.setIfInBounds_toArray, List.set_cons_zero, List.set_cons_succ]
  refine wpAnyH_take (i := 1) (v := ?_) rfl (by kernel_rfl) (by kernel_rfl) (by kernel_rfl) (fun _ _ _ h => h) (Or.inl ⟨by rfl, ?_⟩) (by assumption) ?_
  rotate_left
  · (intro W hSw; obtain ⟨x0, m0, m1, m2, m3, m4, m5, m6, m7, m8⟩ := hSw; go_simp; try with_reducible rfl)
  try simp only [Act.put, List.getElem_toArray, List.getElem_cons_zero, List.getElem_cons_succ, List.setIfInBounds_toArray, List.set_cons_zero, List.set_cons_succ]
  refine wpAnyH_take (i := 2) (v := ?_) rfl (by kernel_rfl) (by kernel_rfl) (by kernel_rfl) (fun _ _ _ h => h) (Or.inl ⟨by rfl, ?_⟩) (by assumption) ?_
  rotate_left
  · (intro W hSw; obtain ⟨x0, m0, m1, m2, m3, m4, m5, m6, m7, m8⟩ := hSw; go_simp; try with_reducible rfl)
  try simp only [Act.put, List.getElem_toArray, List.getElem_cons_zero, List.getElem_cons_succ, List.setIfInBounds_toArray, List.set_cons_zero, List.set_cons_succ]
  refine wpAnyH_take (i := 3) (v := ?_) rfl (by kernel_rfl) (by kernel_rfl) (by kernel_rfl) (fun _ _ _ h => h) (Or.inl ⟨by rfl, ?_⟩) (by assumption) ?_
  rotate_left
  · (intro W hSw; obtain ⟨x0, m0, m1, m2, m3, m4, m5, m6, m7, m8⟩ := hSw; go_simp; try with_reducible rfl)
  try simp only [Act.put, List.getElem_toArray, List.getElem_cons_zero, List.getElem_cons_succ, List.setIfInBounds_toArray, List.set_cons_zero, List.set_cons_succ]
  refine wpAnyH_take (i := 4) (v := ?_) rfl (by kernel_rfl) (by kernel_rfl) (by kernel_rfl) (fun _ _ _ h => h) (Or.inl ⟨by rfl, ?_⟩) (by assumption) ?_
  rotate_left
  · (intro W hSw; obtain ⟨x0, m0, m1, m2, m3, m4, m5, m6, m7, m8⟩ := hSw; go_simp; try with_reducible rfl)
  try simp only [Act.put, List.getElem_toArray, List.getElem_cons_zero, List.getElem_cons_succ, List.setIfInBounds_toArray, List.set_cons_zero, List.set_cons_succ]
  refine wpAnyH_take (i := 5) (v := ?_) rfl (by kernel_rfl) (by kernel_rfl) (by kernel_rfl) (fun _ _ _ h => h) (Or.inl ⟨by rfl, ?_⟩) (by assumption) ?_
  rotate_left
  · (intro W hSw; obtain ⟨x0, m0, m1, m2, m3, m4, m5, m6, m7, m8⟩ := hSw; go_simp; try with_reducible rfl)
  try simp only [Act.put, List.getElem_toArray, List.getElem_cons_zero, List.getElem_cons_succ, List.setIfInBounds_toArray, List.set_cons_zero, List.set_cons_succ]
  refine wpAnyH_take (i := 6) (v := ?_) rfl (by kernel_rfl) (by kernel_rfl) (by kernel_rfl) (fun _ _ _ h => h) (Or.inl ⟨by rfl, ?_⟩) (by assumption) ?_
  rotate_left
  · (intro W hSw; obtain ⟨x0, m0, m1, m2, m3, m4, m5, m6, m7, m8⟩ := hSw; go_simp; try with_reducible rfl)
  try simp only [Act.put, List.getElem_toArray, List.getElem_cons_zero, List.getElem_cons_succ, List.setIfInBounds_toArray, List.set_cons_zero, List.set_cons_succ]
  refine wpAnyH_ready (rs := [7]) (by kernel_rfl) (by simp) ?_
  refine AllReadyH.cons rfl (fun K hK => ?_) AllReadyH.nil
  go_simp
  clear hHeld
  generalize hX : Obj.cells (#[.int .i64 f, .int .i64 t, .int .i64 m.kind, .int .i64 m.txn, .int .i64 m.page, .int .i64 m.to, .bool m.fast, .int .u64 (m.lsn : Int), .slice wa m.wants.length wc, .slice pa m.pages.length pc, .string (txt m.body)] : Array Value) 82 = X
  have hb4 : Below w3.heap.size w3 (w3.drew.alloc X) := ((Below.refl _ _).drew).alloc (Nat.le_refl _) _
  have HX4 := toHid (HX3.out.below hb4)
  have HO4 := toHid (own_keep HO3.out (KeepC.below hb4))
  have HN4 : Hid (∀ j u, (itL ⟨f, t, m, ⟨wa, wc, pa, pc⟩⟩)[j]? = some u → (w3.drew.alloc X).cell? ((⟨w3.heap.size, 0, none⟩ : Addr).add j) = some u) := by
    intro j u hj
    rw [add_plain]
    have e : (w3.drew.alloc X).heap[w3.heap.size]? = some X := heap_alloc_new w3.drew X
    unfold World.cell?
    rw [e, ← hX, Nat.zero_add]
    rw [← hj]
    show (#[_, _, _, _, _, _, _, _, _, _, _] : Array Value)[j]? = _
    rw [← Array.getElem?_toList]
    rfl
  have hz4 : (w3.drew.alloc X).heap.size = w3.heap.size + 1 := by simp
  have HZ4 := toHid hz4
  clear hb4 hz4
  refine hK.out _ (w3.drew.alloc X) ?_ (fun hHeld => ?_)
  · obtain ⟨x0, x1, xf⟩ := cell2 HX4.out.h0
    obtain ⟨m0, m1, m2, m3, m4, m5, m6, m7, m8, mf⟩ := cell9 HX4.out.h1
    exact ⟨x0, m0, m1, m2, m3, m4, m5, m6, m7, m8⟩
  clear hK K hX
  try simp only [Act.put, List.getElem_toArray, List.getElem_cons_zero, List.getElem_cons_succ, List.setIfInBounds_toArray, List.set_cons_zero, List.set_cons_succ]
  refine wpAnyH_ready (rs := [8]) (by kernel_rfl) (by simp) ?_
  refine AllReadyH.cons rfl (fun K hK => ?_) AllReadyH.nil
  clear hHeld
  refine step_append_fresh rfl (.tmp 30) (.tmp 35) 43 rfl w2.heap.size 82 i0 _ 11 128 Try.underlying43 hi0 hz0 hz1 hz2 rfl (by decide) (.slice a3 l.length c3) l.length (itsC l) rfl HO4.out ⟨w3.heap.size, 0, none⟩ 1 1 (itL ⟨f, t, m, ⟨wa, wc, pa, pc⟩⟩) rfl rfl HN4.out (fun u hu => itsC_ones [_] u (by rw [itsC_one]; exact hu)) (by unfold maxLen; omega) (by omega) (by rw [HZ4.out]; omega) ?_
  intro v5 w5 hown5 hgrow5
  obtain ⟨a5, c5, rfl⟩ := ownsRow_shape hown5
  have hbz : w.heap.size + 2 < w2.heap.size := (Array.getElem?_eq_some_iff.1 HX2.out.h2).1
  have hb5 : Below w2.heap.size (w3.drew.alloc X) w5 := ⟨hgrow5.os, hgrow5.tape, hgrow5.output, hgrow5.size, fun k hk => hgrow5.block k (by rw [HZ4.out]; omega) (fun e => by have := (own_block HO4.out k e.symm).1; omega)⟩
  have HX5 := toHid (HX4.out.low hb5 hbz)
  have HO5 := toHid hown5
  clear hown5 hgrow5 hb5 x0 x1 xf y0 y1 yf
  refine hK.out _ w5 ?_ (fun hHeld => ?_)
  · obtain ⟨x0, x1, xf⟩ := cell2 HX5.out.h0
    obtain ⟨m0, m1, m2, m3, m4, m5, m6, m7, m8, mf⟩ := cell9 HX5.out.h1
    exact ⟨x0, m0, m1, m2, m3, m4, m5, m6, m7, m8⟩
  clear hK K
  try simp only [Act.put, List.getElem_toArray, List.getElem_cons_zero, List.getElem_cons_succ, List.setIfInBounds_toArray, List.set_cons_zero, List.set_cons_succ]
  refine wpAnyH_take (i := 9) (v := ?_) rfl (by kernel_rfl) (by kernel_rfl) (by kernel_rfl) (fun _ _ _ h => h) (Or.inl ⟨by rfl, ?_⟩) (by assumption) ?_
  rotate_left
  · (intro W hSw; obtain ⟨x0, m0, m1, m2, m3, m4, m5, m6, m7, m8⟩ := hSw; go_simp; try with_reducible rfl)
  try simp only [Act.put, List.getElem_toArray, List.getElem_cons_zero, List.getElem_cons_succ, List.setIfInBounds_toArray, List.set_cons_zero, List.set_cons_succ]
  refine wpAnyH_ready (rs := [10]) (by kernel_rfl) (by simp) ?_
  refine AllReadyH.cons rfl (fun K hK => ?_) AllReadyH.nil
  clear hHeld
  obtain ⟨y0, y1, yf⟩ := cell2 HX5.out.h2
  go_simp
  have hfin := put2_same (.int .i64 (n : Int)) (.slice a5 (l.length + 1) c5) HX5.out.h2
  have HF := toHid hfin
  have hb6 : Below w.heap.size w5 ((w5.setCell ⟨w.heap.size + 2, 0, none⟩ (.int .i64 (n : Int))).setCell ⟨w.heap.size + 2, 1, none⟩ (.slice a5 (l.length + 1) c5)) := ((Below.refl _ _).setCell (by simp) _).setCell (by simp) _
  have HB6 := toHid (HX5.out.bel.trans hb6)
  have HR6 : Hid (((w5.setCell ⟨w.heap.size + 2, 0, none⟩ (.int .i64 (n : Int))).setCell ⟨w.heap.size + 2, 1, none⟩ (.slice a5 (l.length + 1) c5)).ownsRow w.heap.size 82 11 (.slice a5 (l.length + 1) c5) (l.length + 1) (itsC (l ++ [⟨f, t, m, ⟨wa, wc, pa, pc⟩⟩]))) := by
    rw [itsC_append, itsC_one]
    refine row_low (own_stay HO5.out (fun k c hk hc => ?_)) (by omega)
    have n1 : k ≠ w.heap.size + 2 := kind_ne hc HX5.out.h2 (by decide)
    rw [heap_setCell_other _ _ _ _ n1, heap_setCell_other _ _ _ _ n1]
  refine hK.out _ _ ?_ (fun hHeld => ?_)
  · obtain ⟨x0, x1, xf⟩ := cell2 ((heap_setCell_other _ ⟨w.heap.size + 2, 1, none⟩ w.heap.size (.slice a5 (l.length + 1) c5) (by simp)).trans ((heap_setCell_other w5 ⟨w.heap.size + 2, 0, none⟩ w.heap.size (.int .i64 (n : Int)) (by simp)).trans HX5.out.h0))
    obtain ⟨m0, m1, m2, m3, m4, m5, m6, m7, m8, mf⟩ := cell9 ((heap_setCell_other _ ⟨w.heap.size + 2, 1, none⟩ (w.heap.size + 1) (.slice a5 (l.length + 1) c5) (by simp)).trans ((heap_setCell_other w5 ⟨w.heap.size + 2, 0, none⟩ (w.heap.size + 1) (.int .i64 (n : Int)) (by simp)).trans HX5.out.h1))
    exact ⟨x0, m0, m1, m2, m3, m4, m5, m6, m7, m8⟩
  clear hK K
  try simp only [Act.put, List.getElem_toArray, List.getElem_cons_zero, List.getElem_cons_succ, List.setIfInBounds_toArray, List.set_cons_zero, List.set_cons_succ]
  refine wpAnyH_take (i := 11) (v := ?_) rfl (by kernel_rfl) (by kernel_rfl) (by kernel_rfl) (fun _ _ _ h => h) (Or.inl ⟨by rfl, ?_⟩) (by assumption) ?_
  rotate_left
  · (intro W hSw; obtain ⟨x0, m0, m1, m2, m3, m4, m5, m6, m7, m8⟩ := hSw; go_simp; try with_reducible rfl)
  try simp only [Act.put, List.getElem_toArray, List.getElem_cons_zero, List.getElem_cons_succ, List.setIfInBounds_toArray, List.set_cons_zero, List.set_cons_succ]
  refine wpAnyH_done (by kernel_rfl) ?_ _
  simp only [Exit.then]
  go_wp2_with fail
  refine bodyPost_ret (results_cell_row2 (P := Try.prog) Try.results30 _ _ (w.heap.size + 2) 45 _ (0, 0) _ rfl HF.out Try.underlying45 rfl (by kernel_rfl)) rfl ?_
  exact ⟨_, rfl, HR6.out, HB6.out⟩

end Go.Proofs.Ytfdpmffoajjchaa
