/-
  The second loop of StableWhole: a round.
-/
import Derived.Test.YtbigclhfgcaccaaWWc
namespace Go.Proofs.Ytbigclhfgcaccaa
open Go.RowKit

/-- Does a sector have what was to stand there? -/
def fresh (pl : Int) (Ln : Nat) (k : Int) (at' : Int) : Bool := decide (pl ≤ at') && decide (at' < pl + Ln) && decide ((at' - pl).tdiv 64 < k)

theorem wp5 {c : Code} {Q : Exit → Act → World → Prop} {A : Act} {w : World} (hs : A.tmps.size = 207) (hd : A.defers = []) (h : c.wp Try.prog Q (frame5 fun i => A.tmps.getD i undef) w) : c.wp Try.prog Q A w := by
  rw [frame5_lit A hs hd]; exact h

def I5b (n : Nat) (k : Int) (s Gn Gw : Nat) (o : Op) (now was : List UInt8) (w : World) (at' : Nat) (x : Act) (w' : World) : Prop :=
  ∃ u : Nat → Value, x = frame5 u ∧ Sm5 n k s Gn Gw u ∧ u 14 = .int .i64 (at' : Int) ∧ Mm5 s Gn Gw o now was w' ∧ Below w.heap.size w w'

theorem op_cells {s Gn Gw : Nat} {o : Op} {now was : List UInt8} {W : World} (h : Mm5 s Gn Gw o now was W) : W.cell? ⟨s + 1, 0, none⟩ = some (.int .i64 o.kind) ∧ W.cell? ⟨s + 1, 1, none⟩ = some (.int .i64 o.hand) ∧ W.cell? ⟨s + 1, 2, none⟩ = some (.int .i64 o.place) ∧ W.cell? ⟨s + 1, 3, none⟩ = some (.int .i64 o.n) ∧ W.cell? ⟨s + 1, 4, none⟩ = some (.int .u8 (o.fill.toNat : Int)) := by
  have y := h.op
  simp only [opV] at y
  exact ⟨by simp [World.cell?, y], by simp [World.cell?, y], by simp [World.cell?, y], by simp [World.cell?, y], by simp [World.cell?, y]⟩

set_option maxRecDepth 100000 in
set_option maxHeartbeats 3000000 in
theorem round5b_c (n : Nat) (k : Int) (s Gn Gw : Nat) (o : Op) (now was : List UInt8) (w : World) (at' : Nat) (u : Nat → Value) (wr : World) (hu : Sm5 n k s Gn Gw u) (h14 : u 14 = .int .i64 (at' : Int)) (hM : Mm5 s Gn Gw o now was wr) (hb : Below w.heap.size w wr)
    (hn : n ≤ 4096) (hat : at' + 64 ≤ n) (hnn : now.length = n) (hwn : was.length = n) (Ln : Nat) (hLn : long o.n = (Ln : Int)) (hp0 : 0 ≤ o.place) (hp1 : o.place + Ln ≤ n) (hf : ∀ i, at' ≤ i → i < at' + 64 → now[i]? = if fresh o.place Ln k at' then some o.fill else was[i]?) (hc : ¬ o.place ≤ (at' : Int)) (Q0 : Exit → Act → World → Prop) (HQ : ∀ c (a : Act) t v w, Q0 (.panic c) (a.put t v) w → Q0 (.panic c) a w) :
    Code.wp Try.prog loop5b (Exit.then (fun x w'' => I5b n k s Gn Gw o now was w (at' + 64) x w'') Q0) (frame5 u) wr := by
  obtain ⟨h3, h5, h6, h10, h12⟩ := hu
  obtain ⟨kd, th, tp, tn, tf⟩ := o
  dsimp only at *
  rw [frame5_open, h3, h5, h6, h10, h12, h14]
  clear h3 h5 h6 h10 h12 h14
  have HF : Hid _ := hf
  clear hf
  have HL : Hid _ := long_any ⟨kd, th, tp, tn, tf⟩
  dsimp only [opV] at HL
  rw [hLn] at HL
  have HS : Hid (∀ W, Mm5 s Gn Gw ⟨kd, th, tp, tn, tf⟩ now was W → Below w.heap.size w W → (fun W => W.cell? ⟨s + 1, 0, none⟩ = some (.int .i64 kd) ∧ W.cell? ⟨s + 1, 1, none⟩ = some (.int .i64 th) ∧ W.cell? ⟨s + 1, 2, none⟩ = some (.int .i64 tp) ∧ W.cell? ⟨s + 1, 3, none⟩ = some (.int .i64 tn) ∧ W.cell? ⟨s + 1, 4, none⟩ = some (.int .u8 (tf.toNat : Int)) ∧ Mm5 s Gn Gw ⟨kd, th, tp, tn, tf⟩ now was W ∧ Below w.heap.size w W) W) := fun W h1 h2 => by
    obtain ⟨y0, y1, y2, y3, y4⟩ := op_cells h1
    exact ⟨y0, y1, y2, y3, y4, h1, h2⟩
  obtain ⟨y0, y1, y2, y3, y4⟩ := op_cells hM
  have hM' := hM.below (Below.refl _ _).drew
  have hB' := hb.drew
  clear hM hb
  have HFr : Hid (fresh tp Ln k at' = false) := by show _ = _; unfold fresh; rw [decide_eq_false hc]; rfl
  conv => arg 2; whnf
  go_wp2_with fail
  refine wp_region_held_drew (S := (fun W => W.cell? ⟨s + 1, 0, none⟩ = some (.int .i64 kd) ∧ W.cell? ⟨s + 1, 1, none⟩ = some (.int .i64 th) ∧ W.cell? ⟨s + 1, 2, none⟩ = some (.int .i64 tp) ∧ W.cell? ⟨s + 1, 3, none⟩ = some (.int .i64 tn) ∧ W.cell? ⟨s + 1, 4, none⟩ = some (.int .u8 (tf.toNat : Int)) ∧ Mm5 s Gn Gw ⟨kd, th, tp, tn, tf⟩ now was W ∧ Below w.heap.size w W)) (by kernel_rfl) (HS.out _ hM' hB') (fun hHeld => ?_)
  refine wpAnyH_take (i := 0) (v := ?_) rfl (by kernel_rfl) (by kernel_rfl) (by kernel_rfl) (fun c _ _ h => HQ c _ _ _ _ h) (Or.inl ⟨by rfl, ?_⟩) (by assumption) ?_
  rotate_left
  · (intro W hSw; (try dsimp only at hSw); go_simp; try with_reducible rfl)
  try simp only [Act.put, List.getElem_toArray, List.getElem_cons_zero, List.setIfInBounds_toArray, List.set_cons_zero, List.set_cons_succ]
  refine wpAnyH_take (i := 1) (v := ?_) rfl (by kernel_rfl) (by kernel_rfl) (by kernel_rfl) (fun c _ _ h => HQ c _ _ _ _ h) (Or.inl ⟨by rfl, ?_⟩) (by assumption) ?_
  rotate_left
  · (intro W hSw; (try dsimp only at hSw); go_simp; try with_reducible rfl)
  try simp only [Act.put, List.getElem_toArray, List.getElem_cons_zero, List.getElem_cons_succ, List.setIfInBounds_toArray, List.set_cons_zero, List.set_cons_succ]
  refine wpAnyH_take (i := 2) (v := ?_) rfl (by kernel_rfl) (by kernel_rfl) (by kernel_rfl) (fun c _ _ h => HQ c _ _ _ _ h) (Or.inl ⟨by rfl, ?_⟩) (by assumption) ?_
  rotate_left
  · (intro W hSw; (try dsimp only at hSw); go_simp; try with_reducible rfl)
  try simp only [Act.put, List.getElem_toArray, List.getElem_cons_zero, List.getElem_cons_succ, List.setIfInBounds_toArray, List.set_cons_zero, List.set_cons_succ]
  refine wpAnyH_take (i := 3) (v := .bool false) rfl (by kernel_rfl) (by kernel_rfl) (by kernel_rfl) (fun c _ _ h => HQ c _ _ _ _ h) (Or.inl ⟨by rfl, ?_⟩) (by assumption) ?_
  · (intro W hSw; (try dsimp only at hSw); go_simp; try simp [hc])
  try simp only [Act.put, List.getElem_toArray, List.getElem_cons_zero, List.getElem_cons_succ, List.setIfInBounds_toArray, List.set_cons_zero, List.set_cons_succ]
  refine wpAnyH_take (i := 4) (v := ?_) rfl (by kernel_rfl) (by kernel_rfl) (by kernel_rfl) (fun c _ _ h => HQ c _ _ _ _ h) (Or.inl ⟨by rfl, ?_⟩) (by assumption) ?_
  rotate_left
  · (intro W hSw; (try dsimp only at hSw); go_simp; try with_reducible rfl)
  try simp only [Act.put, List.getElem_toArray, List.getElem_cons_zero, List.getElem_cons_succ, List.setIfInBounds_toArray, List.set_cons_zero, List.set_cons_succ]
  refine wpAnyH_take (i := 5) (v := undef) rfl (by kernel_rfl) (by kernel_rfl) (by kernel_rfl) (fun c _ _ h => HQ c _ _ _ _ h) (Or.inr ⟨by rfl, rfl⟩) (by assumption) ?_
  try simp only [Act.put, List.getElem_toArray, List.getElem_cons_zero, List.getElem_cons_succ, List.setIfInBounds_toArray, List.set_cons_zero, List.set_cons_succ]
  refine wpAnyH_take (i := 6) (v := undef) rfl (by kernel_rfl) (by kernel_rfl) (by kernel_rfl) (fun c _ _ h => HQ c _ _ _ _ h) (Or.inr ⟨by rfl, rfl⟩) (by assumption) ?_
  try simp only [Act.put, List.getElem_toArray, List.getElem_cons_zero, List.getElem_cons_succ, List.setIfInBounds_toArray, List.set_cons_zero, List.set_cons_succ]
  refine wpAnyH_take (i := 7) (v := undef) rfl (by kernel_rfl) (by kernel_rfl) (by kernel_rfl) (fun c _ _ h => HQ c _ _ _ _ h) (Or.inr ⟨by rfl, rfl⟩) (by assumption) ?_
  try simp only [Act.put, List.getElem_toArray, List.getElem_cons_zero, List.getElem_cons_succ, List.setIfInBounds_toArray, List.set_cons_zero, List.set_cons_succ]
  refine wpAnyH_take (i := 8) (v := undef) rfl (by kernel_rfl) (by kernel_rfl) (by kernel_rfl) (fun c _ _ h => HQ c _ _ _ _ h) (Or.inr ⟨by rfl, rfl⟩) (by assumption) ?_
  try simp only [Act.put, List.getElem_toArray, List.getElem_cons_zero, List.getElem_cons_succ, List.setIfInBounds_toArray, List.set_cons_zero, List.set_cons_succ]
  refine wpAnyH_take (i := 9) (v := undef) rfl (by kernel_rfl) (by kernel_rfl) (by kernel_rfl) (fun c _ _ h => HQ c _ _ _ _ h) (Or.inr ⟨by rfl, rfl⟩) (by assumption) ?_
  try simp only [Act.put, List.getElem_toArray, List.getElem_cons_zero, List.getElem_cons_succ, List.setIfInBounds_toArray, List.set_cons_zero, List.set_cons_succ]
  refine wpAnyH_take (i := 10) (v := undef) rfl (by kernel_rfl) (by kernel_rfl) (by kernel_rfl) (fun c _ _ h => HQ c _ _ _ _ h) (Or.inr ⟨by rfl, rfl⟩) (by assumption) ?_
  try simp only [Act.put, List.getElem_toArray, List.getElem_cons_zero, List.getElem_cons_succ, List.setIfInBounds_toArray, List.set_cons_zero, List.set_cons_succ]
  refine wpAnyH_take (i := 11) (v := undef) rfl (by kernel_rfl) (by kernel_rfl) (by kernel_rfl) (fun c _ _ h => HQ c _ _ _ _ h) (Or.inr ⟨by rfl, rfl⟩) (by assumption) ?_
  try simp only [Act.put, List.getElem_toArray, List.getElem_cons_zero, List.getElem_cons_succ, List.setIfInBounds_toArray, List.set_cons_zero, List.set_cons_succ]
  refine wpAnyH_take (i := 12) (v := ?_) rfl (by kernel_rfl) (by kernel_rfl) (by kernel_rfl) (fun c _ _ h => HQ c _ _ _ _ h) (Or.inl ⟨by rfl, ?_⟩) (by assumption) ?_
  rotate_left
  · (intro W hSw; (try dsimp only at hSw); go_simp; try with_reducible rfl)
  try simp only [Act.put, List.getElem_toArray, List.getElem_cons_zero, List.getElem_cons_succ, List.setIfInBounds_toArray, List.set_cons_zero, List.set_cons_succ]
  refine wpAnyH_take (i := 13) (v := ?_) rfl (by kernel_rfl) (by kernel_rfl) (by kernel_rfl) (fun c _ _ h => HQ c _ _ _ _ h) (Or.inl ⟨by rfl, ?_⟩) (by assumption) ?_
  rotate_left
  · (intro W hSw; (try dsimp only at hSw); go_simp; try with_reducible rfl)
  try simp only [Act.put, List.getElem_toArray, List.getElem_cons_zero, List.getElem_cons_succ, List.setIfInBounds_toArray, List.set_cons_zero, List.set_cons_succ]
  refine wpAnyH_take (i := 14) (v := undef) rfl (by kernel_rfl) (by kernel_rfl) (by kernel_rfl) (fun c _ _ h => HQ c _ _ _ _ h) (Or.inr ⟨by rfl, rfl⟩) (by assumption) ?_
  try simp only [Act.put, List.getElem_toArray, List.getElem_cons_zero, List.getElem_cons_succ, List.setIfInBounds_toArray, List.set_cons_zero, List.set_cons_succ]
  refine wpAnyH_take (i := 15) (v := undef) rfl (by kernel_rfl) (by kernel_rfl) (by kernel_rfl) (fun c _ _ h => HQ c _ _ _ _ h) (Or.inr ⟨by rfl, rfl⟩) (by assumption) ?_
  try simp only [Act.put, List.getElem_toArray, List.getElem_cons_zero, List.getElem_cons_succ, List.setIfInBounds_toArray, List.set_cons_zero, List.set_cons_succ]
  refine wpAnyH_take (i := 16) (v := undef) rfl (by kernel_rfl) (by kernel_rfl) (by kernel_rfl) (fun c _ _ h => HQ c _ _ _ _ h) (Or.inr ⟨by rfl, rfl⟩) (by assumption) ?_
  try simp only [Act.put, List.getElem_toArray, List.getElem_cons_zero, List.getElem_cons_succ, List.setIfInBounds_toArray, List.set_cons_zero, List.set_cons_succ]
  refine wpAnyH_take (i := 17) (v := undef) rfl (by kernel_rfl) (by kernel_rfl) (by kernel_rfl) (fun c _ _ h => HQ c _ _ _ _ h) (Or.inr ⟨by rfl, rfl⟩) (by assumption) ?_
  try simp only [Act.put, List.getElem_toArray, List.getElem_cons_zero, List.getElem_cons_succ, List.setIfInBounds_toArray, List.set_cons_zero, List.set_cons_succ]
  refine wpAnyH_take (i := 18) (v := undef) rfl (by kernel_rfl) (by kernel_rfl) (by kernel_rfl) (fun c _ _ h => HQ c _ _ _ _ h) (Or.inr ⟨by rfl, rfl⟩) (by assumption) ?_
  try simp only [Act.put, List.getElem_toArray, List.getElem_cons_zero, List.getElem_cons_succ, List.setIfInBounds_toArray, List.set_cons_zero, List.set_cons_succ]
  refine wpAnyH_take (i := 19) (v := undef) rfl (by kernel_rfl) (by kernel_rfl) (by kernel_rfl) (fun c _ _ h => HQ c _ _ _ _ h) (Or.inr ⟨by rfl, rfl⟩) (by assumption) ?_
  try simp only [Act.put, List.getElem_toArray, List.getElem_cons_zero, List.getElem_cons_succ, List.setIfInBounds_toArray, List.set_cons_zero, List.set_cons_succ]
  refine wpAnyH_take (i := 20) (v := undef) rfl (by kernel_rfl) (by kernel_rfl) (by kernel_rfl) (fun c _ _ h => HQ c _ _ _ _ h) (Or.inr ⟨by rfl, rfl⟩) (by assumption) ?_
  try simp only [Act.put, List.getElem_toArray, List.getElem_cons_zero, List.getElem_cons_succ, List.setIfInBounds_toArray, List.set_cons_zero, List.set_cons_succ]
  refine wpAnyH_take (i := 21) (v := ?_) rfl (by kernel_rfl) (by kernel_rfl) (by kernel_rfl) (fun c _ _ h => HQ c _ _ _ _ h) (Or.inl ⟨by rfl, ?_⟩) (by assumption) ?_
  rotate_left
  · (intro W hSw; (try dsimp only at hSw); go_simp; try with_reducible rfl)
  try simp only [Act.put, List.getElem_toArray, List.getElem_cons_zero, List.getElem_cons_succ, List.setIfInBounds_toArray, List.set_cons_zero, List.set_cons_succ]
  refine wpAnyH_take (i := 22) (v := ?_) rfl (by kernel_rfl) (by kernel_rfl) (by kernel_rfl) (fun c _ _ h => HQ c _ _ _ _ h) (Or.inl ⟨by rfl, ?_⟩) (by assumption) ?_
  rotate_left
  · (intro W hSw; (try dsimp only at hSw); go_simp; try with_reducible rfl)
  try simp only [Act.put, List.getElem_toArray, List.getElem_cons_zero, List.getElem_cons_succ, List.setIfInBounds_toArray, List.set_cons_zero, List.set_cons_succ]
  refine wpAnyH_done (by kernel_rfl) ?_ _
  clear hHeld
  clear y0 y1 y2 y3 y4 HS HL
  go_wp2_with fail
  refine wp5 rfl rfl (loop5c_wp n k s Gn Gw ⟨kd, th, tp, tn, tf⟩ now was at' (fresh tp Ln k at') _ _ ⟨rfl, rfl, rfl, rfl, rfl⟩ rfl (by show Value.bool _ = .bool _; rw [HFr.out]) rfl (by assumption) hn hat hnn hwn HF.out _ ?_)
  intro u' w' hu' g14 hM6 hb6
  obtain ⟨h3, h5, h6, h10, h12⟩ := hu'
  rw [frame5_open, h3, h5, h6, h10, h12, g14]
  clear h3 h5 h6 h10 h12 g14
  have HM6 : Hid _ := hM6
  have HB6 : Hid _ := below_on (by assumption) hb6
  clear hM6 hb6
  go_wp2_with fail
  exact ⟨_, frame5_lit _ rfl rfl, ⟨rfl, rfl, rfl, rfl, rfl⟩, by show Value.int .i64 _ = _; simp, HM6.out, HB6.out⟩

set_option maxRecDepth 100000 in
set_option maxHeartbeats 3000000 in
theorem round5b_b (n : Nat) (k : Int) (s Gn Gw : Nat) (o : Op) (now was : List UInt8) (w : World) (at' : Nat) (u : Nat → Value) (wr : World) (hu : Sm5 n k s Gn Gw u) (h14 : u 14 = .int .i64 (at' : Int)) (hM : Mm5 s Gn Gw o now was wr) (hb : Below w.heap.size w wr)
    (hn : n ≤ 4096) (hat : at' + 64 ≤ n) (hnn : now.length = n) (hwn : was.length = n) (Ln : Nat) (hLn : long o.n = (Ln : Int)) (hp0 : 0 ≤ o.place) (hp1 : o.place + Ln ≤ n) (hf : ∀ i, at' ≤ i → i < at' + 64 → now[i]? = if fresh o.place Ln k at' then some o.fill else was[i]?) (hc : o.place ≤ (at' : Int)) (hc2 : ¬ (at' : Int) < o.place + Ln) (Q0 : Exit → Act → World → Prop) (HQ : ∀ c (a : Act) t v w, Q0 (.panic c) (a.put t v) w → Q0 (.panic c) a w) :
    Code.wp Try.prog loop5b (Exit.then (fun x w'' => I5b n k s Gn Gw o now was w (at' + 64) x w'') Q0) (frame5 u) wr := by
  obtain ⟨h3, h5, h6, h10, h12⟩ := hu
  obtain ⟨kd, th, tp, tn, tf⟩ := o
  dsimp only at *
  rw [frame5_open, h3, h5, h6, h10, h12, h14]
  clear h3 h5 h6 h10 h12 h14
  have HF : Hid _ := hf
  clear hf
  have HL : Hid _ := long_any ⟨kd, th, tp, tn, tf⟩
  dsimp only [opV] at HL
  rw [hLn] at HL
  have HS : Hid (∀ W, Mm5 s Gn Gw ⟨kd, th, tp, tn, tf⟩ now was W → Below w.heap.size w W → (fun W => W.cell? ⟨s + 1, 0, none⟩ = some (.int .i64 kd) ∧ W.cell? ⟨s + 1, 1, none⟩ = some (.int .i64 th) ∧ W.cell? ⟨s + 1, 2, none⟩ = some (.int .i64 tp) ∧ W.cell? ⟨s + 1, 3, none⟩ = some (.int .i64 tn) ∧ W.cell? ⟨s + 1, 4, none⟩ = some (.int .u8 (tf.toNat : Int)) ∧ Mm5 s Gn Gw ⟨kd, th, tp, tn, tf⟩ now was W ∧ Below w.heap.size w W) W) := fun W h1 h2 => by
    obtain ⟨y0, y1, y2, y3, y4⟩ := op_cells h1
    exact ⟨y0, y1, y2, y3, y4, h1, h2⟩
  obtain ⟨y0, y1, y2, y3, y4⟩ := op_cells hM
  have hM' := hM.below (Below.refl _ _).drew
  have hB' := hb.drew
  clear hM hb
  have WR : Hid (IntKind.i64.wrap (tp + (Ln : Int)) = tp + (Ln : Int)) := by show _ = _; simp [IntKind.wrap, IntKind.bits, IntKind.signed]; omega
  have HFr : Hid (fresh tp Ln k at' = false) := by show _ = _; unfold fresh; rw [decide_eq_true hc, decide_eq_false hc2]; rfl
  conv => arg 2; whnf
  go_wp2_with fail
  refine wp_region_held_drew (S := (fun W => W.cell? ⟨s + 1, 0, none⟩ = some (.int .i64 kd) ∧ W.cell? ⟨s + 1, 1, none⟩ = some (.int .i64 th) ∧ W.cell? ⟨s + 1, 2, none⟩ = some (.int .i64 tp) ∧ W.cell? ⟨s + 1, 3, none⟩ = some (.int .i64 tn) ∧ W.cell? ⟨s + 1, 4, none⟩ = some (.int .u8 (tf.toNat : Int)) ∧ Mm5 s Gn Gw ⟨kd, th, tp, tn, tf⟩ now was W ∧ Below w.heap.size w W)) (by kernel_rfl) (HS.out _ hM' hB') (fun hHeld => ?_)
  refine wpAnyH_take (i := 0) (v := ?_) rfl (by kernel_rfl) (by kernel_rfl) (by kernel_rfl) (fun c _ _ h => HQ c _ _ _ _ h) (Or.inl ⟨by rfl, ?_⟩) (by assumption) ?_
  rotate_left
  · (intro W hSw; (try dsimp only at hSw); go_simp; try with_reducible rfl)
  try simp only [Act.put, List.getElem_toArray, List.getElem_cons_zero, List.setIfInBounds_toArray, List.set_cons_zero, List.set_cons_succ]
  refine wpAnyH_take (i := 1) (v := ?_) rfl (by kernel_rfl) (by kernel_rfl) (by kernel_rfl) (fun c _ _ h => HQ c _ _ _ _ h) (Or.inl ⟨by rfl, ?_⟩) (by assumption) ?_
  rotate_left
  · (intro W hSw; (try dsimp only at hSw); go_simp; try with_reducible rfl)
  try simp only [Act.put, List.getElem_toArray, List.getElem_cons_zero, List.getElem_cons_succ, List.setIfInBounds_toArray, List.set_cons_zero, List.set_cons_succ]
  refine wpAnyH_take (i := 2) (v := ?_) rfl (by kernel_rfl) (by kernel_rfl) (by kernel_rfl) (fun c _ _ h => HQ c _ _ _ _ h) (Or.inl ⟨by rfl, ?_⟩) (by assumption) ?_
  rotate_left
  · (intro W hSw; (try dsimp only at hSw); go_simp; try with_reducible rfl)
  try simp only [Act.put, List.getElem_toArray, List.getElem_cons_zero, List.getElem_cons_succ, List.setIfInBounds_toArray, List.set_cons_zero, List.set_cons_succ]
  refine wpAnyH_take (i := 3) (v := .bool true) rfl (by kernel_rfl) (by kernel_rfl) (by kernel_rfl) (fun c _ _ h => HQ c _ _ _ _ h) (Or.inl ⟨by rfl, ?_⟩) (by assumption) ?_
  · (intro W hSw; (try dsimp only at hSw); go_simp; try simp [hc])
  try simp only [Act.put, List.getElem_toArray, List.getElem_cons_zero, List.getElem_cons_succ, List.setIfInBounds_toArray, List.set_cons_zero, List.set_cons_succ]
  refine wpAnyH_take (i := 4) (v := ?_) rfl (by kernel_rfl) (by kernel_rfl) (by kernel_rfl) (fun c _ _ h => HQ c _ _ _ _ h) (Or.inl ⟨by rfl, ?_⟩) (by assumption) ?_
  rotate_left
  · (intro W hSw; (try dsimp only at hSw); go_simp; try with_reducible rfl)
  try simp only [Act.put, List.getElem_toArray, List.getElem_cons_zero, List.getElem_cons_succ, List.setIfInBounds_toArray, List.set_cons_zero, List.set_cons_succ]
  refine wpAnyH_take (i := 5) (v := ?_) rfl (by kernel_rfl) (by kernel_rfl) (by kernel_rfl) (fun c _ _ h => HQ c _ _ _ _ h) (Or.inl ⟨by rfl, ?_⟩) (by assumption) ?_
  rotate_left
  · (intro W hSw; (try dsimp only at hSw); go_simp; try with_reducible rfl)
  try simp only [Act.put, List.getElem_toArray, List.getElem_cons_zero, List.getElem_cons_succ, List.setIfInBounds_toArray, List.set_cons_zero, List.set_cons_succ]
  refine wpAnyH_take (i := 6) (v := ?_) rfl (by kernel_rfl) (by kernel_rfl) (by kernel_rfl) (fun c _ _ h => HQ c _ _ _ _ h) (Or.inl ⟨by rfl, ?_⟩) (by assumption) ?_
  rotate_left
  · (intro W hSw; (try dsimp only at hSw); go_simp; try with_reducible rfl)
  try simp only [Act.put, List.getElem_toArray, List.getElem_cons_zero, List.getElem_cons_succ, List.setIfInBounds_toArray, List.set_cons_zero, List.set_cons_succ]
  refine wpAnyH_take (i := 7) (v := ?_) rfl (by kernel_rfl) (by kernel_rfl) (by kernel_rfl) (fun c _ _ h => HQ c _ _ _ _ h) (Or.inl ⟨by rfl, ?_⟩) (by assumption) ?_
  rotate_left
  · (intro W hSw; (try dsimp only at hSw); go_simp; try with_reducible rfl)
  try simp only [Act.put, List.getElem_toArray, List.getElem_cons_zero, List.getElem_cons_succ, List.setIfInBounds_toArray, List.set_cons_zero, List.set_cons_succ]
  refine wpAnyH_take (i := 8) (v := ?_) rfl (by kernel_rfl) (by kernel_rfl) (by kernel_rfl) (fun c _ _ h => HQ c _ _ _ _ h) (Or.inl ⟨by rfl, ?_⟩) (by assumption) ?_
  rotate_left
  · (intro W hSw; (try dsimp only at hSw); go_simp; try with_reducible rfl)
  try simp only [Act.put, List.getElem_toArray, List.getElem_cons_zero, List.getElem_cons_succ, List.setIfInBounds_toArray, List.set_cons_zero, List.set_cons_succ]
  refine wpAnyH_ready (rs := [9]) (by kernel_rfl) (by simp) ?_
  refine AllReadyH.cons rfl (fun K hK => ?_) AllReadyH.nil
  go_simp
  refine (HL.out _).mono ?_
  rintro e w3 ⟨rfl, hb3⟩
  have hM3 := hM'.below hb3
  have hB3 := below_on hB' hb3
  clear hM' hB'
  try go_wp2_with fail
  refine hK.out _ _ (HS.out _ hM3 hB3) (fun hHeld => ?_)
  clear hK K
  try simp only [Act.put, List.getElem_toArray, List.getElem_cons_zero, List.getElem_cons_succ, List.setIfInBounds_toArray, List.set_cons_zero, List.set_cons_succ]
  refine wpAnyH_take (i := 10) (v := .int .i64 (tp + (Ln : Int))) rfl (by kernel_rfl) (by kernel_rfl) (by kernel_rfl) (fun c _ _ h => HQ c _ _ _ _ h) (Or.inl ⟨by rfl, ?_⟩) (by assumption) ?_
  · (intro W hSw; (try dsimp only at hSw); go_simp; try simp [WR.out])
  try simp only [Act.put, List.getElem_toArray, List.getElem_cons_zero, List.getElem_cons_succ, List.setIfInBounds_toArray, List.set_cons_zero, List.set_cons_succ]
  refine wpAnyH_take (i := 11) (v := .bool false) rfl (by kernel_rfl) (by kernel_rfl) (by kernel_rfl) (fun c _ _ h => HQ c _ _ _ _ h) (Or.inl ⟨by rfl, ?_⟩) (by assumption) ?_
  · (intro W hSw; (try dsimp only at hSw); go_simp; try simp [hc2])
  try simp only [Act.put, List.getElem_toArray, List.getElem_cons_zero, List.getElem_cons_succ, List.setIfInBounds_toArray, List.set_cons_zero, List.set_cons_succ]
  refine wpAnyH_take (i := 12) (v := ?_) rfl (by kernel_rfl) (by kernel_rfl) (by kernel_rfl) (fun c _ _ h => HQ c _ _ _ _ h) (Or.inl ⟨by rfl, ?_⟩) (by assumption) ?_
  rotate_left
  · (intro W hSw; (try dsimp only at hSw); go_simp; try with_reducible rfl)
  try simp only [Act.put, List.getElem_toArray, List.getElem_cons_zero, List.getElem_cons_succ, List.setIfInBounds_toArray, List.set_cons_zero, List.set_cons_succ]
  refine wpAnyH_take (i := 13) (v := ?_) rfl (by kernel_rfl) (by kernel_rfl) (by kernel_rfl) (fun c _ _ h => HQ c _ _ _ _ h) (Or.inl ⟨by rfl, ?_⟩) (by assumption) ?_
  rotate_left
  · (intro W hSw; (try dsimp only at hSw); go_simp; try with_reducible rfl)
  try simp only [Act.put, List.getElem_toArray, List.getElem_cons_zero, List.getElem_cons_succ, List.setIfInBounds_toArray, List.set_cons_zero, List.set_cons_succ]
  refine wpAnyH_take (i := 14) (v := undef) rfl (by kernel_rfl) (by kernel_rfl) (by kernel_rfl) (fun c _ _ h => HQ c _ _ _ _ h) (Or.inr ⟨by rfl, rfl⟩) (by assumption) ?_
  try simp only [Act.put, List.getElem_toArray, List.getElem_cons_zero, List.getElem_cons_succ, List.setIfInBounds_toArray, List.set_cons_zero, List.set_cons_succ]
  refine wpAnyH_take (i := 15) (v := undef) rfl (by kernel_rfl) (by kernel_rfl) (by kernel_rfl) (fun c _ _ h => HQ c _ _ _ _ h) (Or.inr ⟨by rfl, rfl⟩) (by assumption) ?_
  try simp only [Act.put, List.getElem_toArray, List.getElem_cons_zero, List.getElem_cons_succ, List.setIfInBounds_toArray, List.set_cons_zero, List.set_cons_succ]
  refine wpAnyH_take (i := 16) (v := undef) rfl (by kernel_rfl) (by kernel_rfl) (by kernel_rfl) (fun c _ _ h => HQ c _ _ _ _ h) (Or.inr ⟨by rfl, rfl⟩) (by assumption) ?_
  try simp only [Act.put, List.getElem_toArray, List.getElem_cons_zero, List.getElem_cons_succ, List.setIfInBounds_toArray, List.set_cons_zero, List.set_cons_succ]
  refine wpAnyH_take (i := 17) (v := undef) rfl (by kernel_rfl) (by kernel_rfl) (by kernel_rfl) (fun c _ _ h => HQ c _ _ _ _ h) (Or.inr ⟨by rfl, rfl⟩) (by assumption) ?_
  try simp only [Act.put, List.getElem_toArray, List.getElem_cons_zero, List.getElem_cons_succ, List.setIfInBounds_toArray, List.set_cons_zero, List.set_cons_succ]
  refine wpAnyH_take (i := 18) (v := undef) rfl (by kernel_rfl) (by kernel_rfl) (by kernel_rfl) (fun c _ _ h => HQ c _ _ _ _ h) (Or.inr ⟨by rfl, rfl⟩) (by assumption) ?_
  try simp only [Act.put, List.getElem_toArray, List.getElem_cons_zero, List.getElem_cons_succ, List.setIfInBounds_toArray, List.set_cons_zero, List.set_cons_succ]
  refine wpAnyH_take (i := 19) (v := undef) rfl (by kernel_rfl) (by kernel_rfl) (by kernel_rfl) (fun c _ _ h => HQ c _ _ _ _ h) (Or.inr ⟨by rfl, rfl⟩) (by assumption) ?_
  try simp only [Act.put, List.getElem_toArray, List.getElem_cons_zero, List.getElem_cons_succ, List.setIfInBounds_toArray, List.set_cons_zero, List.set_cons_succ]
  refine wpAnyH_take (i := 20) (v := undef) rfl (by kernel_rfl) (by kernel_rfl) (by kernel_rfl) (fun c _ _ h => HQ c _ _ _ _ h) (Or.inr ⟨by rfl, rfl⟩) (by assumption) ?_
  try simp only [Act.put, List.getElem_toArray, List.getElem_cons_zero, List.getElem_cons_succ, List.setIfInBounds_toArray, List.set_cons_zero, List.set_cons_succ]
  refine wpAnyH_take (i := 21) (v := ?_) rfl (by kernel_rfl) (by kernel_rfl) (by kernel_rfl) (fun c _ _ h => HQ c _ _ _ _ h) (Or.inl ⟨by rfl, ?_⟩) (by assumption) ?_
  rotate_left
  · (intro W hSw; (try dsimp only at hSw); go_simp; try with_reducible rfl)
  try simp only [Act.put, List.getElem_toArray, List.getElem_cons_zero, List.getElem_cons_succ, List.setIfInBounds_toArray, List.set_cons_zero, List.set_cons_succ]
  refine wpAnyH_take (i := 22) (v := ?_) rfl (by kernel_rfl) (by kernel_rfl) (by kernel_rfl) (fun c _ _ h => HQ c _ _ _ _ h) (Or.inl ⟨by rfl, ?_⟩) (by assumption) ?_
  rotate_left
  · (intro W hSw; (try dsimp only at hSw); go_simp; try with_reducible rfl)
  try simp only [Act.put, List.getElem_toArray, List.getElem_cons_zero, List.getElem_cons_succ, List.setIfInBounds_toArray, List.set_cons_zero, List.set_cons_succ]
  refine wpAnyH_done (by kernel_rfl) ?_ _
  clear hHeld
  clear y0 y1 y2 y3 y4 HS HL
  go_wp2_with fail
  refine wp5 rfl rfl (loop5c_wp n k s Gn Gw ⟨kd, th, tp, tn, tf⟩ now was at' (fresh tp Ln k at') _ _ ⟨rfl, rfl, rfl, rfl, rfl⟩ rfl (by show Value.bool _ = .bool _; rw [HFr.out]) rfl (by assumption) hn hat hnn hwn HF.out _ ?_)
  intro u' w' hu' g14 hM6 hb6
  obtain ⟨h3, h5, h6, h10, h12⟩ := hu'
  rw [frame5_open, h3, h5, h6, h10, h12, g14]
  clear h3 h5 h6 h10 h12 g14
  have HM6 : Hid _ := hM6
  have HB6 : Hid _ := below_on (by assumption) hb6
  clear hM6 hb6
  go_wp2_with fail
  exact ⟨_, frame5_lit _ rfl rfl, ⟨rfl, rfl, rfl, rfl, rfl⟩, by show Value.int .i64 _ = _; simp, HM6.out, HB6.out⟩

set_option maxRecDepth 100000 in
set_option maxHeartbeats 3000000 in
theorem round5b_a (n : Nat) (k : Int) (s Gn Gw : Nat) (o : Op) (now was : List UInt8) (w : World) (at' : Nat) (u : Nat → Value) (wr : World) (hu : Sm5 n k s Gn Gw u) (h14 : u 14 = .int .i64 (at' : Int)) (hM : Mm5 s Gn Gw o now was wr) (hb : Below w.heap.size w wr)
    (hn : n ≤ 4096) (hat : at' + 64 ≤ n) (hnn : now.length = n) (hwn : was.length = n) (Ln : Nat) (hLn : long o.n = (Ln : Int)) (hp0 : 0 ≤ o.place) (hp1 : o.place + Ln ≤ n) (hf : ∀ i, at' ≤ i → i < at' + 64 → now[i]? = if fresh o.place Ln k at' then some o.fill else was[i]?) (hc : o.place ≤ (at' : Int)) (hc2 : (at' : Int) < o.place + Ln) (Q0 : Exit → Act → World → Prop) (HQ : ∀ c (a : Act) t v w, Q0 (.panic c) (a.put t v) w → Q0 (.panic c) a w) :
    Code.wp Try.prog loop5b (Exit.then (fun x w'' => I5b n k s Gn Gw o now was w (at' + 64) x w'') Q0) (frame5 u) wr := by
  obtain ⟨h3, h5, h6, h10, h12⟩ := hu
  obtain ⟨kd, th, tp, tn, tf⟩ := o
  dsimp only at *
  rw [frame5_open, h3, h5, h6, h10, h12, h14]
  clear h3 h5 h6 h10 h12 h14
  have HF : Hid _ := hf
  clear hf
  have HL : Hid _ := long_any ⟨kd, th, tp, tn, tf⟩
  dsimp only [opV] at HL
  rw [hLn] at HL
  have HS : Hid (∀ W, Mm5 s Gn Gw ⟨kd, th, tp, tn, tf⟩ now was W → Below w.heap.size w W → (fun W => W.cell? ⟨s + 1, 0, none⟩ = some (.int .i64 kd) ∧ W.cell? ⟨s + 1, 1, none⟩ = some (.int .i64 th) ∧ W.cell? ⟨s + 1, 2, none⟩ = some (.int .i64 tp) ∧ W.cell? ⟨s + 1, 3, none⟩ = some (.int .i64 tn) ∧ W.cell? ⟨s + 1, 4, none⟩ = some (.int .u8 (tf.toNat : Int)) ∧ Mm5 s Gn Gw ⟨kd, th, tp, tn, tf⟩ now was W ∧ Below w.heap.size w W) W) := fun W h1 h2 => by
    obtain ⟨y0, y1, y2, y3, y4⟩ := op_cells h1
    exact ⟨y0, y1, y2, y3, y4, h1, h2⟩
  obtain ⟨y0, y1, y2, y3, y4⟩ := op_cells hM
  have hM' := hM.below (Below.refl _ _).drew
  have hB' := hb.drew
  clear hM hb
  have WR : Hid (IntKind.i64.wrap (tp + (Ln : Int)) = tp + (Ln : Int)) := by show _ = _; simp [IntKind.wrap, IntKind.bits, IntKind.signed]; omega
  have WS : Hid (IntKind.i64.wrap ((at' : Int) - tp) = (at' : Int) - tp) := by show _ = _; simp [IntKind.wrap, IntKind.bits, IntKind.signed]; omega
  have WQ : Hid (IntKind.i64.wrap (((at' : Int) - tp).tdiv 64) = ((at' : Int) - tp).tdiv 64) := by show _ = _; rw [Int.tdiv_eq_ediv_of_nonneg (by omega)]; simp [IntKind.wrap, IntKind.bits, IntKind.signed]; omega
  have HFr : Hid (fresh tp Ln k at' = decide (((at' : Int) - tp).tdiv 64 < k)) := by show _ = _; unfold fresh; rw [decide_eq_true hc, decide_eq_true hc2]; rfl
  conv => arg 2; whnf
  go_wp2_with fail
  refine wp_region_held_drew (S := (fun W => W.cell? ⟨s + 1, 0, none⟩ = some (.int .i64 kd) ∧ W.cell? ⟨s + 1, 1, none⟩ = some (.int .i64 th) ∧ W.cell? ⟨s + 1, 2, none⟩ = some (.int .i64 tp) ∧ W.cell? ⟨s + 1, 3, none⟩ = some (.int .i64 tn) ∧ W.cell? ⟨s + 1, 4, none⟩ = some (.int .u8 (tf.toNat : Int)) ∧ Mm5 s Gn Gw ⟨kd, th, tp, tn, tf⟩ now was W ∧ Below w.heap.size w W)) (by kernel_rfl) (HS.out _ hM' hB') (fun hHeld => ?_)
  refine wpAnyH_take (i := 0) (v := ?_) rfl (by kernel_rfl) (by kernel_rfl) (by kernel_rfl) (fun c _ _ h => HQ c _ _ _ _ h) (Or.inl ⟨by rfl, ?_⟩) (by assumption) ?_
  rotate_left
  · (intro W hSw; (try dsimp only at hSw); go_simp; try with_reducible rfl)
  try simp only [Act.put, List.getElem_toArray, List.getElem_cons_zero, List.setIfInBounds_toArray, List.set_cons_zero, List.set_cons_succ]
  refine wpAnyH_take (i := 1) (v := ?_) rfl (by kernel_rfl) (by kernel_rfl) (by kernel_rfl) (fun c _ _ h => HQ c _ _ _ _ h) (Or.inl ⟨by rfl, ?_⟩) (by assumption) ?_
  rotate_left
  · (intro W hSw; (try dsimp only at hSw); go_simp; try with_reducible rfl)
  try simp only [Act.put, List.getElem_toArray, List.getElem_cons_zero, List.getElem_cons_succ, List.setIfInBounds_toArray, List.set_cons_zero, List.set_cons_succ]
  refine wpAnyH_take (i := 2) (v := ?_) rfl (by kernel_rfl) (by kernel_rfl) (by kernel_rfl) (fun c _ _ h => HQ c _ _ _ _ h) (Or.inl ⟨by rfl, ?_⟩) (by assumption) ?_
  rotate_left
  · (intro W hSw; (try dsimp only at hSw); go_simp; try with_reducible rfl)
  try simp only [Act.put, List.getElem_toArray, List.getElem_cons_zero, List.getElem_cons_succ, List.setIfInBounds_toArray, List.set_cons_zero, List.set_cons_succ]
  refine wpAnyH_take (i := 3) (v := .bool true) rfl (by kernel_rfl) (by kernel_rfl) (by kernel_rfl) (fun c _ _ h => HQ c _ _ _ _ h) (Or.inl ⟨by rfl, ?_⟩) (by assumption) ?_
  · (intro W hSw; (try dsimp only at hSw); go_simp; try simp [hc])
  try simp only [Act.put, List.getElem_toArray, List.getElem_cons_zero, List.getElem_cons_succ, List.setIfInBounds_toArray, List.set_cons_zero, List.set_cons_succ]
  refine wpAnyH_take (i := 4) (v := ?_) rfl (by kernel_rfl) (by kernel_rfl) (by kernel_rfl) (fun c _ _ h => HQ c _ _ _ _ h) (Or.inl ⟨by rfl, ?_⟩) (by assumption) ?_
  rotate_left
  · (intro W hSw; (try dsimp only at hSw); go_simp; try with_reducible rfl)
  try simp only [Act.put, List.getElem_toArray, List.getElem_cons_zero, List.getElem_cons_succ, List.setIfInBounds_toArray, List.set_cons_zero, List.set_cons_succ]
  refine wpAnyH_take (i := 5) (v := ?_) rfl (by kernel_rfl) (by kernel_rfl) (by kernel_rfl) (fun c _ _ h => HQ c _ _ _ _ h) (Or.inl ⟨by rfl, ?_⟩) (by assumption) ?_
  rotate_left
  · (intro W hSw; (try dsimp only at hSw); go_simp; try with_reducible rfl)
  try simp only [Act.put, List.getElem_toArray, List.getElem_cons_zero, List.getElem_cons_succ, List.setIfInBounds_toArray, List.set_cons_zero, List.set_cons_succ]
  refine wpAnyH_take (i := 6) (v := ?_) rfl (by kernel_rfl) (by kernel_rfl) (by kernel_rfl) (fun c _ _ h => HQ c _ _ _ _ h) (Or.inl ⟨by rfl, ?_⟩) (by assumption) ?_
  rotate_left
  · (intro W hSw; (try dsimp only at hSw); go_simp; try with_reducible rfl)
  try simp only [Act.put, List.getElem_toArray, List.getElem_cons_zero, List.getElem_cons_succ, List.setIfInBounds_toArray, List.set_cons_zero, List.set_cons_succ]
  refine wpAnyH_take (i := 7) (v := ?_) rfl (by kernel_rfl) (by kernel_rfl) (by kernel_rfl) (fun c _ _ h => HQ c _ _ _ _ h) (Or.inl ⟨by rfl, ?_⟩) (by assumption) ?_
  rotate_left
  · (intro W hSw; (try dsimp only at hSw); go_simp; try with_reducible rfl)
  try simp only [Act.put, List.getElem_toArray, List.getElem_cons_zero, List.getElem_cons_succ, List.setIfInBounds_toArray, List.set_cons_zero, List.set_cons_succ]
  refine wpAnyH_take (i := 8) (v := ?_) rfl (by kernel_rfl) (by kernel_rfl) (by kernel_rfl) (fun c _ _ h => HQ c _ _ _ _ h) (Or.inl ⟨by rfl, ?_⟩) (by assumption) ?_
  rotate_left
  · (intro W hSw; (try dsimp only at hSw); go_simp; try with_reducible rfl)
  try simp only [Act.put, List.getElem_toArray, List.getElem_cons_zero, List.getElem_cons_succ, List.setIfInBounds_toArray, List.set_cons_zero, List.set_cons_succ]
  refine wpAnyH_ready (rs := [9]) (by kernel_rfl) (by simp) ?_
  refine AllReadyH.cons rfl (fun K hK => ?_) AllReadyH.nil
  go_simp
  refine (HL.out _).mono ?_
  rintro e w3 ⟨rfl, hb3⟩
  have hM3 := hM'.below hb3
  have hB3 := below_on hB' hb3
  clear hM' hB'
  try go_wp2_with fail
  refine hK.out _ _ (HS.out _ hM3 hB3) (fun hHeld => ?_)
  clear hK K
  try simp only [Act.put, List.getElem_toArray, List.getElem_cons_zero, List.getElem_cons_succ, List.setIfInBounds_toArray, List.set_cons_zero, List.set_cons_succ]
  refine wpAnyH_take (i := 10) (v := .int .i64 (tp + (Ln : Int))) rfl (by kernel_rfl) (by kernel_rfl) (by kernel_rfl) (fun c _ _ h => HQ c _ _ _ _ h) (Or.inl ⟨by rfl, ?_⟩) (by assumption) ?_
  · (intro W hSw; (try dsimp only at hSw); go_simp; try simp [WR.out])
  try simp only [Act.put, List.getElem_toArray, List.getElem_cons_zero, List.getElem_cons_succ, List.setIfInBounds_toArray, List.set_cons_zero, List.set_cons_succ]
  refine wpAnyH_take (i := 11) (v := .bool true) rfl (by kernel_rfl) (by kernel_rfl) (by kernel_rfl) (fun c _ _ h => HQ c _ _ _ _ h) (Or.inl ⟨by rfl, ?_⟩) (by assumption) ?_
  · (intro W hSw; (try dsimp only at hSw); go_simp; try simp [hc2])
  try simp only [Act.put, List.getElem_toArray, List.getElem_cons_zero, List.getElem_cons_succ, List.setIfInBounds_toArray, List.set_cons_zero, List.set_cons_succ]
  refine wpAnyH_take (i := 12) (v := ?_) rfl (by kernel_rfl) (by kernel_rfl) (by kernel_rfl) (fun c _ _ h => HQ c _ _ _ _ h) (Or.inl ⟨by rfl, ?_⟩) (by assumption) ?_
  rotate_left
  · (intro W hSw; (try dsimp only at hSw); go_simp; try with_reducible rfl)
  try simp only [Act.put, List.getElem_toArray, List.getElem_cons_zero, List.getElem_cons_succ, List.setIfInBounds_toArray, List.set_cons_zero, List.set_cons_succ]
  refine wpAnyH_take (i := 13) (v := ?_) rfl (by kernel_rfl) (by kernel_rfl) (by kernel_rfl) (fun c _ _ h => HQ c _ _ _ _ h) (Or.inl ⟨by rfl, ?_⟩) (by assumption) ?_
  rotate_left
  · (intro W hSw; (try dsimp only at hSw); go_simp; try with_reducible rfl)
  try simp only [Act.put, List.getElem_toArray, List.getElem_cons_zero, List.getElem_cons_succ, List.setIfInBounds_toArray, List.set_cons_zero, List.set_cons_succ]
  refine wpAnyH_take (i := 14) (v := ?_) rfl (by kernel_rfl) (by kernel_rfl) (by kernel_rfl) (fun c _ _ h => HQ c _ _ _ _ h) (Or.inl ⟨by rfl, ?_⟩) (by assumption) ?_
  rotate_left
  · (intro W hSw; (try dsimp only at hSw); go_simp; try with_reducible rfl)
  try simp only [Act.put, List.getElem_toArray, List.getElem_cons_zero, List.getElem_cons_succ, List.setIfInBounds_toArray, List.set_cons_zero, List.set_cons_succ]
  refine wpAnyH_take (i := 15) (v := ?_) rfl (by kernel_rfl) (by kernel_rfl) (by kernel_rfl) (fun c _ _ h => HQ c _ _ _ _ h) (Or.inl ⟨by rfl, ?_⟩) (by assumption) ?_
  rotate_left
  · (intro W hSw; (try dsimp only at hSw); go_simp; try with_reducible rfl)
  try simp only [Act.put, List.getElem_toArray, List.getElem_cons_zero, List.getElem_cons_succ, List.setIfInBounds_toArray, List.set_cons_zero, List.set_cons_succ]
  refine wpAnyH_take (i := 16) (v := ?_) rfl (by kernel_rfl) (by kernel_rfl) (by kernel_rfl) (fun c _ _ h => HQ c _ _ _ _ h) (Or.inl ⟨by rfl, ?_⟩) (by assumption) ?_
  rotate_left
  · (intro W hSw; (try dsimp only at hSw); go_simp; try with_reducible rfl)
  try simp only [Act.put, List.getElem_toArray, List.getElem_cons_zero, List.getElem_cons_succ, List.setIfInBounds_toArray, List.set_cons_zero, List.set_cons_succ]
  refine wpAnyH_take (i := 17) (v := ?_) rfl (by kernel_rfl) (by kernel_rfl) (by kernel_rfl) (fun c _ _ h => HQ c _ _ _ _ h) (Or.inl ⟨by rfl, ?_⟩) (by assumption) ?_
  rotate_left
  · (intro W hSw; (try dsimp only at hSw); go_simp; try with_reducible rfl)
  try simp only [Act.put, List.getElem_toArray, List.getElem_cons_zero, List.getElem_cons_succ, List.setIfInBounds_toArray, List.set_cons_zero, List.set_cons_succ]
  refine wpAnyH_take (i := 18) (v := .int .i64 ((at' : Int) - tp)) rfl (by kernel_rfl) (by kernel_rfl) (by kernel_rfl) (fun c _ _ h => HQ c _ _ _ _ h) (Or.inl ⟨by rfl, ?_⟩) (by assumption) ?_
  · (intro W hSw; (try dsimp only at hSw); go_simp; try simp [WS.out])
  try simp only [Act.put, List.getElem_toArray, List.getElem_cons_zero, List.getElem_cons_succ, List.setIfInBounds_toArray, List.set_cons_zero, List.set_cons_succ]
  refine wpAnyH_take (i := 19) (v := .int .i64 (((at' : Int) - tp).tdiv 64)) rfl (by kernel_rfl) (by kernel_rfl) (by kernel_rfl) (fun c _ _ h => HQ c _ _ _ _ h) (Or.inl ⟨by rfl, ?_⟩) (by assumption) ?_
  · (intro W hSw; (try dsimp only at hSw); go_simp; first | rfl | exact WQ.out)
  try simp only [Act.put, List.getElem_toArray, List.getElem_cons_zero, List.getElem_cons_succ, List.setIfInBounds_toArray, List.set_cons_zero, List.set_cons_succ]
  refine wpAnyH_take (i := 20) (v := ?_) rfl (by kernel_rfl) (by kernel_rfl) (by kernel_rfl) (fun c _ _ h => HQ c _ _ _ _ h) (Or.inl ⟨by rfl, ?_⟩) (by assumption) ?_
  rotate_left
  · (intro W hSw; (try dsimp only at hSw); go_simp; try with_reducible rfl)
  try simp only [Act.put, List.getElem_toArray, List.getElem_cons_zero, List.getElem_cons_succ, List.setIfInBounds_toArray, List.set_cons_zero, List.set_cons_succ]
  refine wpAnyH_take (i := 21) (v := ?_) rfl (by kernel_rfl) (by kernel_rfl) (by kernel_rfl) (fun c _ _ h => HQ c _ _ _ _ h) (Or.inl ⟨by rfl, ?_⟩) (by assumption) ?_
  rotate_left
  · (intro W hSw; (try dsimp only at hSw); go_simp; try with_reducible rfl)
  try simp only [Act.put, List.getElem_toArray, List.getElem_cons_zero, List.getElem_cons_succ, List.setIfInBounds_toArray, List.set_cons_zero, List.set_cons_succ]
  refine wpAnyH_take (i := 22) (v := ?_) rfl (by kernel_rfl) (by kernel_rfl) (by kernel_rfl) (fun c _ _ h => HQ c _ _ _ _ h) (Or.inl ⟨by rfl, ?_⟩) (by assumption) ?_
  rotate_left
  · (intro W hSw; (try dsimp only at hSw); go_simp; try with_reducible rfl)
  try simp only [Act.put, List.getElem_toArray, List.getElem_cons_zero, List.getElem_cons_succ, List.setIfInBounds_toArray, List.set_cons_zero, List.set_cons_succ]
  refine wpAnyH_done (by kernel_rfl) ?_ _
  clear hHeld
  clear y0 y1 y2 y3 y4 HS HL
  go_wp2_with fail
  refine wp5 rfl rfl (loop5c_wp n k s Gn Gw ⟨kd, th, tp, tn, tf⟩ now was at' (fresh tp Ln k at') _ _ ⟨rfl, rfl, rfl, rfl, rfl⟩ rfl (by show Value.bool _ = .bool _; rw [HFr.out]) rfl (by assumption) hn hat hnn hwn HF.out _ ?_)
  intro u' w' hu' g14 hM6 hb6
  obtain ⟨h3, h5, h6, h10, h12⟩ := hu'
  rw [frame5_open, h3, h5, h6, h10, h12, g14]
  clear h3 h5 h6 h10 h12 g14
  have HM6 : Hid _ := hM6
  have HB6 : Hid _ := below_on (by assumption) hb6
  clear hM6 hb6
  go_wp2_with fail
  exact ⟨_, frame5_lit _ rfl rfl, ⟨rfl, rfl, rfl, rfl, rfl⟩, by show Value.int .i64 _ = _; simp, HM6.out, HB6.out⟩

end Go.Proofs.Ytbigclhfgcaccaa
