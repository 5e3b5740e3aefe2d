/-
  ActDoes: the frame, and the document's answer to one act.
-/
import Derived.Test.YtamkfcdehkdcpaaWRe
import Derived.Test.YtamkfcdehkdcpaaGb
import Derived.Test.YtamkfcdehkdcpaaJa
namespace Go.Proofs.Ytamkfcdehkdcpaa
open Go.RowKit

/-- A frame of 105 slots. -/
def frame3 (u : Nat → Value) : Act := ⟨((List.range 105).map u).toArray, []⟩
set_option maxRecDepth 100000 in
theorem frame3_open (u : Nat → Value) : frame3 u = ⟨#[u 0, u 1, u 2, u 3, u 4, u 5, u 6, u 7, u 8, u 9, u 10, u 11, u 12, u 13, u 14, u 15, u 16, u 17, u 18, u 19, u 20, u 21, u 22, u 23, u 24, u 25, u 26, u 27, u 28, u 29, u 30, u 31, u 32, u 33, u 34, u 35, u 36, u 37, u 38, u 39, u 40, u 41, u 42, u 43, u 44, u 45, u 46, u 47, u 48, u 49, u 50, u 51, u 52, u 53, u 54, u 55, u 56, u 57, u 58, u 59, u 60, u 61, u 62, u 63, u 64, u 65, u 66, u 67, u 68, u 69, u 70, u 71, u 72, u 73, u 74, u 75, u 76, u 77, u 78, u 79, u 80, u 81, u 82, u 83, u 84, u 85, u 86, u 87, u 88, u 89, u 90, u 91, u 92, u 93, u 94, u 95, u 96, u 97, u 98, u 99, u 100, u 101, u 102, u 103, u 104], []⟩ := by kernel_rfl
theorem frame3_lit (a : Act) (hs : a.tmps.size = 105) (hd : a.defers = []) : a = frame3 (fun i => a.tmps.getD i undef) := by
  obtain ⟨⟨l⟩, d⟩ := a
  simp at hs hd
  subst hd
  unfold frame3
  congr 2
  apply List.ext_getElem
  · simp [hs]
  · intro i h1 h2
    simp [h1]

theorem wp3 {c : Code} {Q : Exit → Act → World → Prop} {A : Act} {w : World} (hs : A.tmps.size = 105) (hd : A.defers = []) (h : c.wp Try.prog Q (frame3 fun i => A.tmps.getD i undef) w) : c.wp Try.prog Q A w := by
  rw [frame3_lit A hs hd]; exact h
theorem q3 {Q0 : Exit → Act → World → Prop} {e : Exit} {A : Act} {w : World} (hs : A.tmps.size = 105) (hd : A.defers = []) (h : Q0 e (frame3 fun i => A.tmps.getD i undef) w) : Q0 e A w := by
  rw [frame3_lit A hs hd]; exact h
theorem k3 {K : Act → World → Prop} {A : Act} {w : World} (hs : A.tmps.size = 105) (hd : A.defers = []) (h : K (frame3 fun i => A.tmps.getD i undef) w) : K A w := by
  rw [frame3_lit A hs hd]; exact h
noncomputable def body3 : Code := (Try.f3.body).getD .skip
noncomputable def loop3 : Code := ((loopsOf body3)[0]?).getD .skip
noncomputable def blk3 : Code := inC (hdC (tlC loop3))

set_option maxRecDepth 100000 in
set_option maxHeartbeats 3000000 in
theorem reg13 (w : World) (s g b o n c j : Nat) (hlt : j < n) (t : Ac) (L : List Cl) (v : Value) (a' : Option Addr) (c' : Nat) (u : Nat → Value) (wr : World) (vG : Value) (h1 : u 1 = .slice (some ⟨b, o, none⟩) n c) (h5 : u 5 = .pointer (some ⟨s + 1, 0, none⟩)) (h6 : u 6 = .pointer (some ⟨g, 0, none⟩)) (h7 : u 7 = .int .i64 (j : Int)) (h9 : u 9 = vG)
    (HA : ∀ W, Below w.heap.size w W → W.cell? ⟨b, o + j * 4, none⟩ = some (.int .i64 t.kind) ∧ W.cell? ⟨b, o + j * 4 + 1, none⟩ = some (.string (txt t.key)) ∧ W.cell? ⟨b, o + j * 4 + 2, none⟩ = some (.string (txt t.old)) ∧ W.cell? ⟨b, o + j * 4 + 3, none⟩ = some (.string (txt t.new)))
    (hT : TwoOk wr s (s + 1) g 1 0 L v a' c') (hB : Below w.heap.size w wr) (K : Act → World → Prop) (Q : Exit → Act → World → Prop) (HQ : ∀ c (a : Act) t v w, Q (.panic c) (a.put t v) w → Q (.panic c) a w)
    (hcont : ∀ u' w' h5 a5 c5, u' 1 = .slice (some ⟨b, o, none⟩) n c → u' 5 = .pointer (some ⟨s + 1, 0, none⟩) → u' 6 = .pointer (some ⟨g, 0, none⟩) → u' 7 = .int .i64 (j : Int) → u' 9 = vG → u' 10 = .pointer (some ⟨h5, 0, none⟩) → u' 11 = .int .i64 (doL L t).2 → w'.heap[h5]? = some (.cells #[.int .i64 1, .int .u64 0, .slice a5 (doL L t).1.length c5] 29) → TwoOk w' s (s + 1) g 1 0 L v a' c' → SlC w' a5 (doL L t).1 → (∀ y, a5 = some y → (doL L t).1 ≠ [] → y.block ≠ s + 1 ∧ v.ownBlock ≠ some y.block ∧ y.block ≠ g) → Below w.heap.size w w' → K (frame3 u') w') :
    Code.wp Try.prog (hdC (tlC (tlC (tlC (tlC blk3))))) (Exit.then K Q) (frame3 u) wr := by
  have HN : Hid _ := hcont
  have HT3 : Hid _ := hT
  have HB3 : Hid _ := hB
  have HRd : Hid (∀ W, SlC W a' L → Calls Try.prog 14 #[.agg #[.int .i64 1, .int .u64 0, .slice a' L.length c'], .agg #[.int .i64 t.kind, .string (txt t.key), .string (txt t.old), .string (txt t.new)]] W fun e w' => ∃ a5 c5, e = .returned (.tuple #[.agg #[.int .i64 1, .int .u64 0, .slice a5 (doL L t).1.length c5], .int .i64 (doL L t).2]) ∧ SlC w' a5 (doL L t).1 ∧ ((a5 = a' ∧ (doL L t).1 = L) ∨ ∀ y, a5 = some y → W.heap.size ≤ y.block) ∧ Below W.heap.size W w') := fun W hW =>
    (refdo_any 1 0 a' c' L t W hW hT.good).mono fun e w' ⟨a5, ⟨c5, e1⟩, e2, e3, e4⟩ => ⟨a5, c5, e1, e2, e3, e4⟩
  generalize doL L t = D at *
  obtain ⟨L5, de⟩ := D
  obtain ⟨tk, tx, ty, tz⟩ := t
  dsimp only at *
  have HST : Hid (∀ W, W.heap[g]? = some (.cells #[.int .i64 1, .int .u64 0, .slice a' L.length c'] 29) → Below w.heap.size w W → (fun W => W.cell? ⟨g, 0, none⟩ = some (.int .i64 1) ∧ W.cell? ⟨g, 1, none⟩ = some (.int .u64 0) ∧ W.cell? ⟨g, 2, none⟩ = some (.slice a' L.length c') ∧ W.cell? ⟨b, o + j * 4, none⟩ = some (.int .i64 tk) ∧ W.cell? ⟨b, o + j * 4 + 1, none⟩ = some (.string (txt tx)) ∧ W.cell? ⟨b, o + j * 4 + 2, none⟩ = some (.string (txt ty)) ∧ W.cell? ⟨b, o + j * 4 + 3, none⟩ = some (.string (txt tz))) W) := fun W h1 h2 => by
    obtain ⟨q0, q1, q2, _⟩ := cell3 h1
    exact ⟨q0, q1, q2, HA W h2⟩
  rw [frame3_open, h1, h5, h6, h7, h9]
  clear h1 h5 h6 h7 h9 hcont hT hB HA
  conv => arg 2; whnf
  refine wp_region_held_drew (S := (fun W => W.cell? ⟨g, 0, none⟩ = some (.int .i64 1) ∧ W.cell? ⟨g, 1, none⟩ = some (.int .u64 0) ∧ W.cell? ⟨g, 2, none⟩ = some (.slice a' L.length c') ∧ W.cell? ⟨b, o + j * 4, none⟩ = some (.int .i64 tk) ∧ W.cell? ⟨b, o + j * 4 + 1, none⟩ = some (.string (txt tx)) ∧ W.cell? ⟨b, o + j * 4 + 2, none⟩ = some (.string (txt ty)) ∧ W.cell? ⟨b, o + j * 4 + 3, none⟩ = some (.string (txt tz)))) (by kernel_rfl) (HST.out wr.drew HT3.out.ref HB3.out.drew) (fun hHeld => ?_)
  refine wpAnyH_take (i := 0) (v := ?_) rfl (by kernel_rfl) (by kernel_rfl) (by kernel_rfl) (fun c _ _ h => HQ c _ _ _ _ h) (Or.inl ⟨by rfl, ?_⟩) (by assumption) ?_
  rotate_left
  · (intro W hSw; (try dsimp only at hSw); go_simp; try with_reducible rfl)
  try simp only [Act.put, List.getElem_toArray, List.getElem_cons_zero, List.setIfInBounds_toArray, List.set_cons_zero, List.set_cons_succ]
  refine wpAnyH_take (i := 1) (v := ?_) rfl (by kernel_rfl) (by kernel_rfl) (by kernel_rfl) (fun c _ _ h => HQ c _ _ _ _ h) (Or.inl ⟨by rfl, ?_⟩) (by assumption) ?_
  rotate_left
  · (intro W hSw; (try dsimp only at hSw); go_simp; try with_reducible rfl)
  try simp only [Act.put, List.getElem_toArray, List.getElem_cons_zero, List.getElem_cons_succ, List.setIfInBounds_toArray, List.set_cons_zero, List.set_cons_succ]
  refine wpAnyH_take (i := 2) (v := ?_) rfl (by kernel_rfl) (by kernel_rfl) (by kernel_rfl) (fun c _ _ h => HQ c _ _ _ _ h) (Or.inl ⟨by rfl, ?_⟩) (by assumption) ?_
  rotate_left
  · (intro W hSw; (try dsimp only at hSw); go_simp; try with_reducible rfl)
  try simp only [Act.put, List.getElem_toArray, List.getElem_cons_zero, List.getElem_cons_succ, List.setIfInBounds_toArray, List.set_cons_zero, List.set_cons_succ]
  refine wpAnyH_take (i := 3) (v := ?_) rfl (by kernel_rfl) (by kernel_rfl) (by kernel_rfl) (fun c _ _ h => HQ c _ _ _ _ h) (Or.inl ⟨by rfl, ?_⟩) (by assumption) ?_
  rotate_left
  · (intro W hSw; (try dsimp only at hSw); go_simp; try with_reducible rfl)
  try simp only [Act.put, List.getElem_toArray, List.getElem_cons_zero, List.getElem_cons_succ, List.setIfInBounds_toArray, List.set_cons_zero, List.set_cons_succ]
  refine wpAnyH_take (i := 4) (v := ?_) rfl (by kernel_rfl) (by kernel_rfl) (by kernel_rfl) (fun c _ _ h => HQ c _ _ _ _ h) (Or.inl ⟨by rfl, ?_⟩) (by assumption) ?_
  rotate_left
  · (intro W hSw; (try dsimp only at hSw); go_simp; try with_reducible rfl)
  try simp only [Act.put, List.getElem_toArray, List.getElem_cons_zero, List.getElem_cons_succ, List.setIfInBounds_toArray, List.set_cons_zero, List.set_cons_succ]
  refine wpAnyH_ready (rs := [5, 9]) (by kernel_rfl) (by simp) ?_
  refine AllReadyH.cons rfl (fun K hK => ?_) (AllReadyH.cons rfl (fun K hK => ?_) AllReadyH.nil)
  · go_simp
    refine Calls.mono (HRd.out _ ⟨HT3.out.sl.nonil, HT3.out.sl.cells⟩) ?_
    clear hHeld
    rintro e w5 ⟨a5, c5, rfl, hs5, hn5, hb5⟩
    have HB5 := (show Hid _ from below_on HB3.out (below_undrew hb5))
    have HT5 := (show Hid _ from HT3.out.on (below_undrew hb5))
    have HNX : Hid (∀ y, a5 = some y → L5 ≠ [] → y.block ≠ s + 1 ∧ v.ownBlock ≠ some y.block ∧ y.block ≠ g) := fun y hy hl => by
      rcases hn5 with ⟨q1, q2⟩ | q1
      · exact HT3.out.sep y (by rw [← q1]; exact hy) (by rw [← q2]; exact hl)
      · have u0 := q1 y hy; have u1 := lt_of_blk HT3.out.pg.blk; have u2 := lt_of_blk HT3.out.ref; simp at u0; exact ⟨by omega, fun q => by have := ownsRow_lt HT3.out.pg.own _ q; omega, by omega⟩
    have hBz := (Below.refl w5.heap.size w5).alloc (Nat.le_refl _) (.cells #[.int .i64 0, .int .u64 0, .slice none 0 0] 29)
    have hBn := (Below.refl w5.heap.size w5).alloc (Nat.le_refl _) (.cells #[.int .i64 1, .int .u64 0, .slice a5 L5.length c5] 29)
    have HSZ := (show Hid _ from HST.out _ (box_in' HT5.out.ref hBz) (below_on HB5.out hBz))
    have HTX := (show Hid _ from HT5.out.on hBn)
    have HBX := (show Hid _ from below_on HB5.out hBn)
    have HSX := (show Hid _ from hs5.below hBn)
    have HKH : Hid ((w5.alloc (.cells #[.int .i64 1, .int .u64 0, .slice a5 L5.length c5] 29)).heap[w5.heap.size]? = some (.cells #[.int .i64 1, .int .u64 0, .slice a5 L5.length c5] 29)) := heap_alloc_new _ _
    have HSN := (show Hid _ from HST.out _ HTX.out.ref HBX.out)
    clear hs5 hn5 hb5 hBz hBn
    try go_wp2_with fail
    refine hK.out _ _ (HST.out _ HT5.out.ref HB5.out) (fun hHeld => ?_)
    clear hK K
    try simp only [Act.put, List.getElem_toArray, List.getElem_cons_zero, List.getElem_cons_succ, List.setIfInBounds_toArray, List.set_cons_zero, List.set_cons_succ]
    refine wpAnyH_take (i := 6) (v := ?_) rfl (by kernel_rfl) (by kernel_rfl) (by kernel_rfl) (fun c _ _ h => HQ c _ _ _ _ h) (Or.inl ⟨by rfl, ?_⟩) (by assumption) ?_
    rotate_left
    · (intro W hSw; (try dsimp only at hSw); go_simp; try with_reducible rfl)
    try simp only [Act.put, List.getElem_toArray, List.getElem_cons_zero, List.getElem_cons_succ, List.setIfInBounds_toArray, List.set_cons_zero, List.set_cons_succ]
    refine wpAnyH_take (i := 7) (v := ?_) rfl (by kernel_rfl) (by kernel_rfl) (by kernel_rfl) (fun c _ _ h => HQ c _ _ _ _ h) (Or.inl ⟨by rfl, ?_⟩) (by assumption) ?_
    rotate_left
    · (intro W hSw; (try dsimp only at hSw); go_simp; try with_reducible rfl)
    try simp only [Act.put, List.getElem_toArray, List.getElem_cons_zero, List.getElem_cons_succ, List.setIfInBounds_toArray, List.set_cons_zero, List.set_cons_succ]
    refine wpAnyH_take (i := 8) (v := ?_) rfl (by kernel_rfl) (by kernel_rfl) (by kernel_rfl) (fun c _ _ h => HQ c _ _ _ _ h) (Or.inl ⟨by rfl, ?_⟩) (by assumption) ?_
    rotate_left
    · (intro W hSw; (try dsimp only at hSw); go_simp; try with_reducible rfl)
    try simp only [Act.put, List.getElem_toArray, List.getElem_cons_zero, List.getElem_cons_succ, List.setIfInBounds_toArray, List.set_cons_zero, List.set_cons_succ]
    refine wpAnyH_ready (rs := [9]) (by kernel_rfl) (by simp) ?_
    refine AllReadyH.cons rfl (fun K hK => ?_) AllReadyH.nil
    go_simp
    try go_wp2_with fail
    refine hK.out _ _ (HSZ.out) (fun hHeld => ?_)
    clear hK K
    try simp only [Act.put, List.getElem_toArray, List.getElem_cons_zero, List.getElem_cons_succ, List.setIfInBounds_toArray, List.set_cons_zero, List.set_cons_succ]
    refine wpAnyH_ready (rs := [10]) (by kernel_rfl) (by simp) ?_
    refine AllReadyH.cons rfl (fun K hK => ?_) AllReadyH.nil
    go_simp
    try go_wp2_with fail
    refine hK.out _ _ (HSN.out) (fun hHeld => ?_)
    clear hK K
    try simp only [Act.put, List.getElem_toArray, List.getElem_cons_zero, List.getElem_cons_succ, List.setIfInBounds_toArray, List.set_cons_zero, List.set_cons_succ]
    refine wpAnyH_take (i := 11) (v := ?_) rfl (by kernel_rfl) (by kernel_rfl) (by kernel_rfl) (fun c _ _ h => HQ c _ _ _ _ h) (Or.inl ⟨by rfl, ?_⟩) (by assumption) ?_
    rotate_left
    · (intro W hSw; (try dsimp only at hSw); go_simp; try with_reducible rfl)
    try simp only [Act.put, List.getElem_toArray, List.getElem_cons_zero, List.getElem_cons_succ, List.setIfInBounds_toArray, List.set_cons_zero, List.set_cons_succ]
    refine wpAnyH_done (by kernel_rfl) ?_ _
    exact k3 rfl rfl (HN.out _ _ _ _ _ rfl rfl rfl rfl rfl rfl rfl HKH.out HTX.out HSX.out HNX.out HBX.out)
  · go_simp
    have hBz := (Below.refl wr.heap.size wr.drew).alloc (Nat.le_refl _) (.cells #[.int .i64 0, .int .u64 0, .slice none 0 0] 29)
    have hBz' := below_undrew hBz
    have HTZ := (show Hid _ from HT3.out.on hBz')
    have HBZ := (show Hid _ from below_on HB3.out hBz')
    clear hBz hBz'
    try go_wp2_with fail
    refine hK.out _ _ (HST.out _ HTZ.out.ref HBZ.out) (fun hHeld => ?_)
    clear hK K
    try simp only [Act.put, List.getElem_toArray, List.getElem_cons_zero, List.getElem_cons_succ, List.setIfInBounds_toArray, List.set_cons_zero, List.set_cons_succ]
    refine wpAnyH_ready (rs := [5]) (by kernel_rfl) (by simp) ?_
    refine AllReadyH.cons rfl (fun K hK => ?_) AllReadyH.nil
    go_simp
    refine Calls.mono (HRd.out _ HTZ.out.sl) ?_
    clear hHeld
    rintro e w5 ⟨a5, c5, rfl, hs5, hn5, hb5⟩
    have HB5 := (show Hid _ from below_on HBZ.out hb5)
    have HT5 := (show Hid _ from HTZ.out.on hb5)
    have HNX : Hid (∀ y, a5 = some y → L5 ≠ [] → y.block ≠ s + 1 ∧ v.ownBlock ≠ some y.block ∧ y.block ≠ g) := fun y hy hl => by
      rcases hn5 with ⟨q1, q2⟩ | q1
      · exact HT3.out.sep y (by rw [← q1]; exact hy) (by rw [← q2]; exact hl)
      · have u0 := q1 y hy; have u1 := lt_of_blk HT3.out.pg.blk; have u2 := lt_of_blk HT3.out.ref; simp at u0; exact ⟨by omega, fun q => by have := ownsRow_lt HT3.out.pg.own _ q; omega, by omega⟩
    have hh5 : w5.heap[wr.heap.size]? = some (.cells #[.int .i64 0, .int .u64 0, .slice none 0 0] 29) := by have := box_in (below_undrew hb5); simpa using this
    have HH5 := (show Hid _ from hh5)
    have u1 := lt_of_blk HT3.out.pg.blk
    have u2 := lt_of_blk HT3.out.ref
    have HTX : Hid (TwoOk (newW w5 wr.heap.size 1 0 (.slice a5 L5.length c5)) s (s + 1) g 1 0 L v a' c') := ⟨newW_pg HT5.out.pg (by omega) (fun q => by have := ownsRow_lt HT3.out.pg.own _ q; omega) _ _ _, HT5.out.good, by rw [newW_other (by omega)]; exact HT5.out.ref, newW_sl HT5.out.sl (fun y hy hl => by have := slC_lt HT3.out.sl y hy hl; omega) _ _ _, HT5.out.own, HT5.out.pne, HT5.out.sep⟩
    have HBX := (show Hid _ from newW_below HB5.out (show w.heap.size ≤ wr.heap.size from HB3.out.size) 1 0 (.slice a5 L5.length c5))
    have HSX : Hid (SlC (newW w5 wr.heap.size 1 0 (.slice a5 L5.length c5)) a5 L5) := newW_sl hs5 (fun y hy hl => by
      rcases hn5 with ⟨q1, q2⟩ | q1
      · have := slC_lt HT3.out.sl y (by rw [← q1]; exact hy) (by rw [← q2]; exact hl); omega
      · have := q1 y hy; simp at this; omega) _ _ _
    have HKH := (show Hid _ from newW_at HH5.out 1 0 (.slice a5 L5.length c5))
    have HSN := (show Hid _ from HST.out _ HTX.out.ref HBX.out)
    obtain ⟨m0, m1, m2, n0, n1, n2, hzm⟩ := cell3 hh5
    clear hs5 hn5 hb5 hh5
    try go_wp2_with fail
    refine hK.out _ _ (HST.out _ HT5.out.ref HB5.out) (fun hHeld => ?_)
    clear hK K
    try simp only [Act.put, List.getElem_toArray, List.getElem_cons_zero, List.getElem_cons_succ, List.setIfInBounds_toArray, List.set_cons_zero, List.set_cons_succ]
    refine wpAnyH_take (i := 6) (v := ?_) rfl (by kernel_rfl) (by kernel_rfl) (by kernel_rfl) (fun c _ _ h => HQ c _ _ _ _ h) (Or.inl ⟨by rfl, ?_⟩) (by assumption) ?_
    rotate_left
    · (intro W hSw; (try dsimp only at hSw); go_simp; try with_reducible rfl)
    try simp only [Act.put, List.getElem_toArray, List.getElem_cons_zero, List.getElem_cons_succ, List.setIfInBounds_toArray, List.set_cons_zero, List.set_cons_succ]
    refine wpAnyH_take (i := 7) (v := ?_) rfl (by kernel_rfl) (by kernel_rfl) (by kernel_rfl) (fun c _ _ h => HQ c _ _ _ _ h) (Or.inl ⟨by rfl, ?_⟩) (by assumption) ?_
    rotate_left
    · (intro W hSw; (try dsimp only at hSw); go_simp; try with_reducible rfl)
    try simp only [Act.put, List.getElem_toArray, List.getElem_cons_zero, List.getElem_cons_succ, List.setIfInBounds_toArray, List.set_cons_zero, List.set_cons_succ]
    refine wpAnyH_take (i := 8) (v := ?_) rfl (by kernel_rfl) (by kernel_rfl) (by kernel_rfl) (fun c _ _ h => HQ c _ _ _ _ h) (Or.inl ⟨by rfl, ?_⟩) (by assumption) ?_
    rotate_left
    · (intro W hSw; (try dsimp only at hSw); go_simp; try with_reducible rfl)
    try simp only [Act.put, List.getElem_toArray, List.getElem_cons_zero, List.getElem_cons_succ, List.setIfInBounds_toArray, List.set_cons_zero, List.set_cons_succ]
    refine wpAnyH_ready (rs := [10]) (by kernel_rfl) (by simp) ?_
    refine AllReadyH.cons rfl (fun K hK => ?_) AllReadyH.nil
    go_simp
    try go_wp2_with fail
    refine hK.out _ _ (HSN.out) (fun hHeld => ?_)
    clear hK K
    try simp only [Act.put, List.getElem_toArray, List.getElem_cons_zero, List.getElem_cons_succ, List.setIfInBounds_toArray, List.set_cons_zero, List.set_cons_succ]
    refine wpAnyH_take (i := 11) (v := ?_) rfl (by kernel_rfl) (by kernel_rfl) (by kernel_rfl) (fun c _ _ h => HQ c _ _ _ _ h) (Or.inl ⟨by rfl, ?_⟩) (by assumption) ?_
    rotate_left
    · (intro W hSw; (try dsimp only at hSw); go_simp; try with_reducible rfl)
    try simp only [Act.put, List.getElem_toArray, List.getElem_cons_zero, List.getElem_cons_succ, List.setIfInBounds_toArray, List.set_cons_zero, List.set_cons_succ]
    refine wpAnyH_done (by kernel_rfl) ?_ _
    exact k3 rfl rfl (HN.out _ _ _ _ _ rfl rfl rfl rfl rfl rfl rfl HKH.out HTX.out HSX.out HNX.out HBX.out)

end Go.Proofs.Ytamkfcdehkdcpaa
