/-
  The walk of ActDoes.
-/
import Derived.Test.YtamkfcdehkdcpaaJd
namespace Go.Proofs.Ytamkfcdehkdcpaa
open Go.RowKit

theorem clone_nil (w : World) : Calls Try.prog 36 #[.pointer none] w fun e w' => e = .returned (.pointer none) ∧ w' = w := by
  go_enter Try.func36, Try.ntmps36
  go_wp2_with fail
  go_ret
  exact ⟨rfl, rfl⟩
set_option maxRecDepth 20000 in
set_option maxHeartbeats 2000000 in
theorem plan_nil (a : Ac) (w : World) : Calls Try.prog 13 #[.pointer none, actV a] w fun e w' => e = .returned (.int .i64 1) ∧ Below w.heap.size w w' := by
  obtain ⟨k, x, y, z⟩ := a
  have HZ : Hid ((w.alloc (.cells #[.int .i64 k, .string (txt x), .string (txt y), .string (txt z)] 35)).drew.heap.size = w.heap.size + 1) := by show _ = _; simp
  have HB0 : Hid (Below w.heap.size w (w.alloc (.cells #[.int .i64 k, .string (txt x), .string (txt y), .string (txt z)] 35)).drew) := ((Below.refl _ w).alloc (Nat.le_refl _) _).drew
  have HD : Hid _ := do_nil ⟨k, x, y, z⟩
  have HS : Hid (∀ W, Below (w.heap.size + 1) (w.alloc (.cells #[.int .i64 k, .string (txt x), .string (txt y), .string (txt z)] 35)).drew W → (fun W => W.cell? ⟨w.heap.size, 0, none⟩ = some (.int .i64 k) ∧ W.cell? ⟨w.heap.size, 1, none⟩ = some (.string (txt x)) ∧ W.cell? ⟨w.heap.size, 2, none⟩ = some (.string (txt y)) ∧ W.cell? ⟨w.heap.size, 3, none⟩ = some (.string (txt z))) W) := fun W hW => by
    have e : W.heap[w.heap.size]? = some (.cells #[.int .i64 k, .string (txt x), .string (txt y), .string (txt z)] 35) := by rw [hW.block _ (by omega)]; exact heap_alloc_new w _
    exact ⟨by simp [World.cell?, e], by simp [World.cell?, e], by simp [World.cell?, e], by simp [World.cell?, e]⟩
  simp only [actV, actC] at *
  go_enter Try.func13, Try.ntmps13
  go_wp2_with fail
  refine wp_region_held_drew (S := (fun W => W.cell? ⟨w.heap.size, 0, none⟩ = some (.int .i64 k) ∧ W.cell? ⟨w.heap.size, 1, none⟩ = some (.string (txt x)) ∧ W.cell? ⟨w.heap.size, 2, none⟩ = some (.string (txt y)) ∧ W.cell? ⟨w.heap.size, 3, none⟩ = some (.string (txt z)))) (by kernel_rfl) (HS.out _ (Below.refl _ _)) (fun hHeld => ?_)
  refine wpAnyH_take (i := 0) (v := ?_) rfl (by kernel_rfl) (by kernel_rfl) (by kernel_rfl) (fun _ _ _ h => h) (Or.inl ⟨by rfl, ?_⟩) (by assumption) ?_
  rotate_left
  · (intro W hSw; (try dsimp only at hSw); go_simp; try with_reducible rfl)
  try simp only [Act.put, List.getElem_toArray, List.getElem_cons_zero, List.setIfInBounds_toArray, List.set_cons_zero, List.set_cons_succ]
  refine wpAnyH_take (i := 2) (v := ?_) rfl (by kernel_rfl) (by kernel_rfl) (by kernel_rfl) (fun _ _ _ h => h) (Or.inl ⟨by rfl, ?_⟩) (by assumption) ?_
  rotate_left
  · (intro W hSw; (try dsimp only at hSw); go_simp; try with_reducible rfl)
  try simp only [Act.put, List.getElem_toArray, List.getElem_cons_zero, List.getElem_cons_succ, List.setIfInBounds_toArray, List.set_cons_zero, List.set_cons_succ]
  refine wpAnyH_ready (rs := [1]) (by kernel_rfl) (by simp) ?_
  refine AllReadyH.cons rfl (fun K hK => ?_) AllReadyH.nil
  go_simp
  refine (clone_nil _).mono ?_
  rintro e w2 ⟨rfl, rfl⟩
  try go_wp2_with fail
  refine hK.out _ _ (HS.out _ (Below.refl _ _)) (fun hHeld => ?_)
  clear hK K
  try simp only [Act.put, List.getElem_toArray, List.getElem_cons_zero, List.getElem_cons_succ, List.setIfInBounds_toArray, List.set_cons_zero, List.set_cons_succ]
  refine wpAnyH_ready (rs := [3]) (by kernel_rfl) (by simp) ?_
  refine AllReadyH.cons rfl (fun K hK => ?_) AllReadyH.nil
  go_simp
  refine (HD.out _).mono ?_
  rintro e w3 ⟨rfl, hb3⟩
  rw [HZ.out] at hb3
  have HB3 := (show Hid _ from hb3)
  have hS3 := HS.out _ hb3
  clear hb3
  try go_wp2_with fail
  refine hK.out _ _ (hS3) (fun hHeld => ?_)
  clear hK K
  try simp only [Act.put, List.getElem_toArray, List.getElem_cons_zero, List.getElem_cons_succ, List.setIfInBounds_toArray, List.set_cons_zero, List.set_cons_succ]
  refine wpAnyH_take (i := 4) (v := ?_) rfl (by kernel_rfl) (by kernel_rfl) (by kernel_rfl) (fun _ _ _ h => h) (Or.inl ⟨by rfl, ?_⟩) (by assumption) ?_
  rotate_left
  · (intro W hSw; (try dsimp only at hSw); go_simp; try with_reducible rfl)
  try simp only [Act.put, List.getElem_toArray, List.getElem_cons_zero, List.getElem_cons_succ, List.setIfInBounds_toArray, List.set_cons_zero, List.set_cons_succ]
  refine wpAnyH_done (by kernel_rfl) ?_ _
  go_wp2_with fail
  go_ret
  exact ⟨rfl, HB0.out.trans (HB3.out.mono (by omega))⟩

/-- Between two acts. -/
def I3 (w : World) (a : Option Addr) (c : Nat) (l : List Ac) (s g : Nat) (j : Nat) (x : Act) (w' : World) : Prop :=
  ∃ (u : Nat → Value) (L : List Cl) (v : Value) (a' : Option Addr) (c' : Nat), x = frame3 u ∧ u 1 = .slice a l.length c ∧ u 5 = .pointer (some ⟨s + 1, 0, none⟩) ∧ u 6 = .pointer (some ⟨g, 0, none⟩) ∧ u 7 = .int .i64 (j : Int) ∧ TwoOk w' s (s + 1) g 1 0 L v a' c' ∧ Below w.heap.size w w'

set_option maxRecDepth 100000 in
set_option maxHeartbeats 3000000 in
theorem round3 (w : World) (a : Option Addr) (c : Nat) (l : List Ac) (s g : Nat) (hA : SlA w a l) (hs : w.heap.size ≤ s) (hgs : w.heap.size ≤ g) (j : Nat) (hlt : j < l.length) (h60 : j < 60) (u : Nat → Value) (wr : World) (L : List Cl) (v : Value) (a' : Option Addr) (c' : Nat) (h1 : u 1 = .slice a l.length c) (h5 : u 5 = .pointer (some ⟨s + 1, 0, none⟩)) (h6 : u 6 = .pointer (some ⟨g, 0, none⟩)) (h7 : u 7 = .int .i64 (j : Int)) (hT : TwoOk wr s (s + 1) g 1 0 L v a' c') (hB : Below w.heap.size w wr) (Q0 : Exit → Act → World → Prop) (HQ : ∀ c (a : Act) t v w, Q0 (.panic c) (a.put t v) w → Q0 (.panic c) a w)
    (hret : ∀ u' w', u' 4 = .bool true → Below w.heap.size w w' → Q0 .ret (frame3 u') w') :
    Code.wp Try.prog loop3 (Exit.then (fun x w'' => I3 w a c l s g (j + 1) x w'') Q0) (frame3 u) wr := by
  obtain ⟨b, o, rfl, hbl, _⟩ := hA.at j hlt
  have HA : Hid (∀ W, Below w.heap.size w W → W.cell? ⟨b, o + j * 4, none⟩ = some (.int .i64 l[j].kind) ∧ W.cell? ⟨b, o + j * 4 + 1, none⟩ = some (.string (txt l[j].key)) ∧ W.cell? ⟨b, o + j * 4 + 2, none⟩ = some (.string (txt l[j].old)) ∧ W.cell? ⟨b, o + j * 4 + 3, none⟩ = some (.string (txt l[j].new))) := fun W hW => by
    obtain ⟨b', o', he, _, hC⟩ := (hA.on hW).at j hlt
    simp at he
    obtain ⟨rfl, rfl⟩ := he
    exact hC
  have HX : Hid _ := hret
  have HT : Hid _ := hT
  have HB : Hid _ := hB
  have HQh : Hid _ := HQ
  have Hs : Hid _ := hs
  have Hgs : Hid _ := hgs
  rw [frame3_open, h1, h5, h6, h7]
  clear h1 h5 h6 h7 hA hT hB hret hbl HQ hs hgs
  conv => arg 2; whnf
  refine wp_seq_k fun K hK => ?_
  have HK : Hid _ := hK
  clear hK
  go_wp2_with fail
  refine HK.out _ _ ?_
  clear HK K
  refine wp_seq_k fun K2 hK2 => ?_
  have HK2 : Hid _ := hK2
  clear hK2
  refine wp_block ?_
  refine wp3 rfl rfl (begin3 w s g b o l.length c j hlt l[j] L v a' c' _ wr rfl rfl rfl rfl HA.out HT.out Hs.out Hgs.out HB.out _ (fun c a t v w h => HQh.out c a t v w h) (fun u' w' e1 e2 => HX.out u' w' e1 e2) ?_)
  intro u3 w3 L' v' a5 c5 m1 m5 m6 m7 hT3 hB3
  have HT3 : Hid _ := hT3
  have HB3 : Hid _ := hB3
  show K2 (frame3 u3) w3
  refine HK2.out _ _ ?_
  rw [frame3_open, m1, m5, m6, m7]
  clear m1 m5 m6 m7 hT3 hB3
  go_wp2_with fail
  exact ⟨_, L', v', a5, c5, frame3_lit _ rfl rfl, rfl, rfl, rfl, by show Value.int .i64 _ = _; simp, HT3.out, HB3.out⟩

set_option maxRecDepth 100000 in
set_option maxHeartbeats 3000000 in
theorem exit3 (a : Option Addr) (c : Nat) (l : List Ac) (j : Nat) (hj : ¬ (j < l.length ∧ j < 60)) (u : Nat → Value) (wr : World) (h1 : u 1 = .slice a l.length c) (h7 : u 7 = .int .i64 (j : Int)) (Q0 : Exit → Act → World → Prop) (R : Act → World → Prop)
    (hexit : ∀ u', Q0 (.exit 0) (frame3 u') wr) :
    Code.wp Try.prog loop3 (Exit.then R Q0) (frame3 u) wr := by
  have HX : Hid _ := hexit
  clear hexit
  rw [frame3_open, h1, h7]
  clear h1 h7
  conv => arg 2; whnf
  by_cases hlt : j < l.length
  · have h60 : ¬ j < 60 := fun e => hj ⟨hlt, e⟩
    go_wp2_with fail
    exact q3 rfl rfl (HX.out _)
  · go_wp2_with fail
    exact q3 rfl rfl (HX.out _)

theorem loop3_wp (w : World) (a : Option Addr) (c : Nat) (l : List Ac) (s g : Nat) (hA : SlA w a l) (hs : w.heap.size ≤ s) (hgs : w.heap.size ≤ g) (u : Nat → Value) (wr : World) (L : List Cl) (v : Value) (a' : Option Addr) (c' : Nat) (h1 : u 1 = .slice a l.length c) (h5 : u 5 = .pointer (some ⟨s + 1, 0, none⟩)) (h6 : u 6 = .pointer (some ⟨g, 0, none⟩)) (h7 : u 7 = .int .i64 0) (hT : TwoOk wr s (s + 1) g 1 0 L v a' c') (hB : Below w.heap.size w wr) (Q0 : Exit → Act → World → Prop) (HQ : ∀ c (a : Act) t v w, Q0 (.panic c) (a.put t v) w → Q0 (.panic c) a w)
    (hret : ∀ u' w', u' 4 = .bool true → Below w.heap.size w w' → Q0 .ret (frame3 u') w')
    (hexit : ∀ u' w', Below w.heap.size w w' → Q0 (.exit 0) (frame3 u') w') :
    Code.wp Try.prog (Code.loop loop3) Q0 (frame3 u) wr := by
  refine wp_loop (fun x w' => ∃ j, j ≤ l.length ∧ I3 w a c l s g j x w') (fun x _ => l.length - (intOf (x.tmps.getD 7 undef)).toNat) ⟨0, by omega, u, L, v, a', c', rfl, h1, h5, h6, h7, hT, hB⟩ ?_
  rintro x w' ⟨j, hjl, u', L', v', a5, c5, rfl, g1, g5, g6, g7, hT', hB'⟩
  by_cases hj : j < l.length ∧ j < 60
  · refine Code.wp_mono ?_ (round3 w a c l s g hA hs hgs j hj.1 hj.2 u' w' L' v' a5 c5 g1 g5 g6 g7 hT' hB' Q0 HQ hret)
    intro e x w'' h'
    cases e <;> first | exact h' | skip
    refine ⟨⟨j + 1, by omega, h'⟩, ?_⟩
    obtain ⟨u'', _, _, _, _, rfl, _, _, _, k7, _⟩ := h'
    show l.length - (intOf (u'' 7)).toNat < l.length - (intOf (u' 7)).toNat
    rw [k7, g7]
    simp only [intOf]
    omega
  · exact exit3 a c l j hj u' w' g1 g7 Q0 _ (fun u'' => hexit u'' w' hB')

set_option maxRecDepth 100000 in
set_option maxHeartbeats 3000000 in
theorem last3 (w : World) (u : Nat → Value) (wr : World) (hB : Below w.heap.size w wr) :
    Code.wp Try.prog (tailOf 4 body3) (bodyPost Try.prog Try.f3 fun e w'' => e = .returned (.bool true) ∧ Below w.heap.size w w'') (frame3 u) wr := by
  have HB : Hid _ := hB
  rw [frame3_open]
  clear hB
  conv => arg 2; whnf
  go_wp2_with fail
  refine Calls.mono (do_nil ⟨1, [97], [], []⟩ _) ?_
  rintro e w2 ⟨rfl, hb2⟩
  go_wp2_with fail
  refine Calls.mono (plan_nil ⟨1, [97], [], []⟩ _) ?_
  rintro e w3 ⟨rfl, hb3⟩
  go_wp2_with fail
  refine (lives_any _).mono ?_
  rintro e w4 ⟨rfl, hb4⟩
  go_wp2_with fail
  go_ret
  exact ⟨rfl, below_on (below_on (below_on HB.out hb2) hb3) hb4⟩

set_option maxRecDepth 100000 in
set_option maxHeartbeats 3000000 in
theorem walkDoes (a0 : Option Addr) (c0 : Nat) (l0 : List Pr) (a : Option Addr) (c : Nat) (l : List Ac) (w : World) (h : SlP w a0 l0) (hl : l0.length ≤ maxLen) (hA : SlA w a l) :
    Calls Try.prog 3 #[.slice a0 l0.length c0, .slice a l.length c] w fun e w' => e = .returned (.bool true) ∧ Below w.heap.size w w' := by
  have HP := (show Hid _ from pair_any 1 (by decide) a0 c0 l0 w h hl)
  have HA := (show Hid _ from hA)
  clear h hl hA
  go_enter Try.func3, Try.ntmps3
  go_wp2_with fail
  refine Calls.mono HP.out ?_
  rintro e w1 ⟨L0, v0, a1, c1, rfl, hp0, hb0⟩
  have hBa := (Below.refl w1.heap.size w1).alloc (Nat.le_refl _) (.cells #[.int .i64 1, .int .u64 0, .slice a1 L0.length c1] 29)
  have HT0 : Hid (TwoOk (w1.alloc (.cells #[.int .i64 1, .int .u64 0, .slice a1 L0.length c1] 29)) w.heap.size (w.heap.size + 1) w1.heap.size 1 0 L0 v0 a1 c1) :=
    ⟨hp0.pg.below hBa (Nat.le_refl _), hp0.good, heap_alloc_new _ _, hp0.sl.below hBa, fun e => by have := ownsRow_lt hp0.pg.own _ e; omega, by have := lt_of_blk hp0.pg.blk; omega, fun y hy hl => ⟨(hp0.sep y hy hl).1, (hp0.sep y hy hl).2.1, by have := slC_lt hp0.sl y hy hl; omega⟩⟩
  have HB0 := (show Hid _ from below_on hb0 hBa)
  have HW1 : Hid (w.heap.size ≤ w1.heap.size) := hb0.size
  clear hp0 hb0 hBa HP
  simp only [refP]
  go_wp2_with fail
  rename_i Kr hKr
  refine wp3 rfl rfl (loop3_wp w a c l w.heap.size w1.heap.size HA.out (Nat.le_refl _) HW1.out _ _ L0 v0 a1 c1 rfl rfl rfl rfl HT0.out HB0.out _ (fun _ _ t _ _ h => by cases t <;> exact h) ?_ ?_)
  · intro u' w' e4 hb
    rw [frame3_open, e4]
    go_ret
    exact ⟨rfl, hb⟩
  · intro u' w' hb
    exact hKr _ _ (last3 w u' w' hb)

end Go.Proofs.Ytamkfcdehkdcpaa
