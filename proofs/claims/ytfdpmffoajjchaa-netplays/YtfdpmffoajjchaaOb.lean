/-
  NetOrder, NetCuts: the slots; a round as far as its step is read.
-/
import Derived.Test.YtfdpmffoajjchaaOa
namespace Go.Proofs.Ytfdpmffoajjchaa
open Go.RowKit Go.Conc

/-- The slots of ordered that are read in a round and behind it. -/
structure Sl22 (s n : Nat) (a : Option Addr) (ln c : Nat) (inst : Int) (cuts : Bool) (f t : Int) (S T j : Nat) (u : Nat → Value) : Prop where
  h1 : u 1 = .slice a ln c
  h2 : u 2 = .int .i64 inst
  h4 : u 4 = .bool cuts
  h11 : u 11 = netP s n
  h13 : u 13 = .int .i64 f
  h14 : u 14 = .int .i64 t
  h15 : u 15 = .int .i64 (S : Nat)
  h16 : u 16 = .int .i64 (T : Nat)
  h17 : u 17 = .int .i64 (j : Nat)

noncomputable def loop22 : Code := (((Try.f22.body.map loopsOf).getD [])[0]?).getD .skip
noncomputable def reg22 : Code := tailOf 2 loop22
noncomputable def rest22 : Code := tailOf 2 (blkOf (headOf (tailOf 1 loop22)))

/-- Between two steps. -/
def I22 (w : World) (n : Nat) (a : Option Addr) (ln c : Nat) (inst : Int) (cuts : Bool) (f t : Int) (k j : Nat) (x : Act) (W : World) : Prop :=
  ∃ (u : Nat → Value) (S T : Nat) (R : Nat → List Nat), x = frameN 164 u ∧ Sl22 w.heap.size n a ln c inst cuts f t S T j u ∧ S ≤ j ∧ OrdR w W n k S T R
def Q22 (w : World) (n : Nat) (a : Option Addr) (ln c : Nat) (inst : Int) (cuts : Bool) (f t : Int) (k j : Nat) (Q0 : Exit → Act → World → Prop) : Exit → Act → World → Prop :=
  Exit.inBlock 1 (Exit.then (fun A W => Code.wp Try.prog reg22 (Exit.then (fun x w'' => I22 w n a ln c inst cuts f t k (j + 1) x w'') Q0) A W) (Exit.then (fun x w'' => I22 w n a ln c inst cuts f t k (j + 1) x w'') Q0))

abbrev opA (x : Op1) (p : Pl) : Array Value := #[.int .i64 x.kind, .int .i64 x.frm, .int .i64 x.tow, .int .i64 x.n, .int .i64 x.m.kind, .int .i64 x.m.txn, .int .i64 x.m.page, .int .i64 x.m.to, .bool x.m.fast, .int .u64 (x.m.lsn : Int), .slice p.wa x.m.wants.length p.wc, .slice p.pa x.m.pages.length p.pc, .string (txt x.m.body)]

theorem at13_cells {w : World} {b o : Nat} {x : Op1} {p : Pl} (h : At13 w b o x p) :
    w.cell? ⟨b, o, none⟩ = some (.int .i64 x.kind) ∧ w.cell? ⟨b, o + 1, none⟩ = some (.int .i64 x.frm) ∧ w.cell? ⟨b, o + 2, none⟩ = some (.int .i64 x.tow) ∧ w.cell? ⟨b, o + 3, none⟩ = some (.int .i64 x.n) ∧ w.cell? ⟨b, o + 4, none⟩ = some (.int .i64 x.m.kind) ∧ w.cell? ⟨b, o + 5, none⟩ = some (.int .i64 x.m.txn) ∧ w.cell? ⟨b, o + 6, none⟩ = some (.int .i64 x.m.page) ∧ w.cell? ⟨b, o + 7, none⟩ = some (.int .i64 x.m.to) ∧ w.cell? ⟨b, o + 8, none⟩ = some (.bool x.m.fast) ∧ w.cell? ⟨b, o + 9, none⟩ = some (.int .u64 (x.m.lsn : Int)) ∧ w.cell? ⟨b, o + 10, none⟩ = some (.slice p.wa x.m.wants.length p.wc) ∧ w.cell? ⟨b, o + 11, none⟩ = some (.slice p.pa x.m.pages.length p.pc) ∧ w.cell? ⟨b, o + 12, none⟩ = some (.string (txt x.m.body)) := by
  refine ⟨h 0 _ rfl, h 1 _ rfl, h 2 _ rfl, h 3 _ rfl, h 4 _ rfl, h 5 _ rfl, h 6 _ rfl, h 7 _ rfl, h 8 _ rfl, h 9 _ rfl, h 10 _ rfl, h 11 _ rfl, h 12 _ rfl⟩

set_option maxRecDepth 100000 in
set_option maxHeartbeats 3000000 in
theorem pre22a (w : World) (n : Nat) (b o ln c : Nat) (inst : Int) (cuts : Bool) (f t : Int) (k S T j : Nat) (u : Nat → Value) (wr : World) (x : Op1) (p : Pl) (hu : Sl22 w.heap.size n (some ⟨b, o, none⟩) ln c inst cuts f t S T j u)
    (hlt : j < ln) (h100 : j < 100) (hA : At13 wr b (o + j * 13) x p) (hf : ¬ x.frm = f) (Q0 : Exit → Act → World → Prop)
    (HN : ∀ u' : Nat → Value, Sl22 w.heap.size n (some ⟨b, o, none⟩) ln c inst cuts f t S T j u' → u' 18 = .pointer (some ⟨wr.heap.size, 0, none⟩) → u' 19 = .bool false → Code.wp Try.prog rest22 (Q22 w n (some ⟨b, o, none⟩) ln c inst cuts f t k j Q0) (frameN 164 u') (wr.alloc (.cells (opA x p) 50))) :
    Code.wp Try.prog loop22 (Exit.then (fun x w'' => I22 w n (some ⟨b, o, none⟩) ln c inst cuts f t k (j + 1) x w'') Q0) (frameN 164 u) wr := by
  obtain ⟨h1, h2, h4, h11, h13, h14, h15, h16, h17⟩ := hu
  obtain ⟨s0, s1, s2, s3, s4, s5, s6, s7, s8, s9, s10, s11, s12⟩ := at13_cells hA
  clear hA
  have z1 : (x.frm == f) = false := by simp [hf]
  have hj1 : (j : Int) < (ln : Int) := by omega
  have hj2 : (j : Int) < 100 := by omega
  have hj3 : 0 ≤ (j : Int) := by omega
  rw [frame_open164, h1, h2, h4, h11, h13, h14, h15, h16, h17]
  clear h1 h2 h4 h11 h13 h14 h15 h16 h17
  have HH : Hid (∀ (A : Act) (Wx : World), A.tmps.size = 164 → A.defers = [] → Sl22 w.heap.size n (some ⟨b, o, none⟩) ln c inst cuts f t S T j (fun i => A.tmps.getD i undef) → A.tmps.getD 18 undef = .pointer (some ⟨wr.heap.size, 0, none⟩) → A.tmps.getD 19 undef = .bool false → Wx = wr.alloc (.cells (opA x p) 50) → Code.wp Try.prog rest22 (Q22 w n (some ⟨b, o, none⟩) ln c inst cuts f t k j Q0) A Wx) := by
    intro A Wx hs hd hS h18 h19 hW
    subst hW
    rw [frameN_lit 164 A hs hd]
    exact HN _ hS h18 h19
  clear HN
  unfold Q22 at HH
  obtain ⟨QA, hQA⟩ : ∃ QA, QA = (Exit.then (fun x w'' => I22 w n (some ⟨b, o, none⟩) ln c inst cuts f t k (j + 1) x w'') Q0) := ⟨_, rfl⟩
  rw [← hQA] at HH ⊢
  clear hQA
  unfold rest22 reg22 at HH
  unfold loop22 at HH ⊢
  conv => arg 2; whnf
  refine wp_seq_k fun K hK => ?_
  have HK := toHid hK
  clear hK
  go_wp2_with fail
  refine HK.out _ _ ?_
  clear HK
  refine wp_seq_k fun K2 hK2 => ?_
  have HK2 := toHid hK2
  clear hK2
  refine wp_block ?_
  refine wp_seq_k fun K3 hK3 => ?_
  have HK3 := toHid hK3
  clear hK3
  go_wp2_with fail
  refine HK3.out _ _ ?_
  clear HK3
  refine wp_seq_k fun K4 hK4 => ?_
  have HK4 := toHid hK4
  clear hK4
  go_wp2_with fail
  refine HK4.out _ _ ?_
  clear HK4
  refine wp_mono (HH.out _ _ rfl rfl ⟨rfl, rfl, rfl, rfl, rfl, rfl, rfl, rfl, rfl⟩ rfl rfl rfl) ?_
  intro e A Wx hq
  cases e with
  | normal => exact HK2.out _ _ hq
  | exit id =>
    simp only [Exit.inBlock] at hq ⊢
    split at hq
    · rename_i hid
      rw [if_pos hid]
      exact HK2.out _ _ hq
    · rename_i hid
      rw [if_neg hid]
      exact hq
  | goto l => exact hq
  | ret => exact hq
  | panic ch => exact hq
  | outgrown => exact hq

set_option maxRecDepth 100000 in
set_option maxHeartbeats 3000000 in
theorem pre22b (w : World) (n : Nat) (b o ln c : Nat) (inst : Int) (cuts : Bool) (f t : Int) (k S T j : Nat) (u : Nat → Value) (wr : World) (x : Op1) (p : Pl) (hu : Sl22 w.heap.size n (some ⟨b, o, none⟩) ln c inst cuts f t S T j u)
    (hlt : j < ln) (h100 : j < 100) (hA : At13 wr b (o + j * 13) x p) (hf : x.frm = f) (ht : ¬ x.tow = t) (Q0 : Exit → Act → World → Prop)
    (HN : ∀ u' : Nat → Value, Sl22 w.heap.size n (some ⟨b, o, none⟩) ln c inst cuts f t S T j u' → u' 18 = .pointer (some ⟨wr.heap.size, 0, none⟩) → u' 19 = .bool false → Code.wp Try.prog rest22 (Q22 w n (some ⟨b, o, none⟩) ln c inst cuts f t k j Q0) (frameN 164 u') (wr.alloc (.cells (opA x p) 50))) :
    Code.wp Try.prog loop22 (Exit.then (fun x w'' => I22 w n (some ⟨b, o, none⟩) ln c inst cuts f t k (j + 1) x w'') Q0) (frameN 164 u) wr := by
  obtain ⟨h1, h2, h4, h11, h13, h14, h15, h16, h17⟩ := hu
  obtain ⟨s0, s1, s2, s3, s4, s5, s6, s7, s8, s9, s10, s11, s12⟩ := at13_cells hA
  clear hA
  have z1 : (x.frm == f) = true := by simp [hf]
  have z2 : (x.tow == t) = false := by simp [ht]
  clear hf ht
  have hj1 : (j : Int) < (ln : Int) := by omega
  have hj2 : (j : Int) < 100 := by omega
  have hj3 : 0 ≤ (j : Int) := by omega
  rw [frame_open164, h1, h2, h4, h11, h13, h14, h15, h16, h17]
  clear h1 h2 h4 h11 h13 h14 h15 h16 h17
  have HH : Hid (∀ (A : Act) (Wx : World), A.tmps.size = 164 → A.defers = [] → Sl22 w.heap.size n (some ⟨b, o, none⟩) ln c inst cuts f t S T j (fun i => A.tmps.getD i undef) → A.tmps.getD 18 undef = .pointer (some ⟨wr.heap.size, 0, none⟩) → A.tmps.getD 19 undef = .bool false → Wx = wr.alloc (.cells (opA x p) 50) → Code.wp Try.prog rest22 (Q22 w n (some ⟨b, o, none⟩) ln c inst cuts f t k j Q0) A Wx) := by
    intro A Wx hs hd hS h18 h19 hW
    subst hW
    rw [frameN_lit 164 A hs hd]
    exact HN _ hS h18 h19
  clear HN
  unfold Q22 at HH
  obtain ⟨QA, hQA⟩ : ∃ QA, QA = (Exit.then (fun x w'' => I22 w n (some ⟨b, o, none⟩) ln c inst cuts f t k (j + 1) x w'') Q0) := ⟨_, rfl⟩
  rw [← hQA] at HH ⊢
  clear hQA
  unfold rest22 reg22 at HH
  unfold loop22 at HH ⊢
  conv => arg 2; whnf
  refine wp_seq_k fun K hK => ?_
  have HK := toHid hK
  clear hK
  go_wp2_with fail
  refine HK.out _ _ ?_
  clear HK
  refine wp_seq_k fun K2 hK2 => ?_
  have HK2 := toHid hK2
  clear hK2
  refine wp_block ?_
  refine wp_seq_k fun K3 hK3 => ?_
  have HK3 := toHid hK3
  clear hK3
  go_wp2_with fail
  refine HK3.out _ _ ?_
  clear HK3
  refine wp_seq_k fun K4 hK4 => ?_
  have HK4 := toHid hK4
  clear hK4
  go_wp2_with fail
  refine HK4.out _ _ ?_
  clear HK4
  refine wp_mono (HH.out _ _ rfl rfl ⟨rfl, rfl, rfl, rfl, rfl, rfl, rfl, rfl, rfl⟩ rfl rfl rfl) ?_
  intro e A Wx hq
  cases e with
  | normal => exact HK2.out _ _ hq
  | exit id =>
    simp only [Exit.inBlock] at hq ⊢
    split at hq
    · rename_i hid
      rw [if_pos hid]
      exact HK2.out _ _ hq
    · rename_i hid
      rw [if_neg hid]
      exact hq
  | goto l => exact hq
  | ret => exact hq
  | panic ch => exact hq
  | outgrown => exact hq

set_option maxRecDepth 100000 in
set_option maxHeartbeats 3000000 in
theorem pre22c (w : World) (n : Nat) (b o ln c : Nat) (inst : Int) (cuts : Bool) (f t : Int) (k S T j : Nat) (u : Nat → Value) (wr : World) (x : Op1) (p : Pl) (hu : Sl22 w.heap.size n (some ⟨b, o, none⟩) ln c inst cuts f t S T j u)
    (hlt : j < ln) (h100 : j < 100) (hA : At13 wr b (o + j * 13) x p) (hf : x.frm = f) (ht : x.tow = t) (Q0 : Exit → Act → World → Prop)
    (HN : ∀ u' : Nat → Value, Sl22 w.heap.size n (some ⟨b, o, none⟩) ln c inst cuts f t S T j u' → u' 18 = .pointer (some ⟨wr.heap.size, 0, none⟩) → u' 19 = .bool true → Code.wp Try.prog rest22 (Q22 w n (some ⟨b, o, none⟩) ln c inst cuts f t k j Q0) (frameN 164 u') (wr.alloc (.cells (opA x p) 50))) :
    Code.wp Try.prog loop22 (Exit.then (fun x w'' => I22 w n (some ⟨b, o, none⟩) ln c inst cuts f t k (j + 1) x w'') Q0) (frameN 164 u) wr := by
  obtain ⟨h1, h2, h4, h11, h13, h14, h15, h16, h17⟩ := hu
  obtain ⟨s0, s1, s2, s3, s4, s5, s6, s7, s8, s9, s10, s11, s12⟩ := at13_cells hA
  clear hA
  have z1 : (x.frm == f) = true := by simp [hf]
  have z2 : (x.tow == t) = true := by simp [ht]
  clear hf ht
  have hj1 : (j : Int) < (ln : Int) := by omega
  have hj2 : (j : Int) < 100 := by omega
  have hj3 : 0 ≤ (j : Int) := by omega
  rw [frame_open164, h1, h2, h4, h11, h13, h14, h15, h16, h17]
  clear h1 h2 h4 h11 h13 h14 h15 h16 h17
  have HH : Hid (∀ (A : Act) (Wx : World), A.tmps.size = 164 → A.defers = [] → Sl22 w.heap.size n (some ⟨b, o, none⟩) ln c inst cuts f t S T j (fun i => A.tmps.getD i undef) → A.tmps.getD 18 undef = .pointer (some ⟨wr.heap.size, 0, none⟩) → A.tmps.getD 19 undef = .bool true → Wx = wr.alloc (.cells (opA x p) 50) → Code.wp Try.prog rest22 (Q22 w n (some ⟨b, o, none⟩) ln c inst cuts f t k j Q0) A Wx) := by
    intro A Wx hs hd hS h18 h19 hW
    subst hW
    rw [frameN_lit 164 A hs hd]
    exact HN _ hS h18 h19
  clear HN
  unfold Q22 at HH
  obtain ⟨QA, hQA⟩ : ∃ QA, QA = (Exit.then (fun x w'' => I22 w n (some ⟨b, o, none⟩) ln c inst cuts f t k (j + 1) x w'') Q0) := ⟨_, rfl⟩
  rw [← hQA] at HH ⊢
  clear hQA
  unfold rest22 reg22 at HH
  unfold loop22 at HH ⊢
  conv => arg 2; whnf
  refine wp_seq_k fun K hK => ?_
  have HK := toHid hK
  clear hK
  go_wp2_with fail
  refine HK.out _ _ ?_
  clear HK
  refine wp_seq_k fun K2 hK2 => ?_
  have HK2 := toHid hK2
  clear hK2
  refine wp_block ?_
  refine wp_seq_k fun K3 hK3 => ?_
  have HK3 := toHid hK3
  clear hK3
  go_wp2_with fail
  refine HK3.out _ _ ?_
  clear HK3
  refine wp_seq_k fun K4 hK4 => ?_
  have HK4 := toHid hK4
  clear hK4
  go_wp2_with fail
  refine HK4.out _ _ ?_
  clear HK4
  refine wp_mono (HH.out _ _ rfl rfl ⟨rfl, rfl, rfl, rfl, rfl, rfl, rfl, rfl, rfl⟩ rfl rfl rfl) ?_
  intro e A Wx hq
  cases e with
  | normal => exact HK2.out _ _ hq
  | exit id =>
    simp only [Exit.inBlock] at hq ⊢
    split at hq
    · rename_i hid
      rw [if_pos hid]
      exact HK2.out _ _ hq
    · rename_i hid
      rw [if_neg hid]
      exact hq
  | goto l => exact hq
  | ret => exact hq
  | panic ch => exact hq
  | outgrown => exact hq

end Go.Proofs.Ytfdpmffoajjchaa
