/-
  The walk of ChainSaves.
-/
import Derived.Test.YticadfaclnimgaaLk
import Derived.Deep.CutBlock
import Derived.Deep.DeepCutAuto
namespace Go.Proofs.Yticadfaclnimgaa
open Go.RowKit Go.Maps

/-- The savepoints that the law keeps beside the table. -/
structure Mk (w : World) (A : Nat) (σ : Sg) (v : Value) (l : List Nat) : Prop where
  own : w.ownsRow 0 27 1 v l.length (lsns l)
  off : ∀ g, v.ownBlock = some g → ¬ Foot A σ g
theorem Mk.step {w w' : World} {A : Nat} {σ σ' : Sg} {v : Value} {l : List Nat} (h : Mk w A σ v l) (s : Step A w σ w' σ') : Mk w' A σ' v l := by
  refine ⟨own_at h.own fun g hg => s.turn.block g (own_blk h.own hg).2 (h.off g hg), fun g hg hf => ?_⟩
  rcases s.foot g hf with h1 | h1
  · exact h.off g hg h1
  · have := (own_blk h.own hg).2
    omega
theorem Mk.below {w w' : World} {A : Nat} {σ : Sg} {v : Value} {l : List Nat} (h : Mk w A σ v l) (hb : Below w.heap.size w w') : Mk w' A σ v l := h.step (Step.quiet hb)

theorem Mk.turn {w w' : World} {A g : Nat} {σ : Sg} {v : Value} {l : List Nat} {cs : Array Value} {ty : TypeId} (h : Mk w A σ v l) (ht : Turn (fun i => i = g) w w') (hg : w.heap[g]? = some (.cells cs ty)) (hty : ty ≠ 27) : Mk w' A σ v l := by
  refine ⟨own_at h.own fun k hk => ht.block k (own_blk h.own hk).2 (fun e => ?_), h.off⟩
  have e : k = g := e
  obtain ⟨_, cur, h2⟩ := own_kind h.own hk
  rw [e, hg] at h2
  injection h2 with h2
  injection h2 with h3 h4
  exact hty h4
theorem note_saves {f : Int → Option Tn} {r : Rc} {t : Int} {x y : Tn} (hx : f t = some x) (hy : noteF f r t = some y) : y.saves = x.saves := by
  unfold noteF at hy
  split at hy
  · by_cases e : t = r.txn
    · subst e
      rw [upd_same] at hy
      split at hy
      · cases hy
      · rw [hx] at hy
        cases hy
        exact deedX_saves x r
    · rw [upd_other _ _ e, hx] at hy
      cases hy
      rfl
  · rw [hx] at hy
    cases hy
    rfl
/-- An append to an owned row; and where it lies. -/
theorem wpList_append_fresh {P : Program} {ops : Array Oper} {rest : List Oper} {o : Oper} {a : Act} {w : World} {Q : Exit → Act → World → Prop}
    (hg : o.guard = none) (s x : Operand) (t : TypeId) (hop : o.op = Op.call { callee := Callee.builtin Builtin.append, args := #[s, x], argTypes := #[t, t] })
    (base : Nat) (e : TypeId) (i : TypeInfo) (z : Value) (size bytes : Nat) (h1 : P.underlying t = some (.slice e)) (h2 : P.info? e = some i) (h3 : i.zero = some z) (h4 : i.size = size) (h5 : i.bytes = bytes) (h6 : z.cells.size = size) (h7 : 0 < size)
    (v : Value) (n : Nat) (xs : List Value) (hs : a.eval s = v) (hown : w.ownsRow base e size v n xs)
    (ad : Addr) (m c : Nat) (news : List Value) (hx : a.eval x = .slice (some ad) m c) (hn : news.length = m * size) (hc : ∀ j u, news[j]? = some u → w.cell? (ad.add j) = some u) (h1c : ∀ u ∈ news, u.oneCell' = true)
    (b1 : n + m ≤ maxLen) (b2 : (n + m) * bytes ≤ 140737488355328) (hb : base ≤ w.heap.size)
    (hK : ∀ v' w', w'.ownsRow base e size v' (n + m) (xs ++ news) → w.grownBy w' v.ownBlock → Fresh w v v' → wpList P ops Q rest (a.put o.dst v') w') : wpList P ops Q (o :: rest) a w := by
  refine wpList_plain hg fun K' hK' => ?_
  obtain ⟨v', w', hrun, r1, r2, r3⟩ := run_append_fresh (P := P) w base t o.type e i z size bytes h1 h2 h3 h4 h5 h6 h7 v n xs hown ad m c news hn hc h1c b1 b2 hb
  unfold Oper.wp
  simp [execOp, hop, resolve, invoke, builtin, hs, hx, hrun, Result.andThen]
  exact hK' _ _ (hK v' w' r1 r2 r3)
theorem cell_one_at (w : World) (a : Value) (t : TypeId) : ∀ j u, [a][j]? = some u → (w.alloc (.cells #[a] t)).cell? ((⟨w.heap.size, 0, none⟩ : Addr).add j) = some u := by
  intro j u hu
  rw [addr_add]
  have hk : (w.alloc (.cells #[a] t)).heap[w.heap.size]? = some (.cells #[a] t) := heap_alloc_new w _
  match j, hu with
  | 0, hu => simp at hu; rw [← hu]; exact cell1 hk
  | j + 1, hu => simp at hu
/-- The law's savepoints grow. -/
theorem Mk.grow {w w2 w' : World} {B T A M : Nat} {K : List Lit} {σ : Sg} {v v' : Value} {l : List Nat} {n : Nat} (h : Mk w A σ v l) (hT : Tb w B T A K M σ) (hb : Below w.heap.size w w2) (o1 : w'.ownsRow 0 27 1 v' (l.length + 1) (lsns l ++ [.int .u64 (n : Int)])) (o2 : w2.grownBy w' v.ownBlock) (o3 : Fresh w2 v v') :
    Tb w' B T A K M σ ∧ Mk w' A σ v' (l ++ [n]) ∧ (B ≤ w.heap.size → (∀ g, v.ownBlock = some g → B ≤ g) → Below B w w') := by
  have hT2 := hT.below hb
  have ht := Turn.of_grown o2
  refine ⟨hT2.keep ht fun g hg => ⟨h.off g hg.symm, fun e => ?_⟩, ⟨by simpa [lsns] using o1, fun g hg hf => ?_⟩, fun hB hv => (hb.mono hB).trans (ht.below (Nat.le_trans hB hb.size) fun i hi e => by have := hv i e.symm; omega)⟩
  · obtain ⟨_, cur, h2⟩ := own_kind h.own hg.symm
    rw [e, hT.tab] at h2
    injection h2 with h2
    injection h2 with h3 h4
    exact absurd h4 (by decide)
  · rcases o3 g hg with h1 | h1
    · exact h.off g h1 hf
    · have := (hT.foot_low hf).2
      have := hb.size
      omega

/-- What the loop holds. -/
def LoopS (w : World) (W : World) (M : Nat) (v : Value) : Prop := ∃ σ x, Tb W w.heap.size (w.heap.size + 1) w.heap.size [.int .i64 3] M σ ∧ Below w.heap.size w W ∧ σ.f 3 = some x ∧ Mk W w.heap.size σ v x.saves ∧ ∀ g, v.ownBlock = some g → w.heap.size ≤ g
/-- What the switch leaves: perhaps the transaction is gone. -/
def MidS (w : World) (W : World) (M : Nat) (v : Value) : Prop := ∃ σ, Tb W w.heap.size (w.heap.size + 1) w.heap.size [.int .i64 3] M σ ∧ Below w.heap.size w W ∧ (∀ x, σ.f 3 = some x → Mk W w.heap.size σ v x.saves) ∧ ∀ g, v.ownBlock = some g → w.heap.size ≤ g

set_option maxRecDepth 100000 in
set_option maxHeartbeats 8000000 in
theorem saves_walk (w : World) (a : Option Addr) (l : List OpL) (c : Nat) (hl : SlO w a l) (hm : l.length ≤ maxLen) : Calls Try.prog 5 #[.slice a l.length c] w fun e w' => e = .returned (.bool true) ∧ Below w.heap.size w w' := by
  unfold maxLen at hm
  have hnew := new8 [.int .i64 3] (by simp) w
  have HOp := toHid (show ∀ W, Tb W w.heap.size (w.heap.size + 1) w.heap.size [.int .i64 3] 0 sg0 → Below w.heap.size w W → Calls Try.prog 11 #[.pointer (some ⟨w.heap.size + 1, 0, none⟩), .int .i64 3] W fun e w' => e = .returned (.int .i64 0) ∧ LoopS w w' 0 (.slice none 0 0) from fun W h hb => by
    refine (open11 (t := 3) h (fun _ _ => by simp)).mono ?_
    rintro e w' ⟨rfl, σ, t, s, hf⟩
    refine ⟨rfl, σ, tn0, t, hb.trans (s.below h hb.size), ?_, ⟨⟨rfl, .inl ⟨rfl, rfl⟩⟩, fun g hg => by cases hg⟩, fun g hg => by cases hg⟩
    rw [hf]
    unfold openF
    rw [if_pos (show openE (sg0.f 3) 3 = 0 from rfl)]
    exact upd_same _ _ _)
  have HLv := toHid lives10
  have HO := toHid hl
  clear hl
  go_enter Try.func5, Try.ntmps5
  go_wp2_with (first
    | (go_at_call 8; refine hnew.mono ?_; rintro e w1 ⟨rfl, h1, b1⟩; have HT1 := toHid h1; have HB1 := toHid b1; clear h1 b1)
    | (go_at_call 11; refine Calls.mono (HOp.out _ HT1.out HB1.out) ?_; rintro e w2 ⟨rfl, hL⟩; have HL := toHid hL; clear hL))
  go_loopw [4, 5] (fun v i W => ∃ k : Nat, k ≤ 60 ∧ k ≤ l.length ∧ i = .int .i64 k ∧ LoopS w W (k * 200) v) (fun _ i _ => l.length - (intOf i).toNat)
  case atStart => exact ⟨0, by omega, by omega, rfl, HL.out⟩
  case round =>
    obtain ⟨k, hk1, hk2, rfl, σ, x, hT, hB, hx, hM, hV⟩ := hrel
    have HV := toHid hV
    clear hV
    obtain ⟨va, vc, rfl⟩ := ownsRow_shape2 hM.own
    have HT := toHid hT
    have HB := toHid hB
    have HX := toHid hx
    have HM := toHid hM
    clear hT hB hx hM hnew HOp HT1 HB1 HL
    by_cases hlt : k < l.length
    · by_cases hlh : k < 60
      · have HI0 := toHid (show OpI w l[k] from by obtain ⟨_, _, _, _, h⟩ := HO.out.get hlt; exact h)
        have hgw : w.heap.size ≤ wr.heap.size := HB.out.size
        obtain ⟨b, o, rfl, hat, hoi⟩ := (HO.out.below HB.out).get hlt
        obtain ⟨q, hq⟩ : ∃ q, l[k] = q := ⟨_, rfl⟩
        rw [hq] at hat hoi HI0
        clear hq
        have HI := toHid hoi
        have hlt' : ((k : Nat) : Int) < (l.length : Int) := by omega
        have hlh' : ((k : Nat) : Int) < 60 := by omega
        obtain ⟨a0, a1, a2, a3, a4, a5, a6, a7, a8, a9, a10, a11, a12, a13, a14⟩ := hat
        go_wp2_with fail
        have HLg := toHid (light9 (w := wr.alloc (.cells (opC q) 36)) (r := q.r) (ta := q.ta) (tc := q.tc) (da := q.da) (dc := q.dc) HI.out.ri.lt HI.out.ri.ld)
        have hW5 : (wr.alloc (.cells (opC q) 36)).heap[wr.heap.size]? = some (.cells (opC q) 36) := heap_alloc_new wr _
        have HT5 := toHid (HT.out.below ((Below.refl _ _).alloc (Nat.le_refl _) (.cells (opC q) 36)))
        have HM5 := toHid (HM.out.below ((Below.refl _ _).alloc (Nat.le_refl _) (.cells (opC q) 36)))
        have HB5 := toHid (HB.out.alloc HB.out.size (.cells (opC q) 36))
        have HI5 := toHid (HI.out.below ((Below.refl _ _).alloc (Nat.le_refl _) (.cells (opC q) 36)))
        have hs5 : wr.heap.size < (wr.alloc (.cells (opC q) 36)).heap.size := by simp
        simp only [opC] at hW5 HT5 HB5 HI5 HLg hs5 HM5
        generalize hg5 : wr.heap.size = g5 at *
        generalize wr.alloc (.cells #[.int .i64 q.kind, .int .i64 q.txn, .int .i64 q.n, .int .i64 q.r.kind, .int .u64 (q.r.lsn : Int), .int .i64 q.r.txn, .int .u64 (q.r.prev : Int), .int .u64 (q.r.undo : Int), .int .i64 q.r.page, .int .i64 q.r.ak, .string (txt q.r.key), .string (txt q.r.old), .string (txt q.r.new), .slice q.ta q.r.txns.length q.tc, .slice q.da q.r.dirty.length q.dc] 36) = W5 at *
        clear a0 a1 a2 a3 a4 a5 a6 a7 a8 a9 a10 a11 a12 a13 a14 HI hoi
        refine Calls.mono HLg.out ?_
        rintro e w2 ⟨lb, rfl, hb2⟩
        have HB2 := toHid (HB5.out.trans (hb2.mono HB5.out.size))
        cases lb with
        | false =>
          go_wp2_with (go_at_call 10; refine Calls.mono (HLv.out _) ?_; rintro e w6 ⟨rfl, hb6⟩; have HB6 := toHid hb6; clear hb6)
          go_ret
          exact ⟨rfl, HB2.out.trans (HB6.out.mono HB2.out.size)⟩
        | true =>
          have HT2 := toHid (HT5.out.below hb2)
          have HM2 := toHid (HM5.out.below hb2)
          have HI2 := toHid (HI5.out.below hb2)
          have HX2 := toHid ((hb2.block _ hs5).trans hW5)
          have hs2 : g5 < w2.heap.size := Nat.lt_of_lt_of_le hs5 hb2.size
          clear HT5 HB5 HI5 hW5 hs5 hb2 HLg HB HO HT HM HM5
          obtain ⟨e0, e1, e2, e3, e4, e5, e6, e7, e8, e9, e10, e11, e12, e13, e14⟩ := op15 HX2.out
          go_upto_block 2 with fail
          go_cut [4, 47] (fun v tag wc => tag = .int .i64 q.kind ∧ MidS w wc ((k + 1) * 200) v)
          case first =>
            by_cases h12 : q.kind = 1 ∨ q.kind = 2
            · rcases h12 with h12 | h12
              · have g1 : (q.kind == 1) = true := by simpa using h12
                clear h12
                as_aux_lemma =>
                  go_wp2_with fail
                  refine Calls.mono (row12 (t := 3) HT2.out (by decide)) ?_
                  rintro e w3 ⟨rfl, hb3⟩
                  rw [HX.out]
                  have HT3 := toHid (HT2.out.below hb3)
                  have HM3 := toHid (HM2.out.below hb3)
                  have HB3 := toHid (HB2.out.trans (hb3.mono HB2.out.size))
                  have hX3 := (hb3.block _ hs2).trans HX2.out
                  have HI3 := toHid (HI2.out.below hb3)
                  have hs3 : g5 < w3.heap.size := Nat.lt_of_lt_of_le hs2 hb3.size
                  clear e0 e1 e2 e3 e4 e5 e6 e7 e8 e9 e10 e11 e12 e13 e14 hb3
                  have hO4 : ((w3.setCell ⟨g5, 0, none⟩ (.int .i64 2)).setCell ⟨g5, 1, none⟩ (.int .i64 3)).heap[g5]? = some (.cells (opC ⟨2, 3, q.n, q.r, q.ta, q.tc, q.da, q.dc⟩) 36) := set5 _ (set5 _ hX3)
                  obtain ⟨e0, e1, e2, e3, e4, e5, e6, e7, e8, e9, e10, e11, e12, e13, e14⟩ := op15 hX3
                  have fz : ∀ j, w3.frozen? ⟨g5, j, none⟩ = false := fun j => by simp [World.frozen?, hX3]
                  have fz0 := fz 0
                  have fz1 := fz 1
                  have HS4 := toHid (show Turn (fun i => i = g5) w3 ((w3.setCell ⟨g5, 0, none⟩ (.int .i64 2)).setCell ⟨g5, 1, none⟩ (.int .i64 3)) from (Turn.setCell w3 ⟨g5, 0, none⟩ _).trans (Turn.setCell _ ⟨g5, 1, none⟩ _) (fun _ h => .inl h))
                  have HNf := toHid (show ¬ Foot w.heap.size σ g5 ∧ g5 ≠ w.heap.size + 1 from ⟨HT3.out.other hX3 (by decide) (by decide), fun e => by
                    have := HT3.out.tab
                    rw [← e, hX3] at this
                    injection this with this
                    injection this with h1 h2
                    exact absurd h2 (by decide)⟩)
                  clear fz
                  go_wp2_with fail
                  have HTa := toHid (HT3.out.keep HS4.out (fun i hi => by have hi : i = g5 := hi; rw [hi]; exact HNf.out))
                  have HMa := toHid (HM3.out.turn HS4.out hX3 (by decide))
                  have HBa := toHid ((HB3.out.setCell (show w.heap.size ≤ (⟨g5, 0, none⟩ : Addr).block from hgw) (.int .i64 2)).setCell (show w.heap.size ≤ (⟨g5, 1, none⟩ : Addr).block from hgw) (.int .i64 3))
                  generalize (w3.setCell ⟨g5, 0, none⟩ (.int .i64 2)).setCell ⟨g5, 1, none⟩ (.int .i64 3) = wa at *
                  clear e0 e1 e2 e3 e4 e5 e6 e7 e8 e9 e10 e11 e12 e13 e14 fz0 fz1 hX3 HS4 HNf HT3 HM3 HB3 HI3
                  have HTb := toHid (HTa.out.below ((Below.refl _ _).alloc (Nat.le_refl _) (.cells (txV 3 (some x)) 43)))
                  have HMb := toHid (HMa.out.below ((Below.refl _ _).alloc (Nat.le_refl _) (.cells (txV 3 (some x)) 43)))
                  have HBb := toHid (HBa.out.alloc HBa.out.size (.cells (txV 3 (some x)) 43))
                  generalize wa.alloc (.cells (txV 3 (some x)) 43) = wb at *
                  refine Calls.mono (record13 ⟨2, 3, q.n, q.r, q.ta, q.tc, q.da, q.dc⟩ (lastO (some x)) k wb (by omega)) ?_
                  rintro e w5 ⟨rfl, hb5⟩
                  have HT6 := toHid (HTb.out.below hb5)
                  have HM6 := toHid (HMb.out.below hb5)
                  have HB6 := toHid (HBb.out.trans (hb5.mono HBb.out.size))
                  clear hb5 HTa HMa HBa HTb HMb HBb
                  obtain ⟨rr, hrr⟩ : ∃ rr, recordR 2 3 q.r (lastO (some x)) k = rr := ⟨_, rfl⟩
                  have HR := toHid (show RI w5 rr q.ta q.da ∧ Wt rr.txn from by
                    have h1 := record_rows 2 3 q.r (lastO (some x)) k
                    have h2 : Wt (recordR 2 3 q.r (lastO (some x)) k).txn := by
                      unfold recordR
                      rw [if_pos rfl]
                      show Wt 3
                      decide
                    have h := (HI0.out.below HB6.out).ri
                    rw [hrr] at h1 h2
                    exact ⟨⟨by rw [h1.1]; exact h.t, by rw [h1.2.1]; exact h.d, by rw [h1.1]; exact h.lt, by rw [h1.2.1]; exact h.ld⟩, h2⟩)
                  rw [hrr]
                  clear hrr
                  go_wp2_with fail
                  refine Calls.mono (note16 HT6.out (by omega) HR.out.1 HR.out.2) ?_
                  rintro e w6 ⟨rfl, σ2, t6, s6, f6⟩
                  have HF := toHid (show MidS w w6 ((k + 1) * 200) (.slice va x.saves.length vc) from ⟨σ2, t6.mono (by omega), HB6.out.trans (s6.below HT6.out HB6.out.size), fun y hy => by
                    rw [f6] at hy
                    rw [note_saves HX.out hy]
                    exact HM6.out.step s6, HV.out⟩)
                  clear t6 s6 f6
                  go_wp2
                  go_meet
                  case rel => exact ⟨rfl, HF.out⟩
              · have g1 : (q.kind == 1) = false := by simp [h12]
                have g2 : (q.kind == 2) = true := by simpa using h12
                clear h12
                as_aux_lemma =>
                  go_wp2_with fail
                  refine Calls.mono (row12 (t := 3) HT2.out (by decide)) ?_
                  rintro e w3 ⟨rfl, hb3⟩
                  rw [HX.out]
                  have HT3 := toHid (HT2.out.below hb3)
                  have HM3 := toHid (HM2.out.below hb3)
                  have HB3 := toHid (HB2.out.trans (hb3.mono HB2.out.size))
                  have hX3 := (hb3.block _ hs2).trans HX2.out
                  have HI3 := toHid (HI2.out.below hb3)
                  have hs3 : g5 < w3.heap.size := Nat.lt_of_lt_of_le hs2 hb3.size
                  clear e0 e1 e2 e3 e4 e5 e6 e7 e8 e9 e10 e11 e12 e13 e14 hb3
                  have hO4 : ((w3.setCell ⟨g5, 0, none⟩ (.int .i64 2)).setCell ⟨g5, 1, none⟩ (.int .i64 3)).heap[g5]? = some (.cells (opC ⟨2, 3, q.n, q.r, q.ta, q.tc, q.da, q.dc⟩) 36) := set5 _ (set5 _ hX3)
                  obtain ⟨e0, e1, e2, e3, e4, e5, e6, e7, e8, e9, e10, e11, e12, e13, e14⟩ := op15 hX3
                  have fz : ∀ j, w3.frozen? ⟨g5, j, none⟩ = false := fun j => by simp [World.frozen?, hX3]
                  have fz0 := fz 0
                  have fz1 := fz 1
                  have HS4 := toHid (show Turn (fun i => i = g5) w3 ((w3.setCell ⟨g5, 0, none⟩ (.int .i64 2)).setCell ⟨g5, 1, none⟩ (.int .i64 3)) from (Turn.setCell w3 ⟨g5, 0, none⟩ _).trans (Turn.setCell _ ⟨g5, 1, none⟩ _) (fun _ h => .inl h))
                  have HNf := toHid (show ¬ Foot w.heap.size σ g5 ∧ g5 ≠ w.heap.size + 1 from ⟨HT3.out.other hX3 (by decide) (by decide), fun e => by
                    have := HT3.out.tab
                    rw [← e, hX3] at this
                    injection this with this
                    injection this with h1 h2
                    exact absurd h2 (by decide)⟩)
                  clear fz
                  go_wp2_with fail
                  have HTa := toHid (HT3.out.keep HS4.out (fun i hi => by have hi : i = g5 := hi; rw [hi]; exact HNf.out))
                  have HMa := toHid (HM3.out.turn HS4.out hX3 (by decide))
                  have HBa := toHid ((HB3.out.setCell (show w.heap.size ≤ (⟨g5, 0, none⟩ : Addr).block from hgw) (.int .i64 2)).setCell (show w.heap.size ≤ (⟨g5, 1, none⟩ : Addr).block from hgw) (.int .i64 3))
                  generalize (w3.setCell ⟨g5, 0, none⟩ (.int .i64 2)).setCell ⟨g5, 1, none⟩ (.int .i64 3) = wa at *
                  clear e0 e1 e2 e3 e4 e5 e6 e7 e8 e9 e10 e11 e12 e13 e14 fz0 fz1 hX3 HS4 HNf HT3 HM3 HB3 HI3
                  have HTb := toHid (HTa.out.below ((Below.refl _ _).alloc (Nat.le_refl _) (.cells (txV 3 (some x)) 43)))
                  have HMb := toHid (HMa.out.below ((Below.refl _ _).alloc (Nat.le_refl _) (.cells (txV 3 (some x)) 43)))
                  have HBb := toHid (HBa.out.alloc HBa.out.size (.cells (txV 3 (some x)) 43))
                  generalize wa.alloc (.cells (txV 3 (some x)) 43) = wb at *
                  refine Calls.mono (record13 ⟨2, 3, q.n, q.r, q.ta, q.tc, q.da, q.dc⟩ (lastO (some x)) k wb (by omega)) ?_
                  rintro e w5 ⟨rfl, hb5⟩
                  have HT6 := toHid (HTb.out.below hb5)
                  have HM6 := toHid (HMb.out.below hb5)
                  have HB6 := toHid (HBb.out.trans (hb5.mono HBb.out.size))
                  clear hb5 HTa HMa HBa HTb HMb HBb
                  obtain ⟨rr, hrr⟩ : ∃ rr, recordR 2 3 q.r (lastO (some x)) k = rr := ⟨_, rfl⟩
                  have HR := toHid (show RI w5 rr q.ta q.da ∧ Wt rr.txn from by
                    have h1 := record_rows 2 3 q.r (lastO (some x)) k
                    have h2 : Wt (recordR 2 3 q.r (lastO (some x)) k).txn := by
                      unfold recordR
                      rw [if_pos rfl]
                      show Wt 3
                      decide
                    have h := (HI0.out.below HB6.out).ri
                    rw [hrr] at h1 h2
                    exact ⟨⟨by rw [h1.1]; exact h.t, by rw [h1.2.1]; exact h.d, by rw [h1.1]; exact h.lt, by rw [h1.2.1]; exact h.ld⟩, h2⟩)
                  rw [hrr]
                  clear hrr
                  go_wp2_with fail
                  refine Calls.mono (note16 HT6.out (by omega) HR.out.1 HR.out.2) ?_
                  rintro e w6 ⟨rfl, σ2, t6, s6, f6⟩
                  have HF := toHid (show MidS w w6 ((k + 1) * 200) (.slice va x.saves.length vc) from ⟨σ2, t6.mono (by omega), HB6.out.trans (s6.below HT6.out HB6.out.size), fun y hy => by
                    rw [f6] at hy
                    rw [note_saves HX.out hy]
                    exact HM6.out.step s6, HV.out⟩)
                  clear t6 s6 f6
                  go_wp2
                  go_meet
                  case rel => exact ⟨rfl, HF.out⟩
            · have g1 : (q.kind == 1) = false := by simp; omega
              have g2 : (q.kind == 2) = false := by simp; omega
              by_cases h3 : q.kind = 3
              · have g3 : (q.kind == 3) = true := by simpa using h3
                clear h12 h3
                as_aux_lemma =>
                  have hN := next15 (t := 3) HT2.out (by decide)
                  rw [HX.out] at hN
                  have HRw := toHid (row12 (t := 3) HT2.out (by decide))
                  by_cases hst : x.st = 0
                  · by_cases h4 : x.saves.length = 4
                    · have hS := save_full (t := 3) HT2.out (by decide) HX.out hst h4
                      have h4' : ¬ (x.saves.length : Int) < 4 := by omega
                      have st0 : (stO (some x) == 0) = true := by simpa [stO] using hst
                      clear hst h4
                      go_wp2_with (first
                        | (go_at_call 15; refine hN.mono ?_; rintro e w3 ⟨rfl, hw⟩; obtain rfl := hw.symm)
                        | (go_at_call 20; refine hS.mono ?_; rintro e w3 ⟨rfl, hw⟩; obtain rfl := hw.symm)
                        | (go_at_call 12; refine Calls.mono HRw.out ?_; rintro e w3 ⟨rfl, hb3⟩; rw [HX.out]; have HF := toHid (show MidS w (w3.alloc (.cells (txV 3 (some x)) 43)) ((k + 1) * 200) (.slice va x.saves.length vc) from (by
                            have h2 := hb3.alloc hb3.size (.cells (txV 3 (some x)) 43)
                            exact ⟨σ, (HT2.out.below h2).mono (by omega), HB2.out.trans (h2.mono HB2.out.size), fun y hy => by rw [HX.out] at hy; cases hy; exact HM2.out.below h2, HV.out⟩)); clear hb3))
                      go_meet
                      case rel => exact ⟨rfl, HF.out⟩
                    · have h4l : x.saves.length < 4 := by have := (HT2.out.lim 3 x HX.out).2; omega
                      have hS := save_ok (t := 3) HT2.out (by decide) HX.out hst h4l
                      have h4' : (x.saves.length : Int) < 4 := by omega
                      obtain ⟨i0, hi0, hz0, hz1, hz2⟩ := info_parts info27
                      have st0 : (stO (some ({ x with saves := x.saves ++ [x.next] } : Tn)) == 0) = true := by simpa [stO] using hst
                      clear hst h4
                      go_upto_region 28 with (first
                        | (go_at_call 15; refine hN.mono ?_; rintro e w3 ⟨rfl, hw⟩; obtain rfl := hw.symm)
                        | (go_at_call 20; refine hS.mono ?_; rintro e w3 ⟨rfl, v3, t3, s3⟩; have HT3 := toHid t3; have HM3 := toHid (HM2.out.step s3); have HB3 := toHid (HB2.out.trans (s3.below HT2.out HB2.out.size)); have HRw3 := toHid (row12 (t := 3) t3 (by decide)); have HX3 := toHid (show (σ.put 3 { x with saves := x.saves ++ [x.next] } (σ.b 3) v3).f 3 = some { x with saves := x.saves ++ [x.next] } from upd_same _ _ _); clear t3 s3)
                        | (go_at_call 12; refine Calls.mono HRw3.out ?_; rintro e w4 ⟨rfl, hb4⟩; rw [HX3.out]; have h2 := hb4.alloc hb4.size (.cells (txV 3 (some ({ x with saves := x.saves ++ [x.next] } : Tn))) 43); have HT4 := toHid (HT3.out.below h2); have HM4 := toHid (HM3.out.below h2); have HB4 := toHid (HB3.out.trans (h2.mono HB3.out.size)); clear h2 hb4))
                      simp only [txV] at HT4 HM4 HB4
                      generalize w4.alloc (.cells #[.int .i64 (idO 3 (some ({ x with saves := x.saves ++ [x.next] } : Tn))), .int .i64 (stO (some ({ x with saves := x.saves ++ [x.next] } : Tn))), .int .u64 (lastO (some ({ x with saves := x.saves ++ [x.next] } : Tn)) : Int)] 43) = W4 at *
                      have HG := toHid (HM4.out.own.alloc (.cells #[.int .u64 (nextO (some x) : Int)] 27))
                      have hVb := HV.out
                      go_wp2_with (at_builtin; refine wpList_append_fresh rfl (.tmp 112) (.tmp 114) 59 rfl 0 27 i0 _ 1 8 Try.underlying59 hi0 hz0 hz1 hz2 rfl (by decide) _ _ _ rfl HG.out ⟨W4.heap.size, 0, none⟩ 1 1 [_] rfl rfl (cell_one_at _ _ _) (by intro u hu; simp at hu; rcases hu with rfl; rfl) (by unfold maxLen; omega) (by omega) (Nat.zero_le _) ?_; intro v6 w6 o1 o2 o3; have HGr := toHid (HM4.out.grow (n := nextO (some x)) HT4.out ((Below.refl _ _).alloc (Nat.le_refl _) _) o1 o2 o3); have HFr := toHid (show ∀ g, v6.ownBlock = some g → w.heap.size ≤ g from fun g hg => (by
                        rcases o3 g hg with h1 | h1
                        · exact HV.out g h1
                        · have h2 := HB4.out.size
                          have h3 : W4.heap.size ≤ (W4.alloc (.cells #[.int .u64 (nextO (some x) : Int)] 27)).heap.size := (by simp)
                          omega)); obtain ⟨ay, cy, rfl⟩ := ownsRow_shape2 o1; clear o1 o2 o3)
                      go_meet
                      case rel => exact ⟨rfl, _, HGr.out.1.mono (by omega), HB4.out.trans (HGr.out.2.2 HB4.out.size HV.out), fun y hy => by rw [HX3.out] at hy; cases hy; exact HGr.out.2.1, HFr.out⟩
                  · have hS := save_state (t := 3) HT2.out (by decide) HX.out hst
                    have st0 : (stO (some x) == 0) = false := by simpa [stO] using hst
                    clear hst
                    go_wp2_with (first
                      | (go_at_call 15; refine hN.mono ?_; rintro e w3 ⟨rfl, hw⟩; obtain rfl := hw.symm)
                      | (go_at_call 20; refine hS.mono ?_; rintro e w3 ⟨rfl, hw⟩; obtain rfl := hw.symm)
                      | (go_at_call 12; refine Calls.mono HRw.out ?_; rintro e w3 ⟨rfl, hb3⟩; rw [HX.out]; have HB3 := toHid (HB2.out.trans ((hb3.alloc hb3.size (.cells (txV 3 (some x)) 43)).mono HB2.out.size)); clear hb3)
                      | (go_at_call 10; refine Calls.mono (HLv.out _) ?_; rintro e w6 ⟨rfl, hb6⟩; have HB6 := toHid hb6; clear hb6))
                    go_ret
                    exact ⟨rfl, HB3.out.trans (HB6.out.mono HB3.out.size)⟩
              · have g3 : (q.kind == 3) = false := by simpa using h3
                by_cases h5 : q.kind = 5
                · have g5' : (q.kind == 5) = true := by simpa using h5
                  clear h12 h3 h5
                  as_aux_lemma =>
                    by_cases hs : 0 ≤ q.n ∧ q.n < x.saves.length
                    · obtain ⟨n, hn⟩ : ∃ n : Nat, q.n = (n : Int) := ⟨q.n.toNat, by omega⟩
                      have hnl : n < x.saves.length := by omega
                      have hD := drop_yes (t := 3) HT2.out (by decide) HX.out (n := n) hnl
                      obtain ⟨g, cap, hv, _⟩ := own_read HM2.out.own hnl
                      injection hv with hv1 hv2 hv3
                      subst hv1
                      subst hv3
                      have hcap : x.saves.length ≤ vc ∧ vc ≤ maxLen := by
                        rcases HM2.out.own.2 with ⟨h0, _⟩ | ⟨g', cap', cur, e, hb, hg, h1, h2, h3, h4⟩
                        · cases h0
                        · injection e with e1 e2 e3
                          subst e3
                          exact ⟨h1, h2⟩
                      obtain ⟨hc1, hc2⟩ := hcap
                      unfold maxLen at hc2
                      have q1 : (n : Int) ≤ (vc : Int) := by omega
                      have q2 : n ≤ vc := by omega
                      have q3 : ¬ (x.saves.length : Int) ≤ (n : Int) := by omega
                      have q4 : ¬ (n : Int) < 0 := by omega
                      rw [hn] at e2
                      clear hs hn
                      go_wp2_with (go_at_call 21; refine hD.mono ?_; rintro e w3 ⟨rfl, v3, t3, s3⟩; have HT3 := toHid t3; have HM3 := toHid (HM2.out.step s3); have HB3 := toHid (HB2.out.trans (s3.below HT2.out HB2.out.size)); have HX3 := toHid (show (σ.put 3 { x with saves := x.saves.take n } (σ.b 3) v3).f 3 = some { x with saves := x.saves.take n } from upd_same _ _ _); have k2 : w3.cell? ⟨g5, 2, none⟩ = some (.int .i64 (n : Int)) := (by
                          have h3 := s3.kind HT2.out HX2.out (by decide) (by decide)
                          have h4 : w3.cell? ⟨g5, 2, none⟩ = w2.cell? ⟨g5, 2, none⟩ := (by simp only [World.cell?, h3, HX2.out])
                          rw [h4]
                          exact e2); clear t3 s3)
                      go_meet
                      case rel =>
                        refine ⟨rfl, _, HT3.out.mono (by omega), HB3.out, fun y hy => ?_, HV.out⟩
                        rw [HX3.out] at hy
                        cases hy
                        exact ⟨own_cut HM3.out.own (by omega), HM3.out.off⟩
                    · have hD := drop_no (t := 3) HT2.out (by decide) (n := q.n) (by
                        rintro ⟨y, hy, h1, h2⟩
                        rw [HX.out] at hy
                        cases hy
                        exact hs ⟨h1, h2⟩)
                      clear hs
                      go_wp2_with (go_at_call 21; refine hD.mono ?_; rintro e w3 ⟨rfl, hw⟩; obtain rfl := hw.symm)
                      go_meet
                      case rel => exact ⟨rfl, σ, HT2.out.mono (by omega), HB2.out, fun y hy => by rw [HX.out] at hy; cases hy; exact HM2.out, HV.out⟩
                · have g5' : (q.kind == 5) = false := by simpa using h5
                  clear h12 h3 h5
                  go_wp2
                  go_meet
                  case rel => exact ⟨rfl, σ, HT2.out.mono (by omega), HB2.out, fun y hy => by rw [HX.out] at hy; cases hy; exact HM2.out, HV.out⟩
          case rest =>
            as_aux_lemma =>
              obtain ⟨rfl, σc, hTc, hBc, hMc, hVc⟩ := hcut
              have HTc := toHid hTc
              have HBc := toHid hBc
              have HMc := toHid hMc
              have HVc := toHid hVc
              clear hTc hBc hMc hVc
              have HRw := toHid (row12 (t := 3) HTc.out (by decide))
              cases hy : σc.f 3 with
              | none =>
                rw [hy] at HRw
                go_wp2_with (first
                  | (go_at_call 12; refine Calls.mono HRw.out ?_; rintro e w3 ⟨rfl, hb3⟩; have HB3 := toHid (HBc.out.trans ((hb3.alloc hb3.size (.cells (txV 3 none) 43)).mono HBc.out.size)); clear hb3)
                  | (go_at_call 10; refine Calls.mono (HLv.out _) ?_; rintro e w6 ⟨rfl, hb6⟩; have HB6 := toHid hb6; clear hb6))
                go_ret
                exact ⟨rfl, HB3.out.trans (HB6.out.mono HB3.out.size)⟩
              | some y =>
                rw [hy] at HRw
                have HMy := toHid (HMc.out y hy)
                have HY := toHid hy
                clear hy
                obtain ⟨ya, yc, rfl⟩ := ownsRow_shape2 HMy.out.own
                go_wp2_with (go_at_call 12; refine Calls.mono HRw.out ?_; rintro e w3 ⟨rfl, hb3⟩; have h2 := hb3.alloc hb3.size (.cells (txV 3 (some y)) 43); have HT4 := toHid (HTc.out.below h2); have HM4 := toHid (HMy.out.below h2); have HB4 := toHid (HBc.out.trans (h2.mono HBc.out.size)); clear hb3 h2)
                simp only [txV] at HT4 HM4 HB4
                generalize w3.alloc (.cells #[.int .i64 (idO 3 (some y)), .int .i64 (stO (some y)), .int .u64 (lastO (some y) : Int)] 43) = W4 at *
                have hl4 := (HT4.out.lim 3 y HY.out).2
                go_loop [16] (fun i => ∃ j : Nat, j ≤ y.saves.length + 1 ∧ i = .int .i64 j) (fun i => y.saves.length + 1 - (intOf i).toNat)
                case atStart => exact ⟨0, by omega, rfl⟩
                case round =>
                  obtain ⟨j, hj, rfl⟩ := hrel
                  by_cases hj1 : j < y.saves.length
                  · have hMk := mark_yes (t := 3) HT4.out (by decide) HY.out (n := j) hj1
                    obtain ⟨g, cap, hv, hr⟩ := own_read HM4.out.own hj1
                    injection hv with hv1 hv2 hv3
                    subst hv1
                    subst hv3
                    have q1 : (j : Int) < (y.saves.length : Int) := by omega
                    have q2 : (j : Int) ≤ (y.saves.length : Int) := by omega
                    generalize y.saves.getD j 0 = z at *
                    go_wp2_with (go_at_call 22; refine hMk.mono ?_; rintro e w5 ⟨rfl, hw⟩; obtain rfl := hw.symm)
                    go_round
                    case rel => exact ⟨j + 1, by omega, by go_num⟩
                    case measure => simp [intOf]; omega
                  · by_cases hj2 : j = y.saves.length
                    · have hMk := mark_no (t := 3) HT4.out (by decide) (n := (j : Int)) (by
                        rintro ⟨y', hy', h1, h2⟩
                        rw [HY.out] at hy'
                        cases hy'
                        omega)
                      have q1 : ¬ (j : Int) < (y.saves.length : Int) := by omega
                      have q2 : (j : Int) ≤ (y.saves.length : Int) := by omega
                      clear hj2
                      go_wp2_with (go_at_call 22; refine hMk.mono ?_; rintro e w5 ⟨rfl, hw⟩; obtain rfl := hw.symm)
                      go_round
                      case rel => exact ⟨j + 1, by omega, by go_num⟩
                      case measure => simp [intOf]; omega
                    · have q2 : ¬ (j : Int) ≤ (y.saves.length : Int) := by omega
                      go_wp2
                      go_roundw
                      case rel => exact ⟨k + 1, by omega, by omega, by go_num, σc, y, HT4.out, HB4.out, HY.out, HM4.out, HVc.out⟩
                      case measure => simp [intOf]; omega
      · have hlh' : ¬ ((k : Nat) : Int) < 60 := by omega
        go_wp2_with (go_at_call 10; refine Calls.mono (HLv.out _) ?_; rintro e w6 ⟨rfl, hb6⟩; have HB6 := toHid hb6; clear hb6)
        go_ret
        exact ⟨rfl, HB.out.trans (HB6.out.mono HB.out.size)⟩
    · go_wp2_with (go_at_call 10; refine Calls.mono (HLv.out _) ?_; rintro e w6 ⟨rfl, hb6⟩; have HB6 := toHid hb6; clear hb6)
      go_ret
      exact ⟨rfl, HB.out.trans (HB6.out.mono HB.out.size)⟩
end Go.Proofs.Yticadfaclnimgaa
