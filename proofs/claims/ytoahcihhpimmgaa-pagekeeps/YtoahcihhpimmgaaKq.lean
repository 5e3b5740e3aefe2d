/-
  A page in memory and a row of pairs beside it.
-/
import Derived.Test.YtoahcihhpimmgaaKp
import Derived.Test.YtoahcihhpimmgaaSs
import Derived.Test.YtoahcihhpimmgaaMd
import Derived.BigQuiet
namespace Go.Proofs.Ytoahcihhpimmgaa
open Go.RowKit

theorem blk_touch {W W' : World} {B p b : Nat} {id : Int} {lsn : Nat} {v : Value} {l : List Cl} {cs : Array Value} {t : TypeId} (h : W.heap[b]? = some (.cells cs t (0, 0))) (h1 : t ≠ 68) (h2 : t ≠ 65) (hp : PgOk W B p id lsn v l) (ht : Touch p v.ownBlock W W') : W'.heap[b]? = some (.cells cs t (0, 0)) := by
  rw [ht.block b (lt_of_blk h) (fun e => ?_) (fun e => ?_)]
  · exact h
  · subst e
    have := hp.blk
    rw [h] at this
    simp at this
    exact h1 this.2
  · rcases hp.own.2 with ⟨h3, _⟩ | ⟨g', cap', cur', h3, _, hh', _⟩
    · rw [h3] at e; simp [Value.ownBlock] at e
    · rw [h3] at e
      simp [Value.ownBlock] at e
      subst e
      rw [h] at hh'
      simp at hh'
      exact h2 hh'.2
theorem own_touch {W W' : World} {D B p : Nat} {id : Int} {lsn : Nat} {v vv : Value} {l : List Cl} {n : Nat} {xs : List Value} (h : W.ownsRow D 59 2 vv n xs) (hp : PgOk W B p id lsn v l) (ht : Touch p v.ownBlock W W') : W'.ownsRow D 59 2 vv n xs := by
  refine ⟨h.1, ?_⟩
  rcases h.2 with h2 | ⟨g, cap, cur, hv, hD, hh, r⟩
  · exact .inl h2
  · exact .inr ⟨g, cap, cur, hv, hD, blk_touch hh (by decide) (by decide) hp ht, r⟩

/-- A slice of pairs. -/
structure SlQ (w : World) (a : Option Addr) (l : List Pq) : Prop where
  nonil : a = none → l = []
  cells : ∀ x, a = some x → ∀ i t, l[i]? = some t → x.spot = none ∧ w.cell? ⟨x.block, x.off + i * 2, none⟩ = some (.string (txt t.1)) ∧ w.cell? ⟨x.block, x.off + i * 2 + 1, none⟩ = some (.string (txt t.2))
theorem SlQ.at {w : World} {a : Option Addr} {l : List Pq} (h : SlQ w a l) (i : Nat) (hi : i < l.length) : ∃ b o, a = some ⟨b, o, none⟩ ∧ b < w.heap.size ∧
    w.cell? ⟨b, o + i * 2, none⟩ = some (.string (txt l[i].1)) ∧ w.cell? ⟨b, o + i * 2 + 1, none⟩ = some (.string (txt l[i].2)) := by
  cases a with
  | none => have := h.nonil rfl; subst this; simp at hi
  | some x =>
    obtain ⟨h1, h2, h3⟩ := h.cells x rfl i l[i] (List.getElem?_eq_getElem hi)
    obtain ⟨b, o, sp⟩ := x
    simp at h1
    subst h1
    exact ⟨b, o, rfl, World.block_lt_of_cell? _ _ h2, h2, h3⟩
theorem slQ_of_own {w : World} {B : Nat} {a : Option Addr} {n c : Nat} {l : List Pq} (h : w.ownsRow B 59 2 (.slice a n c) l.length (pcells l)) : SlQ w a l := by
  rcases h.2 with ⟨h1, h2⟩ | ⟨g, cap, cur, h1, hB, hh, hc, hm, hs, ht⟩
  · have hl : l = [] := List.eq_nil_of_length_eq_zero h2
    subst hl
    exact ⟨fun _ => rfl, fun x _ i t ht => by simp at ht⟩
  · injection h1 with e1 e2 e3
    refine ⟨fun e => by rw [e] at e1; simp at e1, fun x hx i t hit => ?_⟩
    rw [e1] at hx
    simp at hx
    subst hx
    have hi : i < l.length := (List.getElem?_eq_some_iff.1 hit).1
    have q0 := pcells_at l i t hit 0 (by decide)
    have q1 := pcells_at l i t hit 1 (by decide)
    rw [← ht, List.getElem?_take_of_lt (by omega), Array.getElem?_toList] at q0 q1
    simp [encP] at q0 q1
    exact ⟨rfl, by simp [World.cell?, hh, q0], by simp [World.cell?, hh, q1]⟩
theorem pcells_set (M : List Pq) (i : Nat) (hi : i < M.length) (x : List UInt8) : (pcells M).set (i * 2 + 1) (.string (txt x)) = pcells (M.set i (M[i].1, x)) := by
  induction M generalizing i with
  | nil => simp at hi
  | cons c r ih =>
    cases i with
    | zero => simp [pcells, encP]
    | succ i =>
      have := ih i (by simpa using hi)
      have e : ∀ (y : Pq) (m : List Pq), pcells (y :: m) = encP y ++ pcells m := fun _ _ => rfl
      rw [List.set_cons_succ, e, e, List.getElem_cons_succ, ← this, show (i + 1) * 2 + 1 = (i * 2 + 1) + 1 + 1 by omega]
      rfl
theorem own_put {W : World} {D g i : Nat} {c : Nat} {M : List Pq} (h : W.ownsRow D 59 2 (.slice (some ⟨g, 0, none⟩) M.length c) M.length (pcells M)) (hi : i < M.length) (x : List UInt8) :
    (W.setCell ⟨g, i * 2 + 1, none⟩ (.string (txt x))).ownsRow D 59 2 (.slice (some ⟨g, 0, none⟩) M.length c) M.length (pcells (M.set i (M[i].1, x))) := by
  rcases h.2 with ⟨h1, h2⟩ | ⟨g', cap, cur, h1, hB, hh, hc, hm, hs, ht⟩
  · simp at h1
  · injection h1 with e1 e2 e3
    simp at e1
    subst e1 e3
    refine ⟨by rw [← pcells_set M i hi x, List.length_set]; exact h.1, .inr ⟨g, c, cur.setIfInBounds (i * 2 + 1) (.string (txt x)), rfl, hB, ?_, hc, hm, by simpa using hs, ?_⟩⟩
    · show (W.heap.modify g _)[g]? = _
      simp [Array.getElem?_modify, hh]
    · rw [← pcells_set M i hi x, ← ht, Array.toList_setIfInBounds, List.take_set]

theorem own_take {W : World} {D g i : Nat} {c : Nat} {M : List Pq} (h : W.ownsRow D 59 2 (.slice (some ⟨g, 0, none⟩) M.length c) M.length (pcells M)) (hi : i ≤ M.length) : W.ownsRow D 59 2 (.slice (some ⟨g, 0, none⟩) i c) i (pcells (M.take i)) := by
  have e : pcells (M.take i) = (pcells M).take (i * 2) := by
    have h1 : pcells M = pcells (M.take i) ++ pcells (M.drop i) := by rw [← pcells_append, List.take_append_drop]
    have h2 : (pcells (M.take i)).length = i * 2 := by rw [pcells_length, List.length_take, Nat.min_eq_left hi]
    rw [h1, List.take_left' h2]
  rcases h.2 with ⟨h1, h2⟩ | ⟨g', cap, cur, h1, hB, hh, hc, hm, hs, ht⟩
  · simp at h1
  · injection h1 with e1 e2 e3
    simp at e1
    subst e1 e3
    refine ⟨by rw [pcells_length, List.length_take, Nat.min_eq_left hi], .inr ⟨g, c, cur, rfl, hB, hh, by omega, hm, hs, ?_⟩⟩
    rw [e, ← ht, List.take_take, Nat.min_eq_left (by omega)]
theorem own_drop {W : World} {D g i : Nat} {c : Nat} {M : List Pq} (h : W.ownsRow D 59 2 (.slice (some ⟨g, 0, none⟩) M.length c) M.length (pcells M)) (hi : i ≤ M.length) : ∀ j u, (pcells (M.drop i))[j]? = some u → W.cell? ((⟨g, i * 2, none⟩ : Addr).add j) = some u := by
  intro j u hu
  have e : pcells (M.drop i) = (pcells M).drop (i * 2) := by
    have h1 : pcells M = pcells (M.take i) ++ pcells (M.drop i) := by rw [← pcells_append, List.take_append_drop]
    have h2 : (pcells (M.take i)).length = i * 2 := by rw [pcells_length, List.length_take, Nat.min_eq_left hi]
    rw [h1, List.drop_left' h2]
  rcases h.2 with ⟨h1, h2⟩ | ⟨g', cap, cur, h1, hB, hh, hc, hm, hs, ht⟩
  · simp at h1
  · injection h1 with e1 e2 e3
    simp at e1
    subst e1 e3
    rw [e, List.getElem?_drop, ← ht] at hu
    have hlt : i * 2 + j < M.length * 2 := by
      have := (List.getElem?_eq_some_iff.1 hu).1
      rw [List.length_take] at this
      omega
    rw [List.getElem?_take_of_lt hlt, Array.getElem?_toList] at hu
    have ea : (⟨g, i * 2, none⟩ : Addr).add j = ⟨g, i * 2 + j, none⟩ := by unfold Addr.add; split <;> simp_all
    rw [ea]
    simp [World.cell?, hh, hu]

/-- A page in block w.heap.size, and a row of pairs that goes with it. -/
structure Kp7 (w : World) (id : Int) (v : Value) (L : List Cl) (a : Option Addr) (c : Nat) (M : List Pq) (W : World) : Prop where
  pg : PgOk W w.heap.size w.heap.size id 0 v L
  good : GoodL L
  row : W.ownsRow w.heap.size 59 2 (.slice a M.length c) M.length (pcells M)
  perm : M.Perm (prsL L)
  low : Below w.heap.size w W
theorem Kp7.few {w W : World} {id : Int} {v : Value} {L : List Cl} {a : Option Addr} {c : Nat} {M : List Pq} (h : Kp7 w id v L a c M W) : M.length ≤ 64 := by
  have h1 := h.perm.length_eq
  have h2 := prs_le L
  have h3 := h.good.few
  omega
theorem Kp7.call {w W W' : World} {id : Int} {v : Value} {L : List Cl} {a : Option Addr} {c : Nat} {M : List Pq} (h : Kp7 w id v L a c M W) (hb : Below W.heap.size W W') : Kp7 w id v L a c M W' :=
  ⟨h.pg.below hb (Nat.le_refl _), h.good, ownsRow_below h.row hb (fun k hk => (World.ownsRow.lt h.row k hk).2), h.perm, h.low.trans (hb.mono h.low.size)⟩
theorem Kp7.drewN {w W : World} {id : Int} {v : Value} {L : List Cl} {a : Option Addr} {c : Nat} {M : List Pq} (h : Kp7 w id v L a c M W) (n : Nat) : Kp7 w id v L a c M (W.drewN n) := by
  induction n with
  | zero => exact h
  | succ n ih => exact ih.call (Below.refl _ _).drew
theorem ins_err {l : List Cl} {k x : List UInt8} (h : (insL l k x).2 ≠ 0) : (insL l k x).1 = l := by
  by_cases e : (insL l k x).1 = l
  · exact e
  · exfalso
    unfold insL at h e
    split at h
    · rename_i hm
      rw [if_pos hm] at e
      split at h
      · rename_i hf
        rw [hf] at e
        exact e rfl
      · rename_i hf
        rw [hf] at e
        dsimp only at e
        split at h
        · rename_i hq
          rw [hq] at e
          dsimp only at e
          unfold fillL at h e
          split at h
          · rename_i hc; rw [if_pos hc] at e; exact e rfl
          · simp at h
        · rename_i hq
          rw [hq] at e
          dsimp only at e
          unfold addL at h e
          split at h
          · rename_i hc; rw [if_pos hc] at e; exact e rfl
          · simp at h
    · rename_i hm
      rw [if_neg hm] at e
      exact e rfl
theorem upd_err {l : List Cl} {k x : List UInt8} (h : (updL l k x).2 ≠ 0) : (updL l k x).1 = l := by
  by_cases e : (updL l k x).1 = l
  · exact e
  · exfalso
    unfold updL at h e
    split at h
    · rename_i hm
      rw [if_pos hm] at e
      split at h
      · rename_i hf
        rw [hf] at e
        dsimp only at e
        unfold fillL at h e
        split at h
        · rename_i hc; rw [if_pos hc] at e; exact e rfl
        · simp at h
      · rename_i hf
        rw [hf] at e
        exact e rfl
    · rename_i hm
      rw [if_neg hm] at e
      exact e rfl

theorem cells_two' {W : World} {b : Nat} {a1 a2 : Value} {t : TypeId} (h : W.heap[b]? = some (.cells #[a1, a2] t)) : ∀ j u, [a1, a2][j]? = some u → W.cell? ((⟨b, 0, none⟩ : Addr).add j) = some u := cells_two h
theorem pg_grown {W W' : World} {B D p : Nat} {id : Int} {lsn : Nat} {v vv : Value} {l : List Cl} {n : Nat} {xs : List Value} (h : PgOk W B p id lsn v l) (hr : W.ownsRow D 59 2 vv n xs) (hg : W.grownBy W' vv.ownBlock) : PgOk W' B p id lsn v l := by
  have key : ∀ (b : Nat) (cs : Array Value) (t : TypeId), t ≠ 59 → W.heap[b]? = some (Obj.cells cs t (0, 0)) → W'.heap[b]? = some (Obj.cells cs t (0, 0)) := fun b cs t ht hb => by
    rw [hg.block b (lt_of_blk hb) (fun e => ?_)]
    · exact hb
    · rcases hr.2 with ⟨h3, _⟩ | ⟨g', cap', cur', h3, _, hh', _⟩
      · rw [h3] at e; simp [Value.ownBlock] at e
      · rw [h3] at e
        simp [Value.ownBlock] at e
        subst e
        rw [hb] at hh'
        simp at hh'
        exact ht hh'.2
  refine ⟨key _ _ _ (by decide) h.blk, ⟨h.own.1, ?_⟩, h.ne, h.base⟩
  rcases h.own.2 with h2 | ⟨g, cap, cur, hv, hD, hh, r⟩
  · exact .inl h2
  · exact .inr ⟨g, cap, cur, hv, hD, key _ _ _ (by decide) hh, r⟩
theorem ownP_some {W : World} {D n c : Nat} {a : Option Addr} {xs : List Value} (h : W.ownsRow D 59 2 (.slice a n c) n xs) (hn : 0 < n) : ∃ g cur, a = some ⟨g, 0, none⟩ ∧ n ≤ c ∧ g < W.heap.size ∧ W.heap[g]? = some (.cells cur 59 (0, 0)) := by
  rcases h.2 with ⟨h1, h2⟩ | ⟨g, cap, cur, h1, hB, hh, hc, _⟩
  · omega
  · injection h1 with e1 e2 e3
    subst e3
    exact ⟨g, cur, e1, hc, lt_of_blk hh, hh⟩
theorem Kp7.touch {w W W' : World} {id : Int} {v : Value} {L : List Cl} {a : Option Addr} {c : Nat} {M : List Pq} (h : Kp7 w id v L a c M W) (ht : Touch w.heap.size v.ownBlock W W') : Below w.heap.size w W' :=
  h.low.trans (ht.below (Nat.le_refl _) (fun k hk => (World.ownsRow.lt h.pg.own k hk).1) h.low.size)

theorem operwp_append (o : Oper) (a : Act) (w : World) (K : Act → World → Prop) (Q : Exit → Act → World → Prop) (s x : Operand) (t : TypeId) (ho : o.op = .call { callee := .builtin .append, args := #[s, x], argTypes := #[t, t] }) (v xv : Value) (hs : a.eval s = v) (hx : a.eval x = xv) (v' : Value) (w' : World)
    (hr : (Builtin.append_ #[t, t] o.type #[v, xv]).run Try.prog w = .ok v' w') (hK : K (a.put o.dst v') w') : Oper.wp Try.prog o a w K Q := by
  unfold Oper.wp execOp
  simp only [ho, resolve, invoke, builtin, Sem.run_bind, Sem.run_pure, Result.andThen_ok, List.map_toArray, List.map_cons, List.map_nil, hs, hx, hr]
  exact hK

end Go.Proofs.Ytoahcihhpimmgaa
