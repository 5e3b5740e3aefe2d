/-
  What is granted comes through a closure: a row of grants in a variable.
-/
import Derived.Test.YtclppfljengnbaaGreatAo
import Derived.Deep.RegionLaw
import Derived.OwnWalk
import Derived.BigRegion
namespace Go.Proofs.YtclppfljengnbaaGreat
open Go.RowKit Go.Maps

/-- A row that another one grew into lies where it lay, or is new. -/
def Fresh (w : World) (v v' : Value) : Prop := ∀ k, v'.ownBlock = some k → v.ownBlock = some k ∨ w.heap.size ≤ k

theorem Fresh.refl (w : World) (v : Value) : Fresh w v v := fun _ h => .inl h

theorem run_append_fresh {P : Program} (w : World) (base : Nat) (t ty e : TypeId) (i : TypeInfo) (z : Value) (size bytes : Nat) (ht : P.underlying t = some (.slice e)) (hi : P.info? e = some i) (hz : i.zero = some z)
    (hsize : i.size = size) (hby : i.bytes = bytes) (hzs : z.cells.size = size) (hsz : 0 < size)
    (v : Value) (n : Nat) (xs : List Value) (hown : w.ownsRow base e size v n xs)
    (a : Addr) (m c : Nat) (news : List Value) (hl : news.length = m * size) (hnews : ∀ j u, news[j]? = some u → w.cell? (a.add j) = some u) (h1 : ∀ u ∈ news, u.oneCell' = true)
    (h63 : n + m ≤ maxLen) (hbytes : (n + m) * bytes ≤ 140737488355328) (hbase : base ≤ w.heap.size) :
    ∃ v' w', (Builtin.append_ #[t, t] ty #[v, .slice (some a) m c]).run P w = .ok v' w' ∧ w'.ownsRow base e size v' (n + m) (xs ++ news) ∧ w.grownBy w' v.ownBlock ∧ Fresh w v v' := by
  obtain ⟨v', w', hr, h2, h3, h4⟩ := run_append_own (P := P) w base t ty e i z size bytes ht hi hz hsize hby hzs hsz v n xs hown a m c news hl hnews h1 h63 hbytes hbase
  refine ⟨v', w', hr, h2, h3, ?_⟩
  subst hsize
  subst hby
  rcases hown.2 with ⟨rfl, rfl⟩ | ⟨g, cap, cur, rfl, hbg, hg, hnc, hcm, hcs, htake⟩
  · by_cases hm : m = 0
    · rw [h4.mpr ⟨rfl, hm⟩]
      exact Fresh.refl _ _
    · have hx : xs = [] := List.eq_nil_of_length_eq_zero (by simpa using hown.1)
      subst hx
      have hr2 := run_append_nil (P := P) w t ty e i z ht hi hz a m c news hl hnews (by omega) (by simp only [maxLen] at h63; omega) (by have hb := hbytes; simp only [Nat.zero_add] at hb; omega)
      rw [hr] at hr2
      injection hr2 with e1 e2
      subst e1
      intro k hk
      simp [Value.ownBlock] at hk
      exact .inr (by omega)
  · by_cases hroom : n + m ≤ cap
    · have hfit : n * i.size + news.length ≤ cur.size := by rw [hl, hcs, ← Nat.add_mul]; exact Nat.mul_le_mul_right _ hroom
      have hr2 := run_append_room (P := P) w t ty e i ht hi g n cap cur hg a m c news hl hnews h1 hroom hfit
      rw [hr] at hr2
      injection hr2 with e1 e2
      subst e1
      intro k hk
      exact .inl hk
    · have holds : ∀ j u, xs[j]? = some u → w.cell? ((⟨g, 0, none⟩ : Addr).add j) = some u := hown.cells (g := g) rfl
      have hr2 := run_append_grow (P := P) w t ty e i z ht hi hz ⟨g, 0, none⟩ n cap xs hown.1 holds a m c news hl hnews (by omega) (by simp only [maxLen] at h63; omega) (growslice_fits (by omega) hbytes)
      rw [hr] at hr2
      injection hr2 with e1 e2
      subst e1
      intro k hk
      simp [Value.ownBlock] at hk
      exact .inr (by omega)

/-- An append to an owned row, as one step of a region that draws its order; and where it lies. -/
theorem step_append_fresh {P : Program} {ops : Array Oper} {o : Oper} {a : Act} {w : World} {K : Act → World → Prop} {Q : Exit → Act → World → Prop} {E : Prop}
    (hg : o.guard = none) (s x : Operand) (t : TypeId) (hop : o.op = Op.call { callee := Callee.builtin Builtin.append, args := #[s, x], argTypes := #[t, t] })
    (base : Nat) (e : TypeId) (i : TypeInfo) (z : Value) (size bytes : Nat) (h1 : P.underlying t = some (.slice e)) (h2 : P.info? e = some i) (h3 : i.zero = some z) (h4 : i.size = size) (h5 : i.bytes = bytes) (h6 : z.cells.size = size) (h7 : 0 < size)
    (v : Value) (n : Nat) (xs : List Value) (hs : a.eval s = v) (hown : w.ownsRow base e size v n xs)
    (ad : Addr) (m c : Nat) (news : List Value) (hx : a.eval x = .slice (some ad) m c) (hn : news.length = m * size) (hc : ∀ j u, news[j]? = some u → w.cell? (ad.add j) = some u) (h1c : ∀ u ∈ news, u.oneCell' = true)
    (b1 : n + m ≤ maxLen) (b2 : (n + m) * bytes ≤ 140737488355328) (hb : base ≤ w.heap.size)
    (hK : ∀ v' w', w'.ownsRow base e size v' (n + m) (xs ++ news) → w.grownBy w' v.ownBlock → Fresh w v v' → K (a.put o.dst v') w') :
    if Region.wanted o (yielded ops a.tmps) = true then Oper.wp P o a w K Q else E := by
  have hw : Region.wanted o (yielded ops a.tmps) = true := by simp [Region.wanted, hg]
  rw [if_pos hw]
  obtain ⟨v', w', hrun, r1, r2, r3⟩ := run_append_fresh (P := P) w base t o.type e i z size bytes h1 h2 h3 h4 h5 h6 h7 v n xs hown ad m c news hn hc h1c b1 b2 hb
  unfold Oper.wp
  simp [execOp, hop, resolve, invoke, builtin, hs, hx, hrun, Result.andThen]
  exact hK v' w' r1 r2 r3


theorem addr_add (g j : Nat) : (⟨g, 0, none⟩ : Addr).add j = ⟨g, j, none⟩ := by unfold Addr.add; split <;> simp_all
theorem cell3 {w : World} {g : Nat} {a b c : Value} {t : TypeId} (h : w.heap[g]? = some (.cells #[a, b, c] t)) : w.cell? ⟨g, 0, none⟩ = some a ∧ w.cell? ⟨g, 1, none⟩ = some b ∧ w.cell? ⟨g, 2, none⟩ = some c := by
  simp [World.cell?, h]
theorem cell_three_new (w : World) (a b c : Value) (t : TypeId) : ∀ j u, [a, b, c][j]? = some u → ((w.alloc (.cells #[a, b, c] t)).drew).cell? ((⟨w.heap.size, 0, none⟩ : Addr).add j) = some u := by
  intro j u hu
  rw [addr_add]
  have hk : (w.alloc (.cells #[a, b, c] t)).drew.heap[w.heap.size]? = some (.cells #[a, b, c] t) := heap_alloc_new w _
  obtain ⟨q0, q1, q2⟩ := cell3 hk
  match j, hu with
  | 0, hu => simp at hu; rw [← hu]; exact q0
  | 1, hu => simp at hu; rw [← hu]; exact q1
  | 2, hu => simp at hu; rw [← hu]; exact q2
  | j + 3, hu => simp at hu
theorem ownsRow_shape {w : World} {B : Nat} {e : TypeId} {size : Nat} {v : Value} {n : Nat} {xs : List Value} (h : w.ownsRow B e size v n xs) : ∃ a c, v = .slice a n c := by
  rcases h.2 with ⟨rfl, rfl⟩ | ⟨g, cap, cur, rfl, _⟩
  · exact ⟨_, _, rfl⟩
  · exact ⟨_, _, rfl⟩
theorem ownsRow_at {w w' : World} {B : Nat} {e : TypeId} {size : Nat} {v : Value} {n : Nat} {xs : List Value} (h : w.ownsRow B e size v n xs) (hb : ∀ k, v.ownBlock = some k → w'.heap[k]? = w.heap[k]?) : w'.ownsRow B e size v n xs := by
  refine ⟨h.1, ?_⟩
  rcases h.2 with h2 | ⟨g, cap, cur, hv, hg, hh, r⟩
  · exact .inl h2
  · exact .inr ⟨g, cap, cur, hv, hg, (hb g (by rw [hv]; rfl)).trans hh, r⟩
theorem ownsRow_blk {w : World} {B : Nat} {e : TypeId} {size : Nat} {v : Value} {n : Nat} {xs : List Value} (h : w.ownsRow B e size v n xs) {k : Nat} (hk : v.ownBlock = some k) : B ≤ k ∧ k < w.heap.size := by
  rcases h.2 with ⟨rfl, _⟩ | ⟨g, cap, cur, rfl, hg, hh, r⟩
  · cases hk
  · have hk : g = k := by simpa [Value.ownBlock] using hk
    subst hk
    exact ⟨hg, lt_of_heap hh⟩

abbrev Gr := Int × Name × Nat
def gcells (l : List Gr) : List Value := l.flatMap fun g => [.int .i64 g.1, nmV g.2.1, .int .i64 ((g.2.2 : Nat) : Int)]
theorem gcells_append (l m : List Gr) : gcells (l ++ m) = gcells l ++ gcells m := by simp [gcells]

/-- Grants so far, in the variable g0; nothing of it is the table's. -/
def Got (w : World) (σ : Sg) (g0 : Nat) (l : List Gr) : Prop :=
  ∃ v, w.heap[g0]? = some (.cells #[v] 50) ∧ σ.own g0 = .no ∧ w.ownsRow (g0 + 1) 53 3 v l.length (gcells l) ∧ ∀ g, v.ownBlock = some g → σ.own g = .no

theorem Got.step {w w' : World} {σ σ' : Sg} {g0 : Nat} {l : List Gr} (h : Got w σ g0 l) (s : Step w σ w' σ') : Got w' σ' g0 l := by
  obtain ⟨v, h1, h2, h3, h4⟩ := h
  have hn : ∀ i, i < w.heap.size → σ.own i = .no → σ'.own i = .no := fun i hi ho => Classical.byContradiction fun e => by
    rcases s.own i e with h5 | h5
    · exact h5 ho
    · omega
  exact ⟨v, (s.turn.block g0 (lt_of_heap h1) (fun e => e h2)).trans h1, hn g0 (lt_of_heap h1) h2, ownsRow_at h3 (fun k hk => s.turn.block k (ownsRow_blk h3 hk).2 (fun e => e (h4 k hk))), fun g hg => hn g (ownsRow_blk h3 hg).2 (h4 g hg)⟩

/-- As Step, but blocks from g0 on may turn, too. -/
structure StepK (g0 : Nat) (w : World) (σ : Sg) (w' : World) (σ' : Sg) : Prop where
  turn : Turn (fun i => σ.own i ≠ .no ∨ g0 ≤ i) w w'
  own : ∀ i, σ'.own i ≠ .no → σ.own i ≠ .no ∨ w.heap.size ≤ i
  top : σ'.T = σ.T
  tag : ∀ i, σ.own i ≠ .no → σ'.own i = σ.own i
theorem StepK.refl (g0 : Nat) (w : World) (σ : Sg) : StepK g0 w σ w σ := ⟨Turn.refl _ _, fun _ h => .inl h, rfl, fun _ _ => rfl⟩
theorem StepK.trans {g0 : Nat} {w1 w2 w3 : World} {a b c : Sg} (h : StepK g0 w1 a w2 b) (k : Step w2 b w3 c) : StepK g0 w1 a w3 c :=
  ⟨h.turn.trans k.turn fun i hi => (h.own i hi).elim (fun e => .inl (.inl e)) .inr, fun i hi => (k.own i hi).elim (h.own i) fun h1 => .inr (Nat.le_trans h.turn.size h1), k.top.trans h.top, fun i hi => (k.tag i (by rw [h.tag i hi]; exact hi)).trans (h.tag i hi)⟩

theorem info79 : (Tryz.prog.info? 53).map (fun i => (i.zero, i.size, i.bytes)) = some (some (.agg #[.int .i64 0, .string ⟨#[]⟩, .int .i64 0]), 3, 32) := by kernel_rfl

section
variable {KT KN : List Lit} {w w0 : World} {σ σ0 : Sg} {z g0 : Nat} {l : List Gr}

set_option maxRecDepth 100000 in
set_option maxHeartbeats 4000000 in
theorem tell52 (h : Mem KT KN w σ) (hz : IsW (σ.own z)) (hg : Got w σ g0 l) (hl : l.length ≤ 1000000000) (hs : StepK g0 w0 σ0 w σ) :
    Calls Tryz.prog 70 #[.pointer (some ⟨z, 0, none⟩), .pointer (some ⟨g0, 0, none⟩)] w fun e w' => e = .returned (.tuple #[]) ∧ Mem KT KN w' σ ∧ Got w' σ g0 (l ++ [((σ.nd z).t, (σ.nd z).n, (σ.nd z).m)]) ∧ StepK g0 w0 σ0 w' σ := by
  obtain ⟨v, g1, g2, g3, g4⟩ := hg
  obtain ⟨z0, z1, z2, _⟩ := (h.hW z hz).cells
  obtain ⟨i0, hi, hz0, hz1, hz2⟩ := info_parts info79
  obtain ⟨va, vc, rfl⟩ := ownsRow_shape g3
  have c0 : w.cell? ⟨g0, 0, none⟩ = some (.slice va l.length vc) := by simp [World.cell?, g1]
  have hb : g0 + 1 ≤ w.heap.size := lt_of_heap g1
  have HG3 := toHid g3
  have HFin := toHid (show ∀ v' w3, w3.ownsRow (g0 + 1) 53 3 v' (l.length + 1) (gcells l ++ [.int .i64 (σ.nd z).t, nmV (σ.nd z).n, .int .i64 (((σ.nd z).m : Nat) : Int)]) → ((w.alloc (.cells #[.int .i64 (σ.nd z).t, nmV (σ.nd z).n, .int .i64 (((σ.nd z).m : Nat) : Int)] 53)).drew).grownBy w3 (Value.slice va l.length vc).ownBlock →
      Fresh ((w.alloc (.cells #[.int .i64 (σ.nd z).t, nmV (σ.nd z).n, .int .i64 (((σ.nd z).m : Nat) : Int)] 53)).drew) (.slice va l.length vc) v' →
      (∃ u, w3.cell? ⟨g0, 0, none⟩ = some u) ∧ w3.frozen? ⟨g0, 0, none⟩ = false ∧ Mem KT KN (w3.setCell ⟨g0, 0, none⟩ v') σ ∧ Got (w3.setCell ⟨g0, 0, none⟩ v') σ g0 (l ++ [((σ.nd z).t, (σ.nd z).n, (σ.nd z).m)]) ∧ StepK g0 w0 σ0 (w3.setCell ⟨g0, 0, none⟩ v') σ from fun v' w3 o1 o2 o3 => by
    have hbl : Below w.heap.size w ((w.alloc (.cells #[.int .i64 (σ.nd z).t, nmV (σ.nd z).n, .int .i64 (((σ.nd z).m : Nat) : Int)] 53)).drew) := ((Below.refl _ _).alloc (Nat.le_refl _) _).drew
    have hsz : ((w.alloc (.cells #[.int .i64 (σ.nd z).t, nmV (σ.nd z).n, .int .i64 (((σ.nd z).m : Nat) : Int)] 53)).drew).heap.size = w.heap.size + 1 := by show (w.alloc _).heap.size = _; simp
    generalize ((w.alloc (.cells #[.int .i64 (σ.nd z).t, nmV (σ.nd z).n, .int .i64 (((σ.nd z).m : Nat) : Int)] 53)).drew) = w2 at *
    have hne : ∀ k, (Value.slice va l.length vc).ownBlock = some k → g0 < k := fun k hk => (ownsRow_blk HG3.out hk).1
    have e3 : w3.heap[g0]? = some (.cells #[.slice va l.length vc] 50) := by
      rw [o2.block g0 (by omega) (fun e => absurd (hne g0 e.symm) (Nat.lt_irrefl _)), hbl.block g0 (by omega)]
      exact g1
    have T : Turn (fun i => i = g0 ∨ (Value.slice va l.length vc).ownBlock = some i) w (w3.setCell ⟨g0, 0, none⟩ v') :=
      ((Turn.of_below hbl _).trans (Turn.of_grown o2) (fun i hi => .inl (.inr hi.symm))).trans (Turn.setCell w3 ⟨g0, 0, none⟩ v') (fun i hi => .inl (.inl hi))
    have hno : ∀ i, i = g0 ∨ (Value.slice va l.length vc).ownBlock = some i → σ.own i = .no := fun i hi => hi.elim (fun e => by rw [e]; exact g2) (fun e => g4 i e)
    refine ⟨⟨.slice va l.length vc, by simp [World.cell?, e3]⟩, by simp [World.frozen?, e3], h.keep T hno, ⟨v', ?_, g2, ?_, fun g hg => ?_⟩, ⟨hs.turn.trans T fun i hi => .inl (.inr ?_), hs.own, hs.top, hs.tag⟩⟩
    · rw [heap_setCell_same w3 g0 0 _ _ _ e3]
      simp
    · have : (w3.setCell ⟨g0, 0, none⟩ v').ownsRow (g0 + 1) 53 3 v' (l.length + 1) (gcells l ++ [.int .i64 (σ.nd z).t, nmV (σ.nd z).n, .int .i64 (((σ.nd z).m : Nat) : Int)]) :=
        ownsRow_at o1 fun k hk => (Turn.setCell w3 ⟨g0, 0, none⟩ v').block k (ownsRow_blk o1 hk).2 (fun e => by have := (ownsRow_blk o1 hk).1; have e : k = g0 := e; omega)
      rw [gcells_append, List.length_append]
      exact this
    · rcases o3 g hg with h5 | h5
      · exact g4 g h5
      · exact own_new h (by omega)
    · rcases hi with hi | hi
      · omega
      · have := hne i hi; omega)
  clear h hs g1 g2 g4 hz
  generalize (σ.nd z).t = dt at *
  generalize (σ.nd z).n = dn at *
  generalize (σ.nd z).m = dm at *
  have c0' : (w.alloc (.cells #[.int .i64 dt, nmV dn, .int .i64 ((dm : Nat) : Int)] 53)).cell? ⟨g0, 0, none⟩ = some (.slice va l.length vc) := (((Below.refl w.heap.size w).alloc (Nat.le_refl _) _).cell (p := ⟨g0, 0, none⟩) (by show g0 < _; omega)).trans c0
  go_enter Tryz.func70, Tryz.ntmps70
  go_wp2_with fail
  go_region_law (refine step_append_fresh rfl (.tmp 3) (.tmp 13) 50 rfl (g0 + 1) 53 i0 _ 3 32 Tryz.underlying50 hi hz0 hz1 hz2 rfl (by decide) _ _ _ rfl (HG3.out.alloc _).drew ⟨w.heap.size, 0, none⟩ 1 1 [_, _, _] rfl rfl (cell_three_new _ _ _ _ _) (by intro u hu; simp at hu; rcases hu with rfl | rfl | rfl <;> rfl) (by unfold maxLen; omega) (by omega) (by simp; omega) ?_; intro v' w3 o1 o2 o3; obtain ⟨⟨u, q1⟩, q2, q3⟩ := HFin.out v' w3 o1 o2 o3; have HQ := toHid q3; obtain ⟨ay, cy, rfl⟩ := ownsRow_shape o1; clear o1 o2 o3 q3)
  all_goals
    try go_wp2_with fail
    go_end0
    exact ⟨rfl, HQ.out⟩
end

end Go.Proofs.YtclppfljengnbaaGreat
