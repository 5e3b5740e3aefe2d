/-
  Rows cut and put together; an append of what lies anywhere, or is nil, as a step of a drawn region.
-/
import Derived.Test.YticnkppnpfgceaaFRa
import Derived.Deep.RegionLaw
import Derived.Deep.DeepCutAuto
namespace Go.Proofs.Yticnkppnpfgceaa.Mg
open Go.RowKit

theorem tCells_take (T : List (Int × Gt)) (p : Nat) : ∀ (j : Nat) (u : Value), (tCells (T.take p))[j]? = some u → (tCells T)[j]? = some u := fun j u hu => by
  have e : tCells T = tCells (T.take p) ++ tCells (T.drop p) := by unfold tCells; rw [← List.flatMap_append, List.take_append_drop]
  have hj : j < (tCells (T.take p)).length := (List.getElem?_eq_some_iff.1 hu).1
  rw [e, List.getElem?_append_left hj]
  exact hu
theorem nCells_take (T : List (Int × Gt)) (p : Nat) : ∀ (j : Nat) (u : Value), (nCells (T.take p))[j]? = some u → (nCells T)[j]? = some u := fun j u hu => by
  have e : nCells T = nCells (T.take p) ++ nCells (T.drop p) := by unfold nCells; rw [← List.map_append, List.take_append_drop]
  have hj : j < (nCells (T.take p)).length := (List.getElem?_eq_some_iff.1 hu).1
  rw [e, List.getElem?_append_left hj]
  exact hu
theorem tCells_len (T : List (Int × Gt)) : (tCells T).length = T.length * 3 := flat_len _ 3 (fun _ => rfl) T
theorem nCells_len (T : List (Int × Gt)) : (nCells T).length = T.length := by simp [nCells]
theorem tCells_drop (T : List (Int × Gt)) {p : Nat} (hp : p ≤ T.length) : ∀ (j : Nat) (u : Value), (tCells (T.drop p))[j]? = some u → (tCells T)[p * 3 + j]? = some u := fun j u hu => by
  have e : tCells T = tCells (T.take p) ++ tCells (T.drop p) := by unfold tCells; rw [← List.flatMap_append, List.take_append_drop]
  have hl : (tCells (T.take p)).length = p * 3 := by rw [tCells_len]; simp; omega
  rw [e, List.getElem?_append_right (by omega), hl, Nat.add_sub_cancel_left]
  exact hu
theorem nCells_drop (T : List (Int × Gt)) {p : Nat} (hp : p ≤ T.length) : ∀ (j : Nat) (u : Value), (nCells (T.drop p))[j]? = some u → (nCells T)[p + j]? = some u := fun j u hu => by
  have e : nCells T = nCells (T.take p) ++ nCells (T.drop p) := by unfold nCells; rw [← List.map_append, List.take_append_drop]
  have hl : (nCells (T.take p)).length = p := by rw [nCells_len]; simp; omega
  rw [e, List.getElem?_append_right (by omega), hl, Nat.add_sub_cancel_left]
  exact hu
theorem tCells_one (T : List (Int × Gt)) : ∀ u ∈ tCells T, u.oneCell' = true := by
  intro u hu
  unfold tCells at hu
  obtain ⟨p, _, h⟩ := List.mem_flatMap.1 hu
  simp at h
  rcases h with rfl | rfl | rfl <;> rfl
theorem nCells_one (T : List (Int × Gt)) : ∀ u ∈ nCells T, u.oneCell' = true := by
  intro u hu
  unfold nCells at hu
  obtain ⟨p, _, rfl⟩ := List.mem_map.1 hu
  rfl
theorem other_row {W W' : World} {B e f s t n m : Nat} {v u : Value} {xs ys : List Value} (hv : W.ownsRow B e s v n xs) (hu : W.ownsRow B f t u m ys) (hef : e ≠ f) (hg : W.grownBy W' v.ownBlock) : W'.ownsRow B f t u m ys :=
  own_stay hu fun k _ _ hc => hg.block k (some_lt hc) (fun e2 => by
    obtain ⟨_, cur, h4⟩ := own_kind hv e2.symm
    exact kind_block h4 hc hef rfl)
theorem row_low {w1 W W' : World} {B e s n : Nat} {v : Value} {xs : List Value} (h : Below B w1 W) (hB : B ≤ W.heap.size) (hv : W.ownsRow B e s v n xs) (hg : W.grownBy W' v.ownBlock) : Below B w1 W' :=
  h.trans ((Turn.of_grown hg).below hB fun i hi e2 => by have := (own_blk hv e2.symm).1; omega)
theorem add_add (g o i j : Nat) : ((⟨g, o, none⟩ : Addr).add i).add j = (⟨g, o, none⟩ : Addr).add (i + j) := by rw [add_plain, add_plain, add_plain, Nat.add_assoc]
theorem lfr_put3 {W : World} {B g : Nat} {vt vn vd a b c : Value} {T : List (Int × Gt)} {Dd : List (Int × Nat)} (hT : W.ownsRow B 57 3 vt T.length (tCells T)) (hN : W.ownsRow B 30 1 vn T.length (nCells T)) (hD : W.ownsRow 0 60 2 vd Dd.length (dCells Dd)) (hg : W.heap[g]? = some (.cells #[a, b, c] 37)) (p q r : Value) :
    LfR (((W.setCell ⟨g, 0, none⟩ p).setCell ⟨g, 1, none⟩ q).setCell ⟨g, 2, none⟩ r) 0 vt vn vd ⟨T, Dd⟩ := by
  have key : ∀ (k : Nat) (cs : Array Value) (e : TypeId), W.heap[k]? = some (Obj.cells cs e) → e ≠ 37 → (((W.setCell ⟨g, 0, none⟩ p).setCell ⟨g, 1, none⟩ q).setCell ⟨g, 2, none⟩ r).heap[k]? = W.heap[k]? := fun k cs e hk he => by
    have hne : k ≠ g := kind_block hk hg he
    rw [Below.heap_setCell _ _ _ _ hne, Below.heap_setCell _ _ _ _ hne, Below.heap_setCell _ _ _ _ hne]
  exact ⟨ownsRow_base (own_stay hT fun k c _ hc => key k c _ hc (by decide)) (Nat.zero_le _), ownsRow_base (own_stay hN fun k c _ hc => key k c _ hc (by decide)) (Nat.zero_le _), own_stay hD fun k c _ hc => key k c _ hc (by decide)⟩
theorem lfr_base {W : World} {B e s n : Nat} {v : Value} {xs : List Value} (h : W.ownsRow B e s v n xs) : W.ownsRow 0 e s v n xs := ownsRow_base h (Nat.zero_le _)
abbrev txC3 (id : Int) (g : Gt) : Array Value := #[.int .i64 id, .int .i64 g.st, .int .u64 (g.last : Int)]

/-- An append to an owned row of what lies anywhere, or is nil, as one step of a region that draws its order. -/
theorem step_append_src {P : Program} {ops : Array Oper} {o : Oper} {a : Act} {w : World} {K : Act → World → Prop} {Q : Exit → Act → World → Prop} {E : Prop}
    (hg : o.guard = none) (s x : Operand) (t : TypeId) (hop : o.op = Op.call { callee := Callee.builtin Builtin.append, args := #[s, x], argTypes := #[t, t] })
    (base : Nat) (e : TypeId) (i : TypeInfo) (z : Value) (size bytes : Nat) (h1 : P.underlying t = some (.slice e)) (h2 : P.info? e = some i) (h3 : i.zero = some z) (h4 : i.size = size) (h5 : i.bytes = bytes) (h6 : z.cells.size = size) (h7 : 0 < size)
    (v : Value) (n : Nat) (xs : List Value) (hs : a.eval s = v) (hown : w.ownsRow base e size v n xs)
    (sa : Option Addr) (m c : Nat) (news : List Value) (hx : a.eval x = .slice sa m c) (hnil : sa = none → m = 0 ∧ c = 0) (hn : news.length = m * size) (hc : ∀ y, sa = some y → ∀ j u, news[j]? = some u → w.cell? (y.add j) = some u) (h1c : ∀ u ∈ news, u.oneCell' = true)
    (b1 : n + m ≤ maxLen) (b2 : (n + m) * bytes ≤ 140737488355328) (hb : base ≤ w.heap.size)
    (hK : ∀ v' w', w'.ownsRow base e size v' (n + m) (xs ++ news) → w.grownBy w' v.ownBlock → K (a.put o.dst v') w') :
    if Region.wanted o (yielded ops a.tmps) = true then Oper.wp P o a w K Q else E := by
  cases sa with
  | some y => exact step_append_own hg s x t hop base e i z size bytes h1 h2 h3 h4 h5 h6 h7 v n xs hs hown y m c news hx hn (hc y rfl) h1c b1 b2 hb hK
  | none =>
    obtain ⟨rfl, rfl⟩ := hnil rfl
    have hy : news = [] := List.eq_nil_of_length_eq_zero (by simpa using hn)
    subst hy
    have hw : Region.wanted o (yielded ops a.tmps) = true := by simp [Region.wanted, hg]
    rw [if_pos hw]
    have hrun := run_append_owned_none (P := P) (w := w) base t o.type e i size h1 h2 v n xs hown
    unfold Oper.wp
    simp [execOp, hop, resolve, invoke, builtin, hs, hx, hrun, Result.andThen]
    exact hK _ _ (by simpa using hown) (grownBy_refl _ _)
end Go.Proofs.Yticnkppnpfgceaa.Mg
