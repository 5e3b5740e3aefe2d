/-
  Of no program: a map told by a function from keys to the very values that lie in it; a range over one; blocks that turn.
-/
import Derived.WalkKit
import Derived.WalkSpells
import Derived.WalkLawsBesides
import Derived.Below
import Derived.Laws.AppendOwnNone
import Derived.Lib.OwnKind
import Derived.Lib.Hide
import Derived.Maps.RangeWalk
import Derived.Maps.Ext
import Derived.Test.YticnkppnpfgceaaMHm
namespace Go.Proofs.Yticnkppnpfgceaa.Mg
open Go.RowKit Go.Maps

noncomputable instance : DecidableEq Lit := fun _ _ => Classical.propDecidable _

/-- A function with one value turned. -/
noncomputable def upd {α β : Type} (f : α → β) (k : α) (v : β) : α → β := fun x => @ite _ (x = k) (Classical.propDecidable _) v (f x)
theorem upd_same {α β : Type} (f : α → β) (k : α) (v : β) : upd f k v k = v := by simp [upd]
theorem upd_other {α β : Type} (f : α → β) {k x : α} (v : β) (h : x ≠ k) : upd f k v x = f x := by simp [upd, h]

def vEl (v : Value) : Option (DataW Value × List MemPlace) := some (.held v, [])
def heldOr (o : Option Value) (z : DataW Value) : DataW Value := match o with
  | some v => .held v
  | none => z

theorem nodup_le' : ∀ {l T : List Lit}, l.Nodup → (∀ x, x ∈ l → x ∈ T) → l.length ≤ T.length
  | [], _, _, _ => Nat.zero_le _
  | a :: r, T, hn, hs => by
    obtain ⟨h1, h2⟩ := List.nodup_cons.1 hn
    have ha : a ∈ T := hs a (by simp)
    have := nodup_le' (T := T.erase a) h2 (fun x hx => (List.mem_erase_of_ne (fun e : x = a => h1 (by rw [← e]; exact hx))).2 (hs x (by simp [hx])))
    rw [List.length_erase_of_mem ha] at this
    have := List.length_pos_of_mem ha
    simp
    omega

section
variable {P : Program} {k : TypeId} {w : World} {A : Nat} {K : List Lit}

/-- What a datum is: at each key what f tells. -/
structure Tells (D : DataW Value) (K : List Lit) (f : Lit → Option Value) : Prop where
  at' : ∀ x z, D.atKey x z = heldOr (f x) z
  has : ∀ x, Maps.has D x = (f x).isSome
  keys : ∀ x, f x ≠ none → x ∈ K

/-- Block A is a map: f tells what lies at each key; K are the keys that may be. -/
def MapV (P : Program) (k : TypeId) (w : World) (A : Nat) (K : List Lit) (f : Lit → Option Value) : Prop :=
  ∃ D, w.ownsMap P k vEl A K.length D ∧ Tells D K f
/-- A map under way in a range. -/
def RngV (P : Program) (k : TypeId) (w : World) (A r : Nat) (K : List Lit) (f : Lit → Option Value) (left : Lit → Bool) (cnt : Nat) : Prop :=
  ∃ D, w.ranges P k vEl A r K.length D left cnt ∧ Tells D K f

variable {f : Lit → Option Value} {left : Lit → Bool} {r cnt : Nat}

theorem tight {n : Nat} {D : DataW Value} (h : w.ownsMap P k vEl A n D) (Kd : Keyed P k) (hs : ∀ x, Maps.has D x = true → x ∈ K) : w.ownsMap P k vEl A K.length D := by
  obtain ⟨es, e, h1, h2⟩ := h.entries Kd
  have hl : es.length ≤ K.length := by
    have := nodup_le' (l := es.map Prod.fst) (T := K) (by
      rw [List.Nodup, List.pairwise_map]
      exact h1) (fun x hx => by
      obtain ⟨p, hp, rfl⟩ := List.mem_map.1 hx
      refine hs _ ?_
      rw [e, has_eq]
      exact List.any_eq_true.2 ⟨p, hp, WideAt.sameKey_self (h2 p hp)⟩)
    simpa using this
  have e2 := e
  obtain ⟨es', c, g1, g2, g3, g4⟩ := h
  refine ⟨es', c, g1, g2, ?_, g4⟩
  rw [g4] at e2
  injection e2 with e2
  have := congrArg List.length e2
  rw [length_sorted] at this
  simp at this
  omega

theorem MapV.lt (h : MapV P k w A K f) : A < w.heap.size := by obtain ⟨_, h, _⟩ := h; exact h.lt
theorem MapV.blk (h : MapV P k w A K f) : ∃ es c, w.heap[A]? = some (.map es c) := by obtain ⟨_, ⟨es, c, h, _⟩, _⟩ := h; exact ⟨es, c, h⟩
theorem MapV.at (h : MapV P k w A K f) {w' : World} (e : w'.heap[A]? = w.heap[A]?) : MapV P k w' A K f := by
  obtain ⟨D, ⟨es, c, h2, h3⟩, h4⟩ := h
  exact ⟨D, ⟨es, c, e.trans h2, h3⟩, h4⟩
theorem MapV.congr (h : MapV P k w A K f) {g : Lit → Option Value} (e : ∀ x, f x = g x) : MapV P k w A K g := by
  have : f = g := funext e
  exact this ▸ h
theorem MapV.grow (h : MapV P k w A K f) {K' : List Lit} (hs : ∀ x, x ∈ K → x ∈ K') (hl : K.length ≤ K'.length) : MapV P k w A K' f := by
  obtain ⟨D, h1, h2⟩ := h
  exact ⟨D, h1.mono hl, h2.at', h2.has, fun x hx => hs x (h2.keys x hx)⟩
theorem MapV.made (w : World) : MapV P k (w.alloc (.map #[] 0)) w.heap.size K fun _ => none :=
  ⟨_, (World.ownsMap_made _ _ _ _).mono (Nat.zero_le _), fun _ _ => rfl, fun _ => rfl, fun _ h => absurd rfl h⟩

variable {key : Value} {kl : Lit}

theorem MapV.look {t e : TypeId} {z : Value} (h : MapV P k w A K f) (Kd : Keyed P k) (ht : P.underlying t = some (.map k e)) (hz : ∀ w, (zeroValue e).run P w = .ok z w) (hkey : keyOf P k key = some kl) :
    (Instr.lookup t (.map (some A)) key false).run P w = .ok ((f kl).getD z) w := by
  obtain ⟨D, ho, hf⟩ := h
  obtain ⟨v, ps, hr, hv⟩ := ho.lookup Kd ht (hz w) (zd := .held z) (zp := []) rfl hkey
  rw [hf.at'] at hv
  simp only [vEl, Option.some.injEq, Prod.mk.injEq] at hv
  rw [hr]
  cases e1 : f kl with
  | none => rw [e1] at hv; simp [heldOr] at hv; simp [hv.1]
  | some u => rw [e1] at hv; simp [heldOr] at hv; simp [hv.1]
theorem MapV.look2 {t e : TypeId} {z : Value} (h : MapV P k w A K f) (Kd : Keyed P k) (ht : P.underlying t = some (.map k e)) (hz : ∀ w, (zeroValue e).run P w = .ok z w) (hkey : keyOf P k key = some kl) :
    (Instr.lookup t (.map (some A)) key true).run P w = .ok (.tuple #[(f kl).getD z, .bool (f kl).isSome]) w := by
  obtain ⟨D, ho, hf⟩ := h
  obtain ⟨v, ps, hr, hv⟩ := ho.look_ok Kd ht (hz w) (zd := .held z) (zp := []) rfl hkey
  rw [hf.at'] at hv
  simp only [vEl, Option.some.injEq, Prod.mk.injEq] at hv
  rw [hr, hf.has]
  cases e1 : f kl with
  | none => rw [e1] at hv; simp [heldOr] at hv; simp [hv.1]
  | some u => rw [e1] at hv; simp [heldOr] at hv; simp [hv.1]
theorem Tells.put {D : DataW Value} (hm : IsMap D) (h : Tells D K f) (hk : WideAt.IsKeyLit kl) (v : Value) (hin : kl ∈ K) : Tells (D.put kl (.held v)) K (upd f kl (some v)) := by
  refine ⟨fun x z => ?_, fun x => ?_, fun x hx => ?_⟩
  · by_cases e1 : x = kl
    · subst e1
      rw [upd_same, atKey_put_same hm hk]
      rfl
    · rw [upd_other _ _ e1, atKey_put_other e1, h.at']
  · by_cases e1 : x = kl
    · subst e1
      rw [upd_same, has_put_same hm hk]
      rfl
    · rw [upd_other _ _ e1, has_put_other e1, h.has]
  · by_cases e1 : x = kl
    · rw [e1]; exact hin
    · rw [upd_other _ _ e1] at hx; exact h.keys x hx
theorem Tells.del {D : DataW Value} (h : Tells D K f) : Tells (D.del kl) K (upd f kl none) := by
  refine ⟨fun x z => ?_, fun x => ?_, fun x hx => ?_⟩
  · by_cases e1 : x = kl
    · subst e1
      rw [upd_same, atKey_del_same]
      rfl
    · rw [upd_other _ _ e1, atKey_del_other e1, h.at']
  · by_cases e1 : x = kl
    · subst e1
      rw [upd_same, has_del_same]
      rfl
    · rw [upd_other _ _ e1, has_del_other e1, h.has]
  · by_cases e1 : x = kl
    · subst e1; rw [upd_same] at hx; exact absurd rfl hx
    · rw [upd_other _ _ e1] at hx; exact h.keys x hx
theorem MapV.store {t e : TypeId} (h : MapV P k w A K f) (Kd : Keyed P k) (ht : P.underlying t = some (.map k e)) (hN : K.length < maxLen) (hkey : keyOf P k key = some kl) (hin : kl ∈ K) (v : Value) :
    ∃ w', (Instr.mapUpdate t (.map (some A)) key v).run P w = .ok () w' ∧ MapV P k w' A K (upd f kl (some v)) ∧ w.mapTurned w' A := by
  obtain ⟨D, ho, hf⟩ := h
  obtain ⟨w', h1, h2, h3⟩ := ho.store Kd ht hN hkey (d := .held v) (ps := []) rfl
  have hT := hf.put ho.isMap (Kd.key hkey) v hin
  exact ⟨w', h1, ⟨_, tight h2 Kd (fun x hx => hT.keys x (fun e => by rw [hT.has, e] at hx; cases hx)), hT⟩, h3⟩
theorem MapV.drop {t e : TypeId} (h : MapV P k w A K f) (Kd : Keyed P k) (ht : P.underlying t = some (.map k e)) (hkey : keyOf P k key = some kl) (ty : TypeId) :
    ∃ w', (Builtin.delete_ #[t, k] ty #[.map (some A), key]).run P w = .ok (.tuple #[]) w' ∧ MapV P k w' A K (upd f kl none) ∧ w.mapTurned w' A := by
  obtain ⟨D, ho, hf⟩ := h
  obtain ⟨w', h1, h2, h3⟩ := ho.drop Kd ht hkey ty
  exact ⟨w', h1, ⟨_, h2, hf.del⟩, h3⟩
/-- How many lie in it: none, just one, more. -/
theorem MapV.len {t e : TypeId} (h : MapV P k w A K f) (Kd : Keyed P k) (ht : P.underlying t = some (.map k e)) :
    ∃ m : Nat, (∀ W ty, W.heap[A]? = w.heap[A]? → (Builtin.len_ #[t] ty #[.map (some A)]).run P W = .ok (.int .i64 m) W) ∧ m ≤ K.length ∧ (0 < m ↔ ∃ x, f x ≠ none) ∧ ∀ x, f x ≠ none → (1 < m ↔ ∃ y, y ≠ x ∧ f y ≠ none) := by
  obtain ⟨D, ho, hf⟩ := h
  refine ⟨Maps.size D, fun W ty hW => ?_, ho.size_le, ?_⟩
  · obtain ⟨es, cl, hb, F, hs, hD⟩ := ho
    exact World.ownsMap.len (⟨es, cl, hW.trans hb, F, hs, hD⟩ : W.ownsMap P k vEl A K.length D) ht ty
  obtain ⟨es, rfl, hp, hk⟩ := ho.entries Kd
  have hmem : ∀ p ∈ es, f p.1 ≠ none := fun p hp e => by
    have := hf.has p.1
    rw [has_eq, List.any_eq_true.2 ⟨p, hp, WideAt.sameKey_self (hk p hp)⟩, e] at this
    cases this
  have hex : ∀ x, f x ≠ none → ∃ p ∈ es, p.1 = x := fun x hx => by
    have := hf.has x
    cases e : f x with
    | none => exact absurd e hx
    | some v =>
      rw [e, has_eq] at this
      obtain ⟨p, hp, hs⟩ := List.any_eq_true.1 (this.trans rfl)
      exact ⟨p, hp, WideAt.sameKey_eq hs⟩
  rw [Maps.size_eq]
  refine ⟨⟨fun h0 => ?_, fun ⟨x, hx⟩ => ?_⟩, fun x hx => ⟨fun h1 => ?_, fun ⟨y, hy, hfy⟩ => ?_⟩⟩
  · cases es with
    | nil => simp at h0
    | cons p r => exact ⟨p.1, hmem p (by simp)⟩
  · obtain ⟨p, hp, _⟩ := hex x hx
    exact List.length_pos_of_mem hp
  · match es, h1, hp, hmem with
    | [], h1, _, _ => simp at h1
    | [_], h1, _, _ => simp at h1
    | p :: q :: r, _, hp, hmem =>
      by_cases e : p.1 = x
      · refine ⟨q.1, fun e2 => ?_, hmem q (by simp)⟩
        exact (List.pairwise_cons.1 hp).1 q (by simp) (e.trans e2.symm)
      · exact ⟨p.1, e, hmem p (by simp)⟩
  · obtain ⟨p, hp1, e1⟩ := hex x hx
    obtain ⟨q, hq1, e2⟩ := hex y hfy
    match es, hp1, hq1 with
    | [], hp1, _ => cases hp1
    | [z], hp1, hq1 =>
      simp at hp1 hq1
      exact absurd (by rw [← e1, ← e2, hp1, hq1]) hy
    | _ :: _ :: _, _, _ => simp

theorem RngV.map (h : RngV P k w A r K f left cnt) : MapV P k w A K f := by
  obtain ⟨D, hr, hf⟩ := h
  exact ⟨D, hr.owns, hf⟩
theorem RngV.left_eq (h : RngV P k w A r K f left cnt) : w.rangeLeft A r = cnt := by
  obtain ⟨D, hr, hf⟩ := h
  exact hr.left_eq
theorem RngV.lt (h : RngV P k w A r K f left cnt) : r < w.heap.size := by
  obtain ⟨D, hr, hf⟩ := h
  exact hr.lt
theorem RngV.ne (h : RngV P k w A r K f left cnt) : r ≠ A := by
  obtain ⟨D, hr, hf⟩ := h
  exact hr.ne
theorem RngV.iter (h : RngV P k w A r K f left cnt) : ∃ b c d e, w.heap[r]? = some (.mapIter b c d e) := by
  obtain ⟨D, ⟨_, _, _, _, _, _, _, _, _, hr, _⟩, hf⟩ := h
  exact ⟨_, _, _, _, hr⟩
theorem RngV.at (h : RngV P k w A r K f left cnt) {w' : World} (e1 : w'.heap[A]? = w.heap[A]?) (e2 : w'.heap[r]? = w.heap[r]?) : RngV P k w' A r K f left cnt := by
  obtain ⟨D, ⟨es, clock, since, seen, c0, hb, F, hs, hD, hr, rest⟩, hf⟩ := h
  exact ⟨D, ⟨es, clock, since, seen, c0, e1.trans hb, F, hs, hD, e2.trans hr, rest⟩, hf⟩
theorem strike_eq (left : Lit → Bool) (K : WideAt.IsKeyLit kl) : (fun z : Lit => left z && !z.sameKey kl) = upd left kl false := by
  funext z
  by_cases e : z = kl
  · subst e; simp [upd, WideAt.sameKey_self K]
  · simp [upd, e, sameKey_ne e]
/-- 'range m'. -/
theorem MapV.range {t e : TypeId} (h : MapV P k w A K f) (Kd : Keyed P k) (ht : P.underlying t = some (.map k e)) :
    ∃ w' cnt, (Instr.range t (.map (some A))).run P w = .ok (.pointer (some ⟨w.heap.size, 0, none⟩)) w' ∧ RngV P k w' A w.heap.size K f (fun x => (f x).isSome) cnt ∧ w.grownBy w' none ∧ w'.heap.size = w.heap.size + 1 := by
  obtain ⟨D, ho, hf⟩ := h
  obtain ⟨w', h1, h2, h3, h4⟩ := ho.range Kd ht
  have e : Maps.has D = fun x => (f x).isSome := funext hf.has
  rw [e] at h2
  exact ⟨w', _, h1, ⟨D, h2, hf⟩, h3, h4⟩
/-- The step. -/
theorem RngV.next (h : RngV P k w A r K f left cnt) (Kd : Keyed P k) (ty : TypeId) :
    (cnt = 0 ∧ (∀ kl, left kl = false) ∧ (Instr.next (.pointer (some ⟨r, 0, none⟩)) false ty).run P w = .ok (.tuple #[.bool false]) w) ∨
    ∃ key v kl w' cnt', keyOf P k key = some kl ∧ left kl = true ∧ f kl = some v ∧ (Instr.next (.pointer (some ⟨r, 0, none⟩)) false ty).run P w = .ok (.tuple #[.bool true, key, v]) w' ∧
      RngV P k w' A r K f (upd left kl false) cnt' ∧ cnt' < cnt ∧ w.grownBy w' (some r) ∧ w'.heap.size = w.heap.size ∧ (Instr.entry (.pointer (some ⟨r, 0, none⟩))).run P w' = .ok (.tuple #[key, v]) w' := by
  obtain ⟨D, hr, hf⟩ := h
  rcases hr.next Kd ty with h | ⟨key, v, kl, y, w', cnt', h1, h2, h3, h4, h5, h6, h7, h8, h9, h10⟩
  · exact .inl h
  · have e1 := h4 .nil
    have e2 := h4 (.lit .nil)
    rw [hf.at'] at e1 e2
    cases e3 : f kl with
    | none =>
      rw [e3] at e1 e2
      rw [← e2] at e1
      cases e1
    | some u =>
      rw [e3] at e1
      simp only [vEl, Option.some.injEq] at h3
      rw [← h3] at e1
      simp only [heldOr] at e1
      injection e1 with e1
      subst e1
      rw [strike_eq _ (Kd.key h1)] at h6
      exact .inr ⟨key, u, kl, w', cnt', h1, h2, e3, h5, ⟨D, h6, hf⟩, h7, h8, h9, h10⟩
end

section
variable {P : Program} (w : World) {ops : Array Oper} {rest : List Oper} {o : Oper} {a : Act} {Q : Exit → Act → World → Prop}

/-- 'delete(m, k)', whatever it leaves. -/
theorem wpList_delete_any (hg : o.guard = none) (m x : Operand) (t k : TypeId) (hop : o.op = Op.call { callee := Callee.builtin Builtin.delete, args := #[m, x], argTypes := #[t, k] }) (R : World → Prop)
    (mv key : Value) (hm : a.eval m = mv) (hx : a.eval x = key) (hrun : ∀ ty, ∃ w', (Builtin.delete_ #[t, k] ty #[mv, key]).run P w = .ok (.tuple #[]) w' ∧ R w')
    (hK : ∀ w', R w' → wpList P ops Q rest (a.put o.dst (.tuple #[])) w') : wpList P ops Q (o :: rest) a w := by
  refine wpList_plain hg fun K' hK' => ?_
  obtain ⟨w', hr, h1⟩ := hrun o.type
  unfold Oper.wp
  simp [execOp, hop, resolve, invoke, builtin, hm, hx, hr, Result.andThen]
  exact hK' _ _ (hK w' h1)

/-- The step of a range over a map. -/
theorem wpList_next_v {k : TypeId} {A r cnt : Nat} {K : List Lit} {f : Lit → Option Value} {left : Lit → Bool} (hg : o.guard = none) (it : Operand) (hop : o.op = Op.next it false) (Kd : Keyed P k) (hit : a.eval it = .pointer (some ⟨r, 0, none⟩)) (h : RngV P k w A r K f left cnt)
    (hDone : cnt = 0 → (∀ kl, left kl = false) → wpList P ops Q rest (a.put o.dst (.tuple #[.bool false])) w)
    (hMore : ∀ (key v : Value) (kl : Lit) (w' : World) (cnt' : Nat), keyOf P k key = some kl → left kl = true → f kl = some v → RngV P k w' A r K f (upd left kl false) cnt' → cnt' < cnt →
      w.grownBy w' (some r) → w'.heap.size = w.heap.size → (Instr.entry (.pointer (some ⟨r, 0, none⟩))).run P w' = .ok (.tuple #[key, v]) w' → wpList P ops Q rest (a.put o.dst (.tuple #[.bool true, key, v])) w') :
    wpList P ops Q (o :: rest) a w := by
  refine wpList_plain hg fun K' hK' => ?_
  unfold Oper.wp
  rcases h.next Kd o.type with ⟨h0, hl, hrun⟩ | ⟨key, v, kl, w', cnt', h1, h2, h3, hrun, h4, h5, h6, h7, h8⟩
  · simp [execOp, hop, hit, hrun, Result.andThen]
    exact hK' _ _ (hDone h0 hl)
  · simp [execOp, hop, hit, hrun, Result.andThen]
    exact hK' _ _ (hMore key v kl w' cnt' h1 h2 h3 h4 h5 h6 h7 h8)
end

/-- Nothing but blocks of S, and new ones, has turned. -/
structure Turn (S : Nat → Prop) (w w' : World) : Prop where
  os : w'.os = w.os
  tape : w'.tape = w.tape
  output : w'.output = w.output
  size : w.heap.size ≤ w'.heap.size
  block : ∀ i, i < w.heap.size → ¬ S i → w'.heap[i]? = w.heap[i]?

theorem Turn.refl (S : Nat → Prop) (w : World) : Turn S w w := ⟨rfl, rfl, rfl, Nat.le_refl _, fun _ _ _ => rfl⟩
theorem Turn.trans {S S' : Nat → Prop} {w w1 w2 : World} (h : Turn S w w1) (h' : Turn S' w1 w2) (hs : ∀ i, S' i → S i ∨ w.heap.size ≤ i) : Turn S w w2 :=
  ⟨h'.os.trans h.os, h'.tape.trans h.tape, h'.output.trans h.output, Nat.le_trans h.size h'.size, fun i hi hn => (h'.block i (Nat.lt_of_lt_of_le hi h.size) (fun e => by
    rcases hs i e with h1 | h1
    · exact hn h1
    · omega)).trans (h.block i hi hn)⟩
theorem Turn.mono {S S' : Nat → Prop} {w w1 : World} (h : Turn S w w1) (hs : ∀ i, S i → S' i ∨ w.heap.size ≤ i) : Turn S' w w1 := (Turn.refl S' w).trans h hs
theorem Turn.of_map {w w' : World} {b : Nat} (h : w.mapTurned w' b) : Turn (fun i => i = b) w w' := by
  have g := h.grown
  exact ⟨g.os, g.tape, g.output, g.size, fun i hi hn => g.block i hi (fun e => hn (Option.some.inj e))⟩
theorem Turn.of_grown {w w' : World} {b : Option Nat} (g : w.grownBy w' b) : Turn (fun i => some i = b) w w' :=
  ⟨g.os, g.tape, g.output, g.size, fun i hi hn => g.block i hi hn⟩
theorem Turn.of_below {w w' : World} (g : Below w.heap.size w w') (S : Nat → Prop) : Turn S w w' :=
  ⟨g.os, g.tape, g.output, g.size, fun i hi _ => g.block i hi⟩
theorem Turn.below {w w' : World} {B : Nat} {S : Nat → Prop} (h : Turn S w w') (hB : B ≤ w.heap.size) (hs : ∀ i, i < B → ¬ S i) : Below B w w' :=
  ⟨h.os, h.tape, h.output, h.size, fun i hi => h.block i (by omega) (hs i hi)⟩
theorem Turn.setCell (w : World) (a : Addr) (u : Value) : Turn (fun i => i = a.block) w (w.setCell a u) :=
  ⟨rfl, rfl, rfl, by simp [World.setCell], fun i _ hn => RowKit.Below.heap_setCell _ _ _ _ hn⟩
theorem heap_alloc_old {w : World} {o : Obj} {i : Nat} (h : i < w.heap.size) : (w.alloc o).heap[i]? = w.heap[i]? := (MapKept.heap_alloc w o).2 i h
theorem Turn.alloc (S : Nat → Prop) (w : World) (o : Obj) : Turn S w (w.alloc o) := (Turn.of_grown (World.grownBy_alloc w o none)).mono fun _ h => by cases h

end Go.Proofs.Yticnkppnpfgceaa.Mg
