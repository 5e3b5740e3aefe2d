/-
  Of no program: a map whose elements are maps, told by a function from keys to blocks; a set of keys, told by a function; a range over one.
-/
import Derived.WalkKit
import Derived.WalkSpells
import Derived.WalkLawsBesides
import Derived.Below
import Derived.Laws.AppendOwnNone
import Derived.Lib.OwnKind
import Derived.Lib.Hide
import Derived.Maps.RangeWalk
import Derived.Maps.Ext
namespace Go.Proofs.YtclppfljengnbaaGreat.Gr
open Go.RowKit Go.Maps

theorem toHid {p : Prop} (h : p) : Hid p := h

noncomputable instance : DecidableEq Lit := fun _ _ => Classical.propDecidable _

/-- A function with one value turned. -/
noncomputable def upd {β : Type} (f : Lit → β) (k : Lit) (v : β) : Lit → β := fun x => if x = k then v else f x
theorem upd_same {β : Type} (f : Lit → β) (k : Lit) (v : β) : upd f k v k = v := by simp [upd]
theorem upd_other {β : Type} (f : Lit → β) {k x : Lit} (v : β) (h : x ≠ k) : upd f k v x = f x := by simp [upd, h]

/-- How an element that is a map reads: by its block's number. -/
def blkElem : Value → Option (DataW Unit × List MemPlace)
  | .map (some b) => some (.lit (.int .i64 b), [])
  | .map none => some (.nil, [])
  | _ => none
def blkOf : DataW Unit → Option Nat
  | .lit (.int _ b) => some b.toNat
  | _ => none
theorem blkElem_inv {v : Value} {z : DataW Unit × List MemPlace} (h : blkElem v = some z) : v = .map (blkOf z.1) := by
  unfold blkElem at h
  split at h
  · cases h; simp [blkOf]
  · cases h; rfl
  · cases h
theorem blkElem_some (b : Nat) : blkElem (.map (some b)) = some (.lit (.int .i64 b), []) := rfl
theorem blkElem_none : blkElem (.map none) = some (.nil, []) := rfl

section
variable {P : Program} {k : TypeId} {w : World} {A N : Nat}

/-- Block A is a map of maps: at each key the block that f tells. -/
def MapF (P : Program) (k : TypeId) (w : World) (A N : Nat) (f : Lit → Option Nat) : Prop :=
  ∃ n D, n ≤ N ∧ w.ownsMap (H := Unit) P k blkElem A n D ∧ ∀ x, blkOf (D.atKey x .nil) = f x
/-- Block A is a set: g tells who is in it. -/
def SetF (P : Program) (k : TypeId) (w : World) (A N : Nat) (g : Lit → Bool) : Prop :=
  ∃ n D, n ≤ N ∧ w.ownsMap (H := Unit) P k unitElem A n D ∧ ∀ x, Maps.has D x = g x
/-- A set under way in a range. -/
def RngF (P : Program) (k : TypeId) (w : World) (A r N : Nat) (g left : Lit → Bool) (cnt : Nat) : Prop :=
  ∃ n D, n ≤ N ∧ w.ranges (H := Unit) P k unitElem A r n D left cnt ∧ ∀ x, Maps.has D x = g x

variable {f : Lit → Option Nat} {g left : Lit → Bool} {r cnt : Nat}

theorem MapF.lt (h : MapF P k w A N f) : A < w.heap.size := by obtain ⟨_, _, _, h, _⟩ := h; exact h.lt
theorem SetF.lt (h : SetF P k w A N g) : A < w.heap.size := by obtain ⟨_, _, _, h, _⟩ := h; exact h.lt
theorem MapF.mono {N' : Nat} (h : MapF P k w A N f) (hn : N ≤ N') : MapF P k w A N' f := by obtain ⟨n, D, h1, h⟩ := h; exact ⟨n, D, by omega, h⟩
theorem SetF.mono {N' : Nat} (h : SetF P k w A N g) (hn : N ≤ N') : SetF P k w A N' g := by obtain ⟨n, D, h1, h⟩ := h; exact ⟨n, D, by omega, h⟩
theorem MapF.blk (h : MapF P k w A N f) : ∃ es c, w.heap[A]? = some (.map es c) := by obtain ⟨_, _, _, ⟨es, c, h, _⟩, _⟩ := h; exact ⟨es, c, h⟩
theorem SetF.blk (h : SetF P k w A N g) : ∃ es c, w.heap[A]? = some (.map es c) := by obtain ⟨_, _, _, ⟨es, c, h, _⟩, _⟩ := h; exact ⟨es, c, h⟩
theorem MapF.at (h : MapF P k w A N f) {w' : World} (e : w'.heap[A]? = w.heap[A]?) : MapF P k w' A N f := by
  obtain ⟨n, D, h1, ⟨es, c, h2, h3⟩, h4⟩ := h
  exact ⟨n, D, h1, ⟨es, c, e.trans h2, h3⟩, h4⟩
theorem SetF.at (h : SetF P k w A N g) {w' : World} (e : w'.heap[A]? = w.heap[A]?) : SetF P k w' A N g := by
  obtain ⟨n, D, h1, ⟨es, c, h2, h3⟩, h4⟩ := h
  exact ⟨n, D, h1, ⟨es, c, e.trans h2, h3⟩, h4⟩
theorem SetF.congr (h : SetF P k w A N g) {g' : Lit → Bool} (e : ∀ x, g x = g' x) : SetF P k w A N g' := by
  have : g = g' := funext e
  exact this ▸ h
theorem MapF.made (w : World) : MapF P k (w.alloc (.map #[] 0)) w.heap.size N fun _ => none := ⟨0, _, Nat.zero_le _, World.ownsMap_made _ _ _ _, fun _ => rfl⟩
theorem SetF.made (w : World) : SetF P k (w.alloc (.map #[] 0)) w.heap.size N fun _ => false := ⟨0, _, Nat.zero_le _, World.ownsMap_made _ _ _ _, fun _ => rfl⟩

variable {key : Value} {kl : Lit}

theorem MapF.look {t e : TypeId} (h : MapF P k w A N f) (K : Keyed P k) (ht : P.underlying t = some (.map k e)) (hz : ∀ w, (zeroValue e).run P w = .ok (.map none) w) (hkey : keyOf P k key = some kl) :
    (Instr.lookup t (.map (some A)) key false).run P w = .ok (.map (f kl)) w := by
  obtain ⟨n, D, _, ho, hf⟩ := h
  obtain ⟨v, ps, hr, hv⟩ := ho.lookup K ht (hz w) blkElem_none hkey
  rw [hr, blkElem_inv hv, hf]
theorem SetF.look {t e : TypeId} (h : SetF P k w A N g) (K : Keyed P k) (ht : P.underlying t = some (.map k e)) (hz : ∀ w, (zeroValue e).run P w = .ok (.agg #[]) w) (hkey : keyOf P k key = some kl) :
    (Instr.lookup t (.map (some A)) key true).run P w = .ok (.tuple #[.agg #[], .bool (g kl)]) w := by
  obtain ⟨n, D, _, ho, hf⟩ := h
  obtain ⟨v, ps, hr, hv⟩ := ho.look_ok K ht (hz w) unitElem_mk hkey
  obtain ⟨rfl, _⟩ := unitElem_inv hv
  rw [hr, hf]
theorem MapF.store {t e : TypeId} (h : MapF P k w A N f) (K : Keyed P k) (ht : P.underlying t = some (.map k e)) (hN : N < maxLen) (hkey : keyOf P k key = some kl) (b : Nat) :
    ∃ w', (Instr.mapUpdate t (.map (some A)) key (.map (some b))).run P w = .ok () w' ∧ MapF P k w' A (N + 1) (upd f kl (some b)) ∧ w.mapTurned w' A := by
  obtain ⟨n, D, hn, ho, hf⟩ := h
  obtain ⟨w', h1, h2, h3⟩ := ho.store K ht (by omega) hkey (blkElem_some b)
  refine ⟨w', h1, ⟨n + 1, _, by omega, h2, fun x => ?_⟩, h3⟩
  by_cases e1 : x = kl
  · subst e1
    rw [upd_same, atKey_put_same ho.isMap (K.key hkey)]
    simp [blkOf]
  · rw [upd_other _ _ e1, atKey_put_other e1, hf]
theorem SetF.store {t e : TypeId} (h : SetF P k w A N g) (K : Keyed P k) (ht : P.underlying t = some (.map k e)) (hN : N < maxLen) (hkey : keyOf P k key = some kl) :
    ∃ w', (Instr.mapUpdate t (.map (some A)) key (.agg #[])).run P w = .ok () w' ∧ SetF P k w' A (N + 1) (upd g kl true) ∧ w.mapTurned w' A := by
  obtain ⟨n, D, hn, ho, hf⟩ := h
  obtain ⟨w', h1, h2, h3⟩ := ho.store K ht (by omega) hkey unitElem_mk
  refine ⟨w', h1, ⟨n + 1, _, by omega, h2, fun x => ?_⟩, h3⟩
  by_cases e1 : x = kl
  · subst e1
    rw [upd_same, has_put_same ho.isMap (K.key hkey)]
  · rw [upd_other _ _ e1, has_put_other e1, hf]
theorem MapF.drop {t e : TypeId} (h : MapF P k w A N f) (K : Keyed P k) (ht : P.underlying t = some (.map k e)) (hkey : keyOf P k key = some kl) (ty : TypeId) :
    ∃ w', (Builtin.delete_ #[t, k] ty #[.map (some A), key]).run P w = .ok (.tuple #[]) w' ∧ MapF P k w' A N (upd f kl none) ∧ w.mapTurned w' A := by
  obtain ⟨n, D, hn, ho, hf⟩ := h
  obtain ⟨w', h1, h2, h3⟩ := ho.drop K ht hkey ty
  refine ⟨w', h1, ⟨n, _, hn, h2, fun x => ?_⟩, h3⟩
  by_cases e1 : x = kl
  · subst e1
    rw [upd_same, atKey_del_same]
    rfl
  · rw [upd_other _ _ e1, atKey_del_other e1, hf]
theorem strike_eq (left : Lit → Bool) (K : WideAt.IsKeyLit kl) : (fun z : Lit => left z && !z.sameKey kl) = upd left kl false := by
  funext z
  by_cases e : z = kl
  · subst e; simp [upd, WideAt.sameKey_self K]
  · simp [upd, e, sameKey_ne e]
/-- A key is struck from a set, also amid a range over it. -/
theorem SetF.drop {t e : TypeId} (h : SetF P k w A N g) (K : Keyed P k) (ht : P.underlying t = some (.map k e)) (hkey : keyOf P k key = some kl) (ty : TypeId) :
    ∃ w', (Builtin.delete_ #[t, k] ty #[.map (some A), key]).run P w = .ok (.tuple #[]) w' ∧ SetF P k w' A N (upd g kl false) ∧ w.mapTurned w' A ∧
      ∀ r N' left cnt, RngF P k w A r N' g left cnt → ∃ cnt', cnt' ≤ cnt ∧ RngF P k w' A r N' (upd g kl false) (upd left kl false) cnt' := by
  obtain ⟨n, D, hn, ho, hf⟩ := h
  obtain ⟨w', h1, h2, h3⟩ := ho.drop K ht hkey ty
  have hh : ∀ (D : DataW Unit), (∀ x, Maps.has D x = g x) → ∀ x, Maps.has (D.del kl) x = upd g kl false x := fun D hf x => by
    by_cases e1 : x = kl
    · subst e1
      rw [upd_same, has_del_same]
    · rw [upd_other _ _ e1, has_del_other e1, hf]
  refine ⟨w', h1, ⟨n, _, hn, h2, hh D hf⟩, h3, fun r N' left cnt hr => ?_⟩
  obtain ⟨n', D', hn', hr, hf'⟩ := hr
  obtain ⟨w'', cnt', g1, g2, g3, _⟩ := hr.drop K ht hkey ty
  rw [h1] at g1
  injection g1 with _ e
  subst e
  rw [strike_eq _ (K.key hkey)] at g2
  exact ⟨cnt', g3, n', _, hn', g2, hh D' hf'⟩
theorem SetF.len {t e : TypeId} (h : SetF P k w A N g) (K : Keyed P k) (ht : P.underlying t = some (.map k e)) :
    ∃ m : Nat, (∀ ty, (Builtin.len_ #[t] ty #[.map (some A)]).run P w = .ok (.int .i64 m) w) ∧ (m = 0 ↔ ∀ x, g x = false) := by
  obtain ⟨n, D, hn, ho, hf⟩ := h
  refine ⟨_, ho.len ht, ?_⟩
  obtain ⟨es, rfl, _, hk⟩ := ho.entries K
  constructor
  · intro h0 x
    rw [← hf]
    obtain rfl : es = [] := List.eq_nil_of_length_eq_zero h0
    rfl
  · intro h0
    cases es with
    | nil => rfl
    | cons y l =>
      have e1 := h0 y.1
      rw [← hf, has_eq, List.any_cons, WideAt.sameKey_self (hk y (by simp))] at e1
      simp at e1

theorem SetF.keys {x : Lit} (h : SetF P k w A N g) (hx : g x = true) : ∃ key, keyOf P k key = some x := by
  obtain ⟨n, D, hn, ⟨es, c, _, F, _, rfl⟩, hf⟩ := h
  rw [← hf, has_eq] at hx
  obtain ⟨p, hp, hs⟩ := List.any_eq_true.1 hx
  obtain ⟨y, hy, rfl⟩ := List.mem_map.1 (mem_sorted.1 hp)
  obtain ⟨z, hz⟩ := F.reads y hy
  have e1 := WideElems.rd_key hz
  rw [WideElems.rg_of hz] at hs
  rw [WideAt.sameKey_eq hs] at e1
  exact ⟨_, e1⟩

theorem RngF.set (h : RngF P k w A r N g left cnt) : SetF P k w A N g := by
  obtain ⟨n, D, hn, hr, hf⟩ := h
  exact ⟨n, D, hn, hr.owns, hf⟩
theorem RngF.left_eq (h : RngF P k w A r N g left cnt) : w.rangeLeft A r = cnt := by
  obtain ⟨n, D, hn, hr, hf⟩ := h
  exact hr.left_eq
theorem RngF.lt (h : RngF P k w A r N g left cnt) : r < w.heap.size := by
  obtain ⟨n, D, hn, hr, hf⟩ := h
  exact hr.lt
theorem RngF.ne (h : RngF P k w A r N g left cnt) : r ≠ A := by
  obtain ⟨n, D, hn, hr, hf⟩ := h
  exact hr.ne
theorem RngF.iter (h : RngF P k w A r N g left cnt) : ∃ b c d e, w.heap[r]? = some (.mapIter b c d e) := by
  obtain ⟨n, D, hn, ⟨_, _, _, _, _, _, _, _, _, hr, _⟩, hf⟩ := h
  exact ⟨_, _, _, _, hr⟩
theorem RngF.at (h : RngF P k w A r N g left cnt) {w' : World} (e1 : w'.heap[A]? = w.heap[A]?) (e2 : w'.heap[r]? = w.heap[r]?) : RngF P k w' A r N g left cnt := by
  obtain ⟨n, D, hn, ⟨es, clock, since, seen, c0, hb, F, hs, hD, hr, rest⟩, hf⟩ := h
  exact ⟨n, D, hn, ⟨es, clock, since, seen, c0, e1.trans hb, F, hs, hD, e2.trans hr, rest⟩, hf⟩
/-- 'range m'. -/
theorem SetF.range {t e : TypeId} (h : SetF P k w A N g) (K : Keyed P k) (ht : P.underlying t = some (.map k e)) :
    ∃ w' cnt, (Instr.range t (.map (some A))).run P w = .ok (.pointer (some ⟨w.heap.size, 0, none⟩)) w' ∧ RngF P k w' A w.heap.size N g g cnt ∧ cnt ≤ N ∧ w.grownBy w' none ∧ w'.heap.size = w.heap.size + 1 := by
  obtain ⟨n, D, hn, ho, hf⟩ := h
  obtain ⟨w', h1, h2, h3, h4⟩ := ho.range K ht
  have e : Maps.has D = g := funext hf
  rw [e] at h2
  exact ⟨w', _, h1, ⟨n, D, hn, h2, hf⟩, by have := ho.size_le; omega, h3, h4⟩
/-- The step. -/
theorem RngF.next (h : RngF P k w A r N g left cnt) (K : Keyed P k) (ty : TypeId) :
    (cnt = 0 ∧ (∀ kl, left kl = false) ∧ (Instr.next (.pointer (some ⟨r, 0, none⟩)) false ty).run P w = .ok (.tuple #[.bool false]) w) ∨
    ∃ key kl w' cnt', keyOf P k key = some kl ∧ left kl = true ∧ g kl = true ∧ (Instr.next (.pointer (some ⟨r, 0, none⟩)) false ty).run P w = .ok (.tuple #[.bool true, key, .agg #[]]) w' ∧
      RngF P k w' A r N g (upd left kl false) cnt' ∧ cnt' < cnt ∧ w.grownBy w' (some r) ∧ w'.heap.size = w.heap.size ∧ (Instr.entry (.pointer (some ⟨r, 0, none⟩))).run P w' = .ok (.tuple #[key, .agg #[]]) w' := by
  obtain ⟨n, D, hn, hr, hf⟩ := h
  rcases hr.next K ty with h | ⟨key, v, kl, y, w', cnt', h1, h2, h3, h4, h5, h6, h7, h8, h9, h10⟩
  · exact .inl h
  · obtain ⟨rfl, _⟩ := unitElem_inv h3
    rw [strike_eq _ (K.key h1)] at h6
    exact .inr ⟨key, kl, w', cnt', h1, h2, by rw [← hf]; exact has_true_of_atKey h4, h5, ⟨n, D, hn, h6, hf⟩, h7, h8, h9, h10⟩
end

section
variable {P : Program} (w : World) {ops : Array Oper} {rest : List Oper} {o : Oper} {a : Act} {Q : Exit → Act → World → Prop}

/-- 'delete(m, k)', whatever it leaves. -/
theorem wpList_delete_any (hg : o.guard = none) (m x : Operand) (t k : TypeId) (hop : o.op = Op.call { callee := Callee.builtin Builtin.delete, args := #[m, x], argTypes := #[t, k] }) (R : World → Prop)
    (mv key : Value) (hm : a.eval m = mv) (hx : a.eval x = key) (hrun : ∀ ty, ∃ w', (Builtin.delete_ #[t, k] ty #[mv, key]).run P w = .ok (.tuple #[]) w' ∧ R w')
    (hK : ∀ w', R w' → wpList P ops Q rest (a.put o.dst (.tuple #[])) w') : wpList P ops Q (o :: rest) a w := by
  refine wpList_plain hg fun K' hK' => ?_
  obtain ⟨w', hr, h1⟩ := hrun o.type
  unfold Oper.wp
  simp [execOp, hop, resolve, invoke, builtin, hm, hx, hr, Result.andThen]
  exact hK' _ _ (hK w' h1)

/-- The step of a range over a set. -/
theorem wpList_next_set {k : TypeId} {A r N cnt : Nat} {g left : Lit → Bool} (hg : o.guard = none) (it : Operand) (hop : o.op = Op.next it false) (K : Keyed P k) (hit : a.eval it = .pointer (some ⟨r, 0, none⟩)) (h : RngF P k w A r N g left cnt)
    (hDone : cnt = 0 → (∀ kl, left kl = false) → wpList P ops Q rest (a.put o.dst (.tuple #[.bool false])) w)
    (hMore : ∀ (key : Value) (kl : Lit) (w' : World) (cnt' : Nat), keyOf P k key = some kl → left kl = true → g kl = true → RngF P k w' A r N g (upd left kl false) cnt' → cnt' < cnt →
      w.grownBy w' (some r) → w'.heap.size = w.heap.size → (Instr.entry (.pointer (some ⟨r, 0, none⟩))).run P w' = .ok (.tuple #[key, .agg #[]]) w' → wpList P ops Q rest (a.put o.dst (.tuple #[.bool true, key, .agg #[]])) w') :
    wpList P ops Q (o :: rest) a w := by
  refine wpList_plain hg fun K' hK' => ?_
  unfold Oper.wp
  rcases h.next K o.type with ⟨h0, hl, hrun⟩ | ⟨key, kl, w', cnt', h1, h2, h3, hrun, h4, h5, h6, h7, h8⟩
  · simp [execOp, hop, hit, hrun, Result.andThen]
    exact hK' _ _ (hDone h0 hl)
  · simp [execOp, hop, hit, hrun, Result.andThen]
    exact hK' _ _ (hMore key kl w' cnt' h1 h2 h3 h4 h5 h6 h7 h8)
end

theorem heap_set2 {w : World} {p t : Nat} {x y z : Value} (h : w.heap[p]? = some (.cells #[x, y, z] t)) (v : Value) : (w.setCell ⟨p, 2, none⟩ v).heap[p]? = some (.cells #[x, y, v] t) := by
  rw [heap_setCell_same w p 2 _ _ v h]
  simp
theorem cells3 {w : World} {p t : Nat} {x y z : Value} (h : w.heap[p]? = some (.cells #[x, y, z] t)) : w.cell? ⟨p, 0, none⟩ = some x ∧ w.cell? ⟨p, 1, none⟩ = some y ∧ w.cell? ⟨p, 2, none⟩ = some z ∧ w.frozen? ⟨p, 2, none⟩ = false := by
  simp [World.cell?, World.frozen?, h]

/-- Nothing but blocks of S, and new ones, has turned. -/
structure Turn (S : Nat → Prop) (w w' : World) : Prop where
  os : w'.os = w.os
  tape : w'.tape = w.tape
  output : w'.output = w.output
  size : w.heap.size ≤ w'.heap.size
  block : ∀ i, i < w.heap.size → ¬ S i → w'.heap[i]? = w.heap[i]?

theorem Turn.refl (S : Nat → Prop) (w : World) : Turn S w w := ⟨rfl, rfl, rfl, Nat.le_refl _, fun _ _ _ => rfl⟩
theorem Turn.trans {S S' : Nat → Prop} {w w1 w2 : World} (h : Turn S w w1) (h' : Turn S' w1 w2) (hs : ∀ i, S' i → S i ∨ w.heap.size ≤ i) : Turn S w w2 :=
  ⟨h'.os.trans h.os, h'.tape.trans h.tape, h'.output.trans h.output, Nat.le_trans h.size h'.size, fun i hi hn => (h'.block i (Nat.lt_of_lt_of_le hi h.size) (fun e => by
    rcases hs i e with h1 | h1
    · exact hn h1
    · omega)).trans (h.block i hi hn)⟩
theorem Turn.mono {S S' : Nat → Prop} {w w1 : World} (h : Turn S w w1) (hs : ∀ i, S i → S' i ∨ w.heap.size ≤ i) : Turn S' w w1 := (Turn.refl S' w).trans h hs
theorem Turn.of_map {w w' : World} {b : Nat} (h : w.mapTurned w' b) : Turn (fun i => i = b) w w' := by
  have g := h.grown
  exact ⟨g.os, g.tape, g.output, g.size, fun i hi hn => g.block i hi (fun e => hn (Option.some.inj e))⟩
theorem Turn.of_grown {w w' : World} {b : Option Nat} (g : w.grownBy w' b) : Turn (fun i => some i = b) w w' :=
  ⟨g.os, g.tape, g.output, g.size, fun i hi hn => g.block i hi hn⟩
theorem Turn.of_below {w w' : World} (g : Below w.heap.size w w') (S : Nat → Prop) : Turn S w w' :=
  ⟨g.os, g.tape, g.output, g.size, fun i hi _ => g.block i hi⟩
theorem Turn.below {w w' : World} {B : Nat} {S : Nat → Prop} (h : Turn S w w') (hB : B ≤ w.heap.size) (hs : ∀ i, i < B → ¬ S i) : Below B w w' :=
  ⟨h.os, h.tape, h.output, h.size, fun i hi => h.block i (by omega) (hs i hi)⟩
theorem MapF.turn' {P : Program} {k : TypeId} {w w' : World} {A N b : Nat} {f : Lit → Option Nat} (h : MapF P k w A N f) (t : Turn (fun i => i = b) w w') (hn : A ≠ b) : MapF P k w' A (N + 1) f := (h.at (t.block A h.lt hn)).mono (Nat.le_succ _)
theorem Turn.setCell (w : World) (a : Addr) (u : Value) : Turn (fun i => i = a.block) w (w.setCell a u) :=
  ⟨rfl, rfl, rfl, by simp [World.setCell], fun i _ hn => RowKit.Below.heap_setCell _ _ _ _ hn⟩
theorem heap_alloc_old {w : World} {o : Obj} {i : Nat} (h : i < w.heap.size) : (w.alloc o).heap[i]? = w.heap[i]? := (MapKept.heap_alloc w o).2 i h
theorem Turn.alloc (S : Nat → Prop) (w : World) (o : Obj) : Turn S w (w.alloc o) := (Turn.of_grown (World.grownBy_alloc w o none)).mono fun _ h => by cases h

end Go.Proofs.YtclppfljengnbaaGreat.Gr
