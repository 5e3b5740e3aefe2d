/-
  Of no program: a walk through code that has a send, a receive or a select in it, by a goroutine that is alone: 'wpN' is the walk's own judgement for frames of ordinary calls, and a communication is one step.
-/
import Derived.WalkKit
import Derived.WalkSpells
import Derived.WalkLawsBesides
import Derived.Below
import Derived.Conc.LoneSelect
import Derived.Conc.LoneSelectN
import Derived.Lib.Hide
namespace Go.Proofs.Ytfdpmffoajjchaa
open Go.RowKit Go.Conc

theorem toHid {p : Prop} (h : p) : Hid p := h

def wpN (P : Program) (c : Code) (Q : Exit → Act → World → Prop) (a : Act) (w : World) : Prop :=
  ∀ (b : Frame) (k : List Item) (cs : List Frame), b.kind = .normal → ∃ e a' w', Q e a' w' ∧ Arrives P (lone (b.at a (.code c :: k)) cs w) b k cs e a' w'

/-- What is left of a region, from its operation number i on. -/
def LN (P : Program) (ops : Array Oper) (Q : Exit → Act → World → Prop) (i n : Nat) (a : Act) (w : World) : Prop :=
  ∀ (b : Frame) (k : List Item) (cs : List Frame), b.kind = .normal → ∃ e a' w', Q e a' w' ∧ Arrives P (lone (b.at a (.inRegion ops (List.range' i n) :: k)) cs w) b k cs e a' w'

section
variable {P : Program} {Q : Exit → Act → World → Prop} {a : Act} {w : World} {ops : Array Oper}

theorem wpN_of {c : Code} (h : c.wp P Q a w) : wpN P c Q a w := fun b k cs _ => h b k cs

theorem wpN_seqN {x y : Code} (h : wpN P x (Exit.then (wpN P y Q) Q) a w) : wpN P (Code.seq x y) Q a w := by
  intro b k cs hb
  obtain ⟨e, a₁, w₁, hq, harr⟩ := h b (.code y :: k) cs hb
  cases e with
  | normal =>
    obtain ⟨e₂, a₂, w₂, hq₂, harr₂⟩ := hq b k cs hb
    exact ⟨e₂, a₂, w₂, hq₂, .of_steps (.head step_seq harr) harr₂⟩
  | exit id => exact ⟨_, a₁, w₁, hq, .of_steps (.one step_seq) (.pass (x := .code y) rfl (fun _ _ => .inl (by simp)) harr)⟩
  | goto l => exact ⟨_, a₁, w₁, hq, .of_steps (.one step_seq) (.pass (x := .code y) rfl (fun _ _ => .inl (by simp)) harr)⟩
  | ret => exact ⟨_, a₁, w₁, hq, .of_steps (.one step_seq) (.pass (x := .code y) rfl (fun _ _ => .inl (by simp)) harr)⟩
  | panic ch => exact ⟨_, a₁, w₁, hq, .of_steps (.one step_seq) (.pass (x := .code y) rfl (fun _ _ => .inl (by simp)) harr)⟩
  | outgrown => exact ⟨_, a₁, w₁, hq, .of_steps (.one step_seq) (.pass (x := .code y) rfl (fun _ _ => .inl (by simp)) harr)⟩

theorem wpN_seq_k {x y : Code} (h : ∀ K : Act → World → Prop, (∀ a w, wpN P y Q a w → K a w) → x.wp P (Exit.then K Q) a w) : wpN P (Code.seq x y) Q a w :=
  wpN_seqN (wpN_of (h _ fun _ _ h => h))
theorem wpN_seqN_k {x y : Code} (h : ∀ K : Act → World → Prop, (∀ a w, wpN P y Q a w → K a w) → wpN P x (Exit.then K Q) a w) : wpN P (Code.seq x y) Q a w :=
  wpN_seqN (h _ fun _ _ h => h)

theorem wpN_cond_split {c : Operand} {x y : Code} {t : Bool} (hc : a.eval c = .bool t) (ht : t = true → wpN P x Q a w) (hf : t = false → wpN P y Q a w) : wpN P (Code.cond c x y) Q a w := by
  intro b k cs hb
  have h : ∃ e a' w', Q e a' w' ∧ Arrives P (lone (b.at a (.code (if t then x else y) :: k)) cs w) b k cs e a' w' := by
    cases t
    · exact hf rfl b k cs hb
    · exact ht rfl b k cs hb
  obtain ⟨e, a', w', q, r⟩ := h
  exact ⟨e, a', w', q, .of_steps (.one (step_cond hc)) r⟩

theorem wpN_block {id : Nat} {c : Code} (h : wpN P c (Exit.inBlock id Q) a w) : wpN P (Code.block id c) Q a w := by
  intro b k cs hb
  obtain ⟨e, a₁, w₁, hq, harr⟩ := h b (.inBlock id :: k) cs hb
  cases e with
  | normal => exact ⟨.normal, a₁, w₁, hq, .head step_block (Steps.trans harr (.one step_inBlock))⟩
  | exit id' =>
    by_cases hid : id' = id
    · simp only [Exit.inBlock, hid, if_true] at hq
      exact ⟨.normal, a₁, w₁, hq, .head step_block (harr k (by simp [exitTo, hid]))⟩
    · simp only [Exit.inBlock, hid, if_false] at hq
      refine ⟨.exit id', a₁, w₁, hq, fun k' hk => .head step_block (harr k' ?_)⟩
      have : (id == id') = false := by simp; exact fun h => hid h.symm
      simp [exitTo, this, hk]
  | goto l => exact ⟨_, a₁, w₁, hq, fun k' hk => .head step_block (harr k' (by simp [gotoIn, hk]))⟩
  | ret => exact ⟨_, a₁, w₁, hq, .of_steps (.one step_block) harr⟩
  | panic ch => exact ⟨_, a₁, w₁, hq, .of_steps (.one step_block) harr⟩
  | outgrown => exact ⟨_, a₁, w₁, hq, .of_steps (b := b) (k := k) (cs := cs) (e := .outgrown) (.one step_block) harr⟩

theorem wpN_loop {c : Code} (I : Act → World → Prop) (μ : Act → World → Nat) (h₀ : I a w)
    (round : ∀ a w, I a w → wpN P c (Exit.then (fun a' w' => I a' w' ∧ μ a' w' < μ a w) Q) a w) : wpN P (Code.loop c) Q a w := by
  intro b k cs hb
  have key : ∀ n a w, μ a w = n → I a w →
      ∃ e a' w', Q e a' w' ∧ Arrives P (lone (b.at a (.code c :: .inLoop c :: k)) cs w) b k cs e a' w' := by
    intro n
    induction n using Nat.strongRecOn with
    | _ n ih =>
      intro a w hn hI
      obtain ⟨e, a₁, w₁, hq, harr⟩ := round a w hI b (.inLoop c :: k) cs hb
      cases e with
      | normal =>
        obtain ⟨hI₁, hlt⟩ := hq
        obtain ⟨e₂, a₂, w₂, hq₂, harr₂⟩ := ih (μ a₁ w₁) (hn ▸ hlt) a₁ w₁ rfl hI₁
        exact ⟨e₂, a₂, w₂, hq₂, .of_steps (Steps.trans harr (.one step_inLoop)) harr₂⟩
      | exit id => exact ⟨_, a₁, w₁, hq, .pass (x := .inLoop c) rfl (fun _ _ => .inl (by simp)) harr⟩
      | goto l => exact ⟨_, a₁, w₁, hq, .pass (x := .inLoop c) rfl (fun _ _ => .inl (by simp)) harr⟩
      | ret => exact ⟨_, a₁, w₁, hq, .pass (x := .inLoop c) rfl (fun _ _ => .inl (by simp)) harr⟩
      | panic ch => exact ⟨_, a₁, w₁, hq, .pass (x := .inLoop c) rfl (fun _ _ => .inl (by simp)) harr⟩
      | outgrown => exact ⟨_, a₁, w₁, hq, .pass (x := .inLoop c) rfl (fun _ _ => .inl (by simp)) harr⟩
  obtain ⟨e, a', w', hq, harr⟩ := key _ a w rfl h₀
  exact ⟨e, a', w', hq, .of_steps (.one step_loop) harr⟩

theorem wpN_region {id : Nat} (h : LN P ops Q 0 ops.size a w) : wpN P (Code.region id ops false) Q a w :=
  fun b k cs hb => let ⟨e, a', w', q, r⟩ := h b k cs hb; ⟨e, a', w', q, .of_steps (.one (by rw [step_region, List.range_eq_range'])) r⟩

theorem LN_list {i : Nat} (l : List Oper) (hl : ∀ j, l[j]? = ops[i + j]?) (h : wpList P ops Q l a w) : LN P ops Q i l.length a w :=
  fun b k cs _ => wp_ops _ a w (by rw [wpOps_eq_wpList l i hl]; exact h) b k cs

theorem LN_value {i n : Nat} {o : Oper} {v : Value} {w' : World} (ho : ops[i]? = some o) (hw : Region.wanted o (yielded ops a.tmps) = true) (hr : (execOp a.eval o).run P w = .ok (.value v) w')
    (h : LN P ops Q (i + 1) n (a.put o.dst v) w') : LN P ops Q i (n + 1) a w := by
  intro b k cs hb
  obtain ⟨e, a', w'', hq, harr⟩ := h b k cs hb
  refine ⟨e, a', w'', hq, ?_⟩
  rw [List.range'_succ]
  refine .of_steps (.one (step_lone_go ?_)) harr
  have hfin : (b.at a (.inRegion ops (i :: List.range' (i + 1) n) :: k)).finish v = b.at (a.put o.dst v) (.inRegion ops (List.range' (i + 1) n) :: k) := by rw [Frame.finish_at, ho]; rfl
  rw [stepG_op (P := P) (b := b) (k := k) (cs := cs) (w := w) ho hw, ← hfin]
  simp [stepG.apply, hr]

theorem LN_comm {i n : Nat} {o : Oper} {v : Value} {w' w'' : World} {cases : Array CommCase} {blocking : Bool} {shape : CommShape} (ho : ops[i]? = some o) (hw : Region.wanted o (yielded ops a.tmps) = true)
    (hr : (execOp a.eval o).run P w = .ok (.comm cases blocking shape) w')
    (hstep : ∀ (fr : Frame) (cs : List Frame) (es : Array Event), stepG P true (G fr cs) w = .comm (G fr cs) cases blocking shape w' es → step P (solo (G fr cs) w) = .next (solo (G (fr.finish v) cs) w''))
    (h : LN P ops Q (i + 1) n (a.put o.dst v) w'') : LN P ops Q i (n + 1) a w := by
  intro b k cs hb
  obtain ⟨e, a', w₂, hq, harr⟩ := h b k cs hb
  refine ⟨e, a', w₂, hq, ?_⟩
  rw [List.range'_succ]
  have hfin : (b.at a (.inRegion ops (i :: List.range' (i + 1) n) :: k)).finish v = b.at (a.put o.dst v) (.inRegion ops (List.range' (i + 1) n) :: k) := by rw [Frame.finish_at, ho]; rfl
  have hs := hstep (b.at a (.inRegion ops (i :: List.range' (i + 1) n) :: k)) cs _ (stepG_comm ho hw (by rw [hb]; decide) hr)
  rw [hfin] at hs
  exact .of_steps (.one hs) harr

theorem wpN_region_first {id : Nat} {o : Oper} {l : List Oper} {v : Value} {w' w'' : World} {cases : Array CommCase} {blocking : Bool} {shape : CommShape} (hw : Region.wanted o (yielded (o :: l).toArray a.tmps) = true)
    (hr : (execOp a.eval o).run P w = .ok (.comm cases blocking shape) w')
    (hstep : ∀ (fr : Frame) (cs : List Frame) (es : Array Event), stepG P true (G fr cs) w = .comm (G fr cs) cases blocking shape w' es → step P (solo (G fr cs) w) = .next (solo (G (fr.finish v) cs) w''))
    (h : wpList P (o :: l).toArray Q l (a.put o.dst v) w'') : wpN P (Code.region id (o :: l).toArray false) Q a w := by
  refine wpN_region ?_
  have := LN_comm (ops := (o :: l).toArray) (Q := Q) (n := l.length) (i := 0) (by simp) hw hr hstep (LN_list (i := 0 + 1) l (by intro j; simp [Nat.add_comm]) h)
  simpa using this

/-- Two moves and a communication. -/
theorem wpN_region_send {id : Nat} {o1 o2 o : Oper} {v1 v2 v : Value} {w' w'' : World} {cases : Array CommCase} {blocking : Bool} {shape : CommShape}
    (hw1 : Region.wanted o1 (yielded #[o1, o2, o] a.tmps) = true) (hr1 : (execOp a.eval o1).run P w = .ok (.value v1) w)
    (hw2 : Region.wanted o2 (yielded #[o1, o2, o] (a.put o1.dst v1).tmps) = true) (hr2 : (execOp (a.put o1.dst v1).eval o2).run P w = .ok (.value v2) w)
    (hw : Region.wanted o (yielded #[o1, o2, o] ((a.put o1.dst v1).put o2.dst v2).tmps) = true)
    (hr : (execOp ((a.put o1.dst v1).put o2.dst v2).eval o).run P w = .ok (.comm cases blocking shape) w')
    (hstep : ∀ (fr : Frame) (cs : List Frame) (es : Array Event), stepG P true (G fr cs) w = .comm (G fr cs) cases blocking shape w' es → step P (solo (G fr cs) w) = .next (solo (G (fr.finish v) cs) w''))
    (h : Q .normal (((a.put o1.dst v1).put o2.dst v2).put o.dst v) w'') : wpN P (Code.region id #[o1, o2, o] false) Q a w := by
  refine wpN_region ?_
  exact LN_value (ops := #[o1, o2, o]) (n := 2) (i := 0) (by simp) hw1 hr1 (LN_value (n := 1) (by simp) hw2 hr2 (LN_comm (n := 0) (by simp) hw hr hstep (LN_list (i := 0 + 1 + 1 + 1) [] (by intro j; simp) h)))

theorem calls_of_wpN {f : FuncId} {fn : Func} {c : Code} {args : Array Value} {R : Ending → World → Prop} (hf : P.funcs[f]? = some fn) (hb : fn.body = some c)
    (h : wpN P c (bodyPost P fn R) { tmps := args ++ Array.replicate (fn.ntmps - args.size) undef, defers := [] } w) : Calls P f args w R := by
  intro cs
  let b : Frame := { (default : Frame) with fn := f, kind := .normal }
  have henter : Frame.enter P f args .normal = b.at { tmps := args ++ Array.replicate (fn.ntmps - args.size) undef, defers := [] } [.code c] := by
    simp [Frame.enter, Frame.at, hf, hb, b]
  obtain ⟨e, a', w', hq, harr⟩ := h b [] cs rfl
  rw [← henter] at harr
  cases e with
  | normal =>
    obtain ⟨hd, v, hr, hR⟩ := hq
    exact ⟨.returned v, w', _, hR, Steps.trans harr (.one step_end), rfl, rfl, hd, rfl, fn, hf, hr⟩
  | ret =>
    obtain ⟨hd, v, hr, hR⟩ := hq
    obtain ⟨todo, hs⟩ := harr
    exact ⟨.returned v, w', _, hR, hs, rfl, rfl, hd, rfl, fn, hf, hr⟩
  | panic chain =>
    obtain ⟨hd, hR⟩ := hq
    obtain ⟨todo, hs⟩ := harr
    exact ⟨.panicked chain, w', _, hR, hs, rfl, rfl, hd, fn, hf⟩
  | exit id => exact hq.elim
  | goto l => exact hq.elim
  | outgrown => exact ⟨.outgrown, w', b, hq, harr.resolve_left (by simp [b]), rfl, trivial⟩
end

theorem setChan_other (w : World) (c c' cap : Nat) (buf : Array Value) (closed : Bool) (s r : Nat) (tm : Bool) (h : c ≠ c') : (w.setChan c cap buf closed s r tm).heap[c']? = w.heap[c']? := by
  simp [World.setChan, Array.getElem?_setIfInBounds_ne h]

end Go.Proofs.Ytfdpmffoajjchaa
