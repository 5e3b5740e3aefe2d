/-
  Rows of messages of one's own; Peek.
-/
import Derived.Test.YtfdpmffoajjchaaFr
import Derived.Deep.QuietTactic
namespace Go.Proofs.Ytfdpmffoajjchaa
open Go.RowKit Go.Conc

def msL (m : Ms) (p : Pl) : List Value := (msC m p).toList
theorem msL_length (m : Ms) (p : Pl) : (msL m p).length = 9 := rfl
def allC : List Ms → List Pl → List Value
  | m :: ms, p :: ps => msL m p ++ allC ms ps
  | _, _ => []
theorem allC_append (ms : List Ms) : ∀ (ps : List Pl) (m : Ms) (p : Pl), ms.length = ps.length → allC (ms ++ [m]) (ps ++ [p]) = allC ms ps ++ msL m p := by
  induction ms with
  | nil =>
    intro ps m p h
    have e : ps = [] := List.eq_nil_of_length_eq_zero (by simpa using h.symm)
    subst e
    show msL m p ++ [] = [] ++ msL m p
    rw [List.append_nil, List.nil_append]
  | cons x ms ih =>
    intro ps m p h
    cases ps with
    | nil => simp at h
    | cons y ps =>
      show msL x y ++ allC (ms ++ [m]) (ps ++ [p]) = (msL x y ++ allC ms ps) ++ msL m p
      rw [ih ps m p (by simpa using h), List.append_assoc]
theorem allC_get (ms : List Ms) : ∀ (ps : List Pl) (i : Nat) (m : Ms) (p : Pl) (j : Nat), ms[i]? = some m → ps[i]? = some p → j < 9 → (allC ms ps)[i * 9 + j]? = (msL m p)[j]? := by
  induction ms with
  | nil => intro ps i m p j h; simp at h
  | cons x ms ih =>
    intro ps i m p j h1 h2 hj
    cases ps with
    | nil => simp at h2
    | cons y ps =>
      show (msL x y ++ allC ms ps)[i * 9 + j]? = _
      cases i with
      | zero =>
        simp only [List.getElem?_cons_zero, Option.some.injEq] at h1 h2
        subst h1
        subst h2
        rw [Nat.zero_mul, Nat.zero_add, List.getElem?_append_left (by rw [msL_length]; exact hj)]
      | succ i =>
        rw [List.getElem?_append_right (by rw [msL_length]; omega), msL_length, show (i + 1) * 9 + j - 9 = i * 9 + j by omega]
        exact ih ps i m p j (by simpa using h1) (by simpa using h2) hj

/-- Lists of two messages lie in different blocks. -/
def Disj (p q : Pl) : Prop := (∀ x y, p.wa = some x → q.wa = some y → x.block ≠ y.block) ∧ (∀ x y, p.pa = some x → q.pa = some y → x.block ≠ y.block)
theorem Disj.symm {p q : Pl} (h : Disj p q) : Disj q p := ⟨fun x y h1 h2 e => h.1 y x h2 h1 e.symm, fun x y h1 h2 e => h.2 y x h2 h1 e.symm⟩

/-- Lists from block B on. -/
def From (B : Nat) (p : Pl) : Prop := (∀ x, p.wa = some x → B ≤ x.block) ∧ (∀ x, p.pa = some x → B ≤ x.block)
def Till (B : Nat) (p : Pl) : Prop := (∀ x, p.wa = some x → x.block < B) ∧ (∀ x, p.pa = some x → x.block < B)
theorem own_from {W : World} {B : Nat} {m : Ms} {p : Pl} (h : Own W B m p) : From B p := by
  refine ⟨fun x hx => ?_, fun x hx => ?_⟩
  · rcases own_addr h.ow with ⟨e, _⟩ | ⟨g, cur, e, hb, _⟩
    · rw [e] at hx; simp at hx
    · rw [e] at hx; simp at hx; subst hx; exact hb
  · rcases own_addr h.op with ⟨e, _⟩ | ⟨g, cur, e, hb, _⟩
    · rw [e] at hx; simp at hx
    · rw [e] at hx; simp at hx; subst hx; exact hb
theorem own_till {W : World} {B : Nat} {m : Ms} {p : Pl} (h : Own W B m p) : Till W.heap.size p := by
  refine ⟨fun x hx => ?_, fun x hx => ?_⟩
  · rcases own_addr h.ow with ⟨e, _⟩ | ⟨g, cur, e, _, hg, _⟩
    · rw [e] at hx; simp at hx
    · rw [e] at hx; simp at hx; subst hx; exact (Array.getElem?_eq_some_iff.1 hg).1
  · rcases own_addr h.op with ⟨e, _⟩ | ⟨g, cur, e, _, hg, _⟩
    · rw [e] at hx; simp at hx
    · rw [e] at hx; simp at hx; subst hx; exact (Array.getElem?_eq_some_iff.1 hg).1
theorem disj_of {B : Nat} {p q : Pl} (h1 : Till B p) (h2 : From B q) : Disj p q :=
  ⟨fun x y hx hy e => by have := h1.1 x hx; have := h2.1 y hy; omega, fun x y hx hy e => by have := h1.2 x hx; have := h2.2 y hy; omega⟩
theorem Till.mono {B B' : Nat} {p : Pl} (h : Till B p) (hb : B ≤ B') : Till B' p := ⟨fun x hx => by have := h.1 x hx; omega, fun x hx => by have := h.2 x hx; omega⟩

/-- A row of messages of one's own, from block B on. -/
structure AllR (W : World) (B : Nat) (v : Value) (ms : List Ms) (ps : List Pl) : Prop where
  len : ms.length = ps.length
  row : W.ownsRow B 31 9 v ms.length (allC ms ps)
  each : ∀ (i : Nat) (m : Ms) (p : Pl), ms[i]? = some m → ps[i]? = some p → Own W B m p
  dis : ∀ (i j : Nat) (p q : Pl), i < j → ps[i]? = some p → ps[j]? = some q → Disj p q

theorem AllR.nil (W : World) (B : Nat) : AllR W B (.slice none 0 0) [] [] := ⟨rfl, World.ownsRow_nil _ _ _ _, fun i m p h => by simp at h, fun i j p q _ h => by simp at h⟩
theorem AllR.keep {W W' : World} {B : Nat} {v : Value} {ms : List Ms} {ps : List Pl} (h : AllR W B v ms ps) (hk : KeepC W W') : AllR W' B v ms ps := ⟨h.len, own_keep h.row hk, fun i m p h1 h2 => (h.each i m p h1 h2).keep hk, h.dis⟩
theorem AllR.till {W : World} {B : Nat} {v : Value} {ms : List Ms} {ps : List Pl} (h : AllR W B v ms ps) : ∀ q, q ∈ ps → Till W.heap.size q := by
  intro q hq
  obtain ⟨i, hi⟩ := List.mem_iff_getElem?.1 hq
  have hl := h.len
  have hip := (List.getElem?_eq_some_iff.1 hi).1
  exact own_till (h.each i _ q (List.getElem?_eq_getElem (by omega)) hi)
theorem AllR.shape {W : World} {B : Nat} {v : Value} {ms : List Ms} {ps : List Pl} (h : AllR W B v ms ps) : ∃ a c, v = .slice a ms.length c := ownsRow_shape h.row
theorem AllR.block {W : World} {B : Nat} {v : Value} {ms : List Ms} {ps : List Pl} (h : AllR W B v ms ps) : ∀ k, v.ownBlock = some k → B ≤ k ∧ ∃ c, W.heap[k]? = some (.cells c 31) := by
  intro k hk
  rcases h.row.2 with ⟨rfl, _⟩ | ⟨g, cap, cur, rfl, hb, hg, _⟩
  · simp [Value.ownBlock] at hk
  · simp [Value.ownBlock] at hk
    subst hk
    exact ⟨hb, cur, hg⟩

/-- An append turns no list of a message. -/
theorem Own.grown {W y : World} {B : Nat} {m : Ms} {p : Pl} {r : Option Nat} (h : Own W B m p) (hg : W.grownBy y r) (hr : ∀ k, r = some k → ∃ c, W.heap[k]? = some (.cells c 31)) : Own y B m p := by
  have key : ∀ (k : Nat) (c : Array Value) (t : Nat), t ≠ 31 → W.heap[k]? = some (Obj.cells c t) → y.heap[k]? = W.heap[k]? := by
    intro k c t ht hc
    refine hg.block k (Array.getElem?_eq_some_iff.1 hc).1 (fun e => ?_)
    obtain ⟨c', hc'⟩ := hr k e.symm
    exact kind_ne hc hc' ht rfl
  exact ⟨own_stay h.ow fun k c _ hc => key k c 71 (by decide) hc, own_stay h.op fun k c _ hc => key k c 3 (by decide) hc⟩

theorem AllR.push {W y : World} {B : Nat} {v v' : Value} {ms : List Ms} {ps : List Pl} {m : Ms} {p : Pl} (h : AllR W B v ms ps) (ho : Own W B m p) (hd : ∀ q, q ∈ ps → Disj q p) (hv : y.ownsRow B 31 9 v' (ms.length + 1) (allC ms ps ++ msL m p)) (hg : W.grownBy y v.ownBlock) : AllR y B v' (ms ++ [m]) (ps ++ [p]) := by
  have hl := h.len
  have hr : ∀ k, v.ownBlock = some k → ∃ c, W.heap[k]? = some (.cells c 31) := fun k hk => (h.block k hk).2
  refine ⟨by simp [hl], by rw [allC_append _ _ _ _ hl, List.length_append]; exact hv, fun i x q h1 h2 => ?_, fun i j q r hij h1 h2 => ?_⟩
  rotate_left
  · have hj := (List.getElem?_eq_some_iff.1 h2).1
    simp at hj
    rw [List.getElem?_append_left (by omega)] at h1
    by_cases e : j < ps.length
    · rw [List.getElem?_append_left e] at h2
      exact h.dis i j q r hij h1 h2
    · have e2 : j = ps.length := by omega
      subst e2
      rw [List.getElem?_append_right (Nat.le_refl _)] at h2
      simp at h2
      subst h2
      exact hd q (List.mem_iff_getElem?.2 ⟨i, h1⟩)
  by_cases e : i < ms.length
  · rw [List.getElem?_append_left e] at h1
    rw [List.getElem?_append_left (by omega)] at h2
    exact (h.each i x q h1 h2).grown hg hr
  · rw [List.getElem?_append_right (by omega)] at h1
    rw [List.getElem?_append_right (by omega)] at h2
    have e1 : i - ms.length = 0 := by
      have := (List.getElem?_eq_some_iff.1 h1).1
      simp at this
      omega
    have e2 : i - ps.length = 0 := by omega
    rw [e1] at h1
    rw [e2] at h2
    simp at h1 h2
    subst h1
    subst h2
    exact ho.grown hg hr

/-- The messages of a row, as they lie. -/
structure RowM (W : World) (l : List Nat) (ms : List Ms) : Prop where
  len : l.length = ms.length
  each : ∀ (i b : Nat) (m : Ms), l[i]? = some b → ms[i]? = some m → Lim m ∧ ∃ p, W.heap[b]? = some (.cells (msC m p) 31) ∧ MI W m p
theorem RowM.keep {W W' : World} {l : List Nat} {ms : List Ms} (h : RowM W l ms) (hk : KeepC W W') : RowM W' l ms :=
  ⟨h.len, fun i b m h1 h2 => by
    obtain ⟨hL, p, hb, hm⟩ := h.each i b m h1 h2
    exact ⟨hL, p, hk _ _ _ _ hb, hm.keep hk⟩⟩

theorem info31 : (Try.prog.info? 31).map (fun i => (i.zero, i.size, i.bytes)) = some (some (.agg zeroC), 9, 112) := by kernel_rfl

set_option maxRecDepth 100000 in
theorem peek_no (w : World) (a : Value) (f t : Int) (hb : Calls Try.prog 26 #[a, .int .i64 f, .int .i64 t] w fun e w' => e = .returned (.chan none) ∧ w' = w) :
    Calls Try.prog 16 #[a, .int .i64 f, .int .i64 t] w fun e w' => e = .returned (.slice none 0 0) ∧ w' = w := by
  have hl := run_len_nil w
  have HB := toHid hb
  clear hb
  refine calls_of_wpN Try.func16 rfl ?_
  simp only [Try.ntmps16, List.size_toArray, List.length_cons, List.length_nil, Nat.reduceAdd, Nat.reduceSub, Array.replicate_succ, Array.replicate_zero, List.push_toArray, List.append_toArray, List.nil_append, List.cons_append]
  refine wpN_seq_k fun K hK => ?_
  go_wp2_with fail
  refine wpN_seq_k fun K hK => ?_
  go_wp2_with (go_at_call 26; refine Calls.mono HB.out ?_; rintro e w' ⟨rfl, hw⟩; obtain rfl := hw.symm)
  refine wpN_seq_k fun K hK => ?_
  go_wp2_with fail
  refine wpN_seqN_k fun K hK => ?_
  refine wpN_seq_k fun K2 hK2 => ?_
  go_wp2_with fail
  refine wpN_block ?_
  refine wpN_loop (fun A W => A = ⟨#[a, .int .i64 f, .int .i64 t, undef, undef, undef, .slice none 0 0, .chan none, .slice none 0 0, undef, a, .int .i64 f, .int .i64 t, .chan none, .chan none, .int .i64 0, .int .i64 0, undef, undef, undef, undef, undef, undef, undef, undef, undef, undef, undef, undef, undef, undef], []⟩ ∧ W = w) (fun _ _ => 0) ⟨rfl, rfl⟩ ?_
  rintro A W ⟨rfl, rfl⟩
  refine wpN_of ?_
  go_wp2_with fail
  refine wpN_of ?_
  go_wp2_with fail
  go_ret
  exact ⟨rfl, rfl⟩

end Go.Proofs.Ytfdpmffoajjchaa
