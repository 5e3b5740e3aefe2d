/-
  A table of locks in memory: parties, locks, those who wait; each block bears a tag that says whose it is.
-/
import Derived.Test.YtclppfljengnbaaGreatMv
import Derived.Test.YtclppfljengnbaaGreatJo
import Derived.Lib.Strings
import Derived.Sort.EncStr
namespace Go.Proofs.YtclppfljengnbaaGreat
open Go.RowKit Go.Maps

abbrev Name := List UInt8
/-- A pointer to a block's front, or nil. -/
def ptr (o : Option Nat) : Value := .pointer (o.map fun b => ⟨b, 0, none⟩)
theorem ptr_some (b : Nat) : ptr (some b) = .pointer (some ⟨b, 0, none⟩) := rfl
theorem ptr_none : ptr none = .pointer none := rfl
abbrev nmV (n : Name) : Value := .string ⟨n.toArray⟩

structure Nd where
  t : Int
  n : Name
  m : Nat
  had : Nat
def nd0 : Nd := ⟨0, [], 0, 0⟩

inductive Tag
  | no
  | T
  | A
  | B
  | P (t : Int)
  | PM (t : Int)
  | L (n : Name)
  | LM (n : Name) (m : Nat)
  | E (n : Name)
  | W

structure Sg where
  T : Nat
  A : Nat
  B : Nat
  own : Nat → Tag
  pb : Int → Option Nat
  pm : Int → Nat
  ph : Int → Name → Nat
  pw : Int → Option Nat
  lb : Name → Option Nat
  lm : Name → Nat → Option Nat
  lh : Name → Nat → Int → Bool
  eb : Name → Nat
  ls : Name → Nat
  ah : Nat → Option Nat
  bh : Nat → Option Nat
  nd : Nat → Nd

def lkF (f : Name → Option Nat) : Lit → Option Value
  | .string n => (f n).map fun b => ptr (some b)
  | _ => none
def ptF (f : Int → Option Nat) : Lit → Option Value
  | .int .i64 t => (f t).map fun b => ptr (some b)
  | _ => none
def phF (g : Name → Nat) : Lit → Option Value
  | .string n => if g n = 0 then none else some (.int .i64 ((g n : Nat) : Int))
  | _ => none
def lhF (g : Int → Bool) : Lit → Option Value
  | .int .i64 t => if g t = true then some (.agg #[]) else none
  | _ => none

theorem lkF_upd (f : Name → Option Nat) (n : Name) (o : Option Nat) (x : Lit) : upd (lkF f) (.string n) (o.map fun b => ptr (some b)) x = lkF (upd f n o) x := by
  by_cases e : x = .string n
  · subst e
    rw [upd_same]
    simp only [lkF, upd_same]
  · rw [upd_other _ _ e]
    cases x with
    | string n' => simp only [lkF]; rw [upd_other _ _ (fun h => e (by rw [h]))]
    | _ => rfl
theorem ptF_upd (f : Int → Option Nat) (t : Int) (o : Option Nat) (x : Lit) : upd (ptF f) (.int .i64 t) (o.map fun b => ptr (some b)) x = ptF (upd f t o) x := by
  by_cases e : x = .int .i64 t
  · subst e
    rw [upd_same]
    simp only [ptF, upd_same]
  · rw [upd_other _ _ e]
    cases x with
    | int k t' =>
      cases k
      case i64 => simp only [ptF]; rw [upd_other _ _ (fun h => e (by rw [h]))]
      all_goals rfl
    | _ => rfl
theorem phF_put (g : Name → Nat) (n : Name) (m : Nat) (hm : m ≠ 0) (x : Lit) : upd (phF g) (.string n) (some (.int .i64 ((m : Nat) : Int))) x = phF (upd g n m) x := by
  by_cases e : x = .string n
  · subst e
    rw [upd_same]
    simp only [phF, upd_same, hm, if_false]
  · rw [upd_other _ _ e]
    cases x with
    | string n' => simp only [phF]; rw [upd_other _ _ (fun h => e (by rw [h]))]
    | _ => rfl
theorem lhF_upd (g : Int → Bool) (t : Int) (v : Bool) (x : Lit) : upd (lhF g) (.int .i64 t) (if v = true then some (.agg #[]) else none) x = lhF (upd g t v) x := by
  by_cases e : x = .int .i64 t
  · subst e
    rw [upd_same]
    simp only [lhF, upd_same]
  · rw [upd_other _ _ e]
    cases x with
    | int k t' =>
      cases k
      case i64 => simp only [lhF]; rw [upd_other _ _ (fun h => e (by rw [h]))]
      all_goals rfl
    | _ => rfl

/-- A map, or nil: then there is nothing in it. -/
def MapO (P : Program) (k : TypeId) (w : World) (o : Option Nat) (K : List Lit) (f : Lit → Option Value) : Prop := match o with
  | some A => MapV P k w A K f
  | none => ∀ x, f x = none
theorem MapO.at {P : Program} {k : TypeId} {w w' : World} {o : Option Nat} {K : List Lit} {f : Lit → Option Value} (h : MapO P k w o K f) (e : ∀ c, o = some c → w'.heap[c]? = w.heap[c]?) : MapO P k w' o K f := by
  cases o with
  | none => exact h
  | some c => exact MapV.at h (e c rfl)

structure PartyOk (KN : List Lit) (w : World) (own : Nat → Tag) (t : Int) (b pm : Nat) (pw : Option Nat) (ph : Name → Nat) : Prop where
  tag : own b = .P t
  tagm : own pm = .PM t
  blk : w.heap[b]? = some (.cells #[.map (some pm), ptr pw] 98)
  map : MapV Tryz.prog 9 w pm KN (phF ph)
theorem PartyOk.at {KN : List Lit} {w w' : World} {own own' : Nat → Tag} {t : Int} {b pm : Nat} {pw : Option Nat} {ph : Name → Nat} (h : PartyOk KN w own t b pm pw ph) (o1 : own' b = own b) (o2 : own' pm = own pm) (e1 : w'.heap[b]? = w.heap[b]?) (e2 : w'.heap[pm]? = w.heap[pm]?) : PartyOk KN w' own' t b pm pw ph :=
  ⟨o1.trans h.tag, o2.trans h.tagm, e1.trans h.blk, h.map.at e2⟩

structure LockOk (KT : List Lit) (w : World) (own : Nat → Tag) (n : Name) (b : Nat) (lm : Nat → Option Nat) (lh : Nat → Int → Bool) (eb ls : Nat) : Prop where
  tag : own b = .L n
  tage : own eb = .E n
  tagm : ∀ m c, lm m = some c → own c = .LM n m
  blk : w.heap[b]? = some (.cells #[nmV n, .map (lm 0), .map (lm 1), .map (lm 2), .map (lm 3), .map (lm 4), .map (lm 5), ptr (some eb), ptr (some ls)] 126)
  maps : ∀ m, MapO Tryz.prog 3 w (lm m) KT (lhF (lh m))
theorem LockOk.at {KT : List Lit} {w w' : World} {own own' : Nat → Tag} {n : Name} {b : Nat} {lm : Nat → Option Nat} {lh : Nat → Int → Bool} {eb ls : Nat} (h : LockOk KT w own n b lm lh eb ls) (o : ∀ i, own i ≠ .no → own' i = own i)
    (e : ∀ i, own i = .L n ∨ (∃ m, own i = .LM n m) → w'.heap[i]? = w.heap[i]?) : LockOk KT w' own' n b lm lh eb ls :=
  ⟨(o b (by rw [h.tag]; simp)).trans h.tag, (o eb (by rw [h.tage]; simp)).trans h.tage, fun m c hc => (o c (by rw [h.tagm m c hc]; simp)).trans (h.tagm m c hc), (e b (.inl h.tag)).trans h.blk,
    fun m => (h.maps m).at fun c hc => e c (.inr ⟨m, h.tagm m c hc⟩)⟩

def WaitOk (w : World) (b : Nat) (x : Nd) (ah bh : Option Nat) : Prop :=
  w.heap[b]? = some (.cells #[.int .i64 x.t, nmV x.n, .int .i64 ((x.m : Nat) : Int), .int .i64 ((x.had : Nat) : Int), ptr ah, ptr bh] 100)

def IsW : Tag → Prop
  | .W => True
  | .E _ => True
  | _ => False

/-- The table lies in memory as σ tells. -/
structure Mem (KT KN : List Lit) (w : World) (σ : Sg) : Prop where
  kt : KT.length ≤ 1000
  kn : KN.length ≤ 1000
  lt : ∀ b, σ.own b ≠ .no → b < w.heap.size
  tT : σ.own σ.T = .T
  tA : σ.own σ.A = .A
  tB : σ.own σ.B = .B
  hT : w.heap[σ.T]? = some (.cells #[.map (some σ.A), .map (some σ.B)] 67)
  hA : MapV Tryz.prog 9 w σ.A KN (lkF σ.lb)
  hB : MapV Tryz.prog 3 w σ.B KT (ptF σ.pb)
  hP : ∀ t b, σ.pb t = some b → PartyOk KN w σ.own t b (σ.pm t) (σ.pw t) (σ.ph t)
  hL : ∀ n b, σ.lb n = some b → LockOk KT w σ.own n b (σ.lm n) (σ.lh n) (σ.eb n) (σ.ls n)
  hW : ∀ b, IsW (σ.own b) → WaitOk w b (σ.nd b) (σ.ah b) (σ.bh b)

/-- From one world to a later one: nothing but the table's own blocks has turned. -/
structure Step (w : World) (σ : Sg) (w' : World) (σ' : Sg) : Prop where
  turn : Turn (fun i => σ.own i ≠ .no) w w'
  own : ∀ i, σ'.own i ≠ .no → σ.own i ≠ .no ∨ w.heap.size ≤ i
  top : σ'.T = σ.T
  tag : ∀ i, σ.own i ≠ .no → σ'.own i = σ.own i
theorem Step.refl (w : World) (σ : Sg) : Step w σ w σ := ⟨Turn.refl _ _, fun _ h => .inl h, rfl, fun _ _ => rfl⟩
theorem Step.trans {w1 w2 w3 : World} {a b c : Sg} (h : Step w1 a w2 b) (k : Step w2 b w3 c) : Step w1 a w3 c :=
  ⟨h.turn.trans k.turn fun i hi => h.own i hi, fun i hi => (k.own i hi).elim (h.own i) fun h1 => .inr (Nat.le_trans h.turn.size h1), k.top.trans h.top, fun i hi => (k.tag i (by rw [h.tag i hi]; exact hi)).trans (h.tag i hi)⟩
theorem Step.quiet {w w' : World} {σ : Sg} (h : Below w.heap.size w w') : Step w σ w' σ := ⟨Turn.of_below h _, fun _ h => .inl h, rfl, fun _ _ => rfl⟩

theorem tag_ne {own : Nat → Tag} {a b : Nat} {x y : Tag} (h1 : own a = x) (h2 : own b = y) (h : x ≠ y) : a ≠ b := fun e => h (by rw [← h1, ← h2, e])

section
variable {KT KN : List Lit} {w w' : World} {σ : Sg}

theorem Mem.keep {S : Nat → Prop} (h : Mem KT KN w σ) (t : Turn S w w') (hS : ∀ b, S b → σ.own b = .no) : Mem KT KN w' σ := by
  have e : ∀ b, σ.own b ≠ .no → w'.heap[b]? = w.heap[b]? := fun b hb => t.block b (h.lt b hb) fun hs => hb (hS b hs)
  exact ⟨h.kt, h.kn, fun b hb => Nat.lt_of_lt_of_le (h.lt b hb) t.size, h.tT, h.tA, h.tB, (e _ (by rw [h.tT]; simp)).trans h.hT, h.hA.at (e _ (by rw [h.tA]; simp)), h.hB.at (e _ (by rw [h.tB]; simp)),
    fun t b hb => (h.hP t b hb).at rfl rfl (e _ (by rw [(h.hP t b hb).tag]; simp)) (e _ (by rw [(h.hP t b hb).tagm]; simp)),
    fun n b hb => (h.hL n b hb).at (fun _ _ => rfl) (fun i hi => e i (by rcases hi with hi | ⟨m, hi⟩ <;> rw [hi] <;> simp)),
    fun b hb => (e b (fun e1 => by rw [e1] at hb; exact hb)).trans (h.hW b hb)⟩
theorem Mem.below (h : Mem KT KN w σ) (hb : Below w.heap.size w w') : Mem KT KN w' σ := h.keep (Turn.of_below hb fun _ => False) fun _ hf => hf.elim

/-- One who waits is turned. -/
theorem Mem.chW {b : Nat} (h : Mem KT KN w σ) (hb : IsW (σ.own b)) (t : Turn (fun i => i = b) w w') {a c : Option Nat} (hw : WaitOk w' b (σ.nd b) a c) : Mem KT KN w' { σ with ah := upd σ.ah b a, bh := upd σ.bh b c } := by
  have hn : ∀ i x, σ.own i = x → ¬ IsW x → i ≠ b := fun i x hi hx e => hx (by rw [← hi, e]; exact hb)
  have e : ∀ i x, σ.own i = x → ¬ IsW x → x ≠ .no → w'.heap[i]? = w.heap[i]? := fun i x hi hx h0 => t.block i (h.lt i (by rw [hi]; exact h0)) (hn i x hi hx)
  refine ⟨h.kt, h.kn, fun b hb => Nat.lt_of_lt_of_le (h.lt b hb) t.size, h.tT, h.tA, h.tB, (e _ _ h.tT (by simp [IsW]) (by simp)).trans h.hT, h.hA.at (e _ _ h.tA (by simp [IsW]) (by simp)), h.hB.at (e _ _ h.tB (by simp [IsW]) (by simp)),
    fun t b hb => (h.hP t b hb).at rfl rfl (e _ _ (h.hP t b hb).tag (by simp [IsW]) (by simp)) (e _ _ (h.hP t b hb).tagm (by simp [IsW]) (by simp)),
    fun n b hb => (h.hL n b hb).at (fun _ _ => rfl) (fun i hi => by rcases hi with hi | ⟨m, hi⟩ <;> exact e i _ hi (by simp [IsW]) (by simp)),
    fun i hi => ?_⟩
  by_cases ei : i = b
  · subst ei
    show WaitOk w' i (σ.nd i) (upd σ.ah i a i) (upd σ.bh i c i)
    rw [upd_same, upd_same]
    exact hw
  · show WaitOk w' i (σ.nd i) (upd σ.ah b a i) (upd σ.bh b c i)
    rw [upd_other _ _ ei, upd_other _ _ ei]
    exact (t.block i (h.lt i (fun e1 => by have hi : IsW (σ.own i) := hi; rw [e1] at hi; exact hi)) ei).trans (h.hW i hi)

/-- What a party waits for is turned. -/
theorem Mem.chP {b : Nat} {q : Int} (h : Mem KT KN w σ) (hb : σ.pb q = some b) (t : Turn (fun i => i = b) w w') {o : Option Nat} (hw : w'.heap[b]? = some (.cells #[.map (some (σ.pm q)), ptr o] 98)) : Mem KT KN w' { σ with pw := upd σ.pw q o } := by
  have hp := h.hP q b hb
  have e : ∀ i x, σ.own i = x → x ≠ .P q → x ≠ .no → w'.heap[i]? = w.heap[i]? := fun i x hi hx h0 => t.block i (h.lt i (by rw [hi]; exact h0)) (tag_ne hi hp.tag hx)
  refine ⟨h.kt, h.kn, fun b hb => Nat.lt_of_lt_of_le (h.lt b hb) t.size, h.tT, h.tA, h.tB, (e _ _ h.tT (by simp) (by simp)).trans h.hT, h.hA.at (e _ _ h.tA (by simp) (by simp)), h.hB.at (e _ _ h.tB (by simp) (by simp)),
    fun q' c hc => ?_,
    fun n b hb => (h.hL n b hb).at (fun _ _ => rfl) (fun i hi => by rcases hi with hi | ⟨m, hi⟩ <;> exact e i _ hi (by simp) (by simp)),
    fun i hi => (e i _ rfl (fun e1 => by have hi : IsW (σ.own i) := hi; rw [e1] at hi; exact hi) (fun e1 => by have hi : IsW (σ.own i) := hi; rw [e1] at hi; exact hi)).trans (h.hW i hi)⟩
  have hc : σ.pb q' = some c := hc
  by_cases eq : q' = q
  · subst eq
    obtain rfl : c = b := by rw [hc] at hb; exact Option.some.inj hb
    show PartyOk KN w' σ.own q' c (σ.pm q') (upd σ.pw q' o q') (σ.ph q')
    rw [upd_same]
    exact ⟨hp.tag, hp.tagm, hw, hp.map.at (e _ _ hp.tagm (by simp) (by simp))⟩
  · show PartyOk KN w' σ.own q' c (σ.pm q') (upd σ.pw q o q') (σ.ph q')
    rw [upd_other _ _ eq]
    have hq := h.hP q' c hc
    exact hq.at rfl rfl (e _ _ hq.tag (fun e1 => eq (by injection e1)) (by simp)) (e _ _ hq.tagm (by simp) (by simp))

/-- What a party has is turned. -/
theorem Mem.chPM {b : Nat} {q : Int} (h : Mem KT KN w σ) (hb : σ.pb q = some b) (t : Turn (fun i => i = σ.pm q) w w') {g : Name → Nat} (hw : MapV Tryz.prog 9 w' (σ.pm q) KN (phF g)) : Mem KT KN w' { σ with ph := upd σ.ph q g } := by
  have hp := h.hP q b hb
  have e : ∀ i x, σ.own i = x → x ≠ .PM q → x ≠ .no → w'.heap[i]? = w.heap[i]? := fun i x hi hx h0 => t.block i (h.lt i (by rw [hi]; exact h0)) (tag_ne hi hp.tagm hx)
  refine ⟨h.kt, h.kn, fun b hb => Nat.lt_of_lt_of_le (h.lt b hb) t.size, h.tT, h.tA, h.tB, (e _ _ h.tT (by simp) (by simp)).trans h.hT, h.hA.at (e _ _ h.tA (by simp) (by simp)), h.hB.at (e _ _ h.tB (by simp) (by simp)),
    fun q' c hc => ?_,
    fun n b hb => (h.hL n b hb).at (fun _ _ => rfl) (fun i hi => by rcases hi with hi | ⟨m, hi⟩ <;> exact e i _ hi (by simp) (by simp)),
    fun i hi => (e i _ rfl (fun e1 => by have hi : IsW (σ.own i) := hi; rw [e1] at hi; exact hi) (fun e1 => by have hi : IsW (σ.own i) := hi; rw [e1] at hi; exact hi)).trans (h.hW i hi)⟩
  have hc : σ.pb q' = some c := hc
  by_cases eq : q' = q
  · subst eq
    obtain rfl : c = b := by rw [hc] at hb; exact Option.some.inj hb
    show PartyOk KN w' σ.own q' c (σ.pm q') (σ.pw q') (upd σ.ph q' g q')
    rw [upd_same]
    exact ⟨hp.tag, hp.tagm, (e _ _ hp.tag (by simp) (by simp)).trans hp.blk, hw⟩
  · show PartyOk KN w' σ.own q' c (σ.pm q') (σ.pw q') (upd σ.ph q g q')
    rw [upd_other _ _ eq]
    have hq := h.hP q' c hc
    exact hq.at rfl rfl (e _ _ hq.tag (by simp) (by simp)) (e _ _ hq.tagm (fun e1 => eq (by injection e1)) (by simp))

/-- A lock's last conversion is turned. -/
theorem Mem.chLs {b : Nat} {n : Name} (h : Mem KT KN w σ) (hb : σ.lb n = some b) (t : Turn (fun i => i = b) w w') {x : Nat}
    (hw : w'.heap[b]? = some (.cells #[nmV n, .map (σ.lm n 0), .map (σ.lm n 1), .map (σ.lm n 2), .map (σ.lm n 3), .map (σ.lm n 4), .map (σ.lm n 5), ptr (some (σ.eb n)), ptr (some x)] 126)) : Mem KT KN w' { σ with ls := upd σ.ls n x } := by
  have hp := h.hL n b hb
  have e : ∀ i x, σ.own i = x → x ≠ .L n → x ≠ .no → w'.heap[i]? = w.heap[i]? := fun i x hi hx h0 => t.block i (h.lt i (by rw [hi]; exact h0)) (tag_ne hi hp.tag hx)
  refine ⟨h.kt, h.kn, fun b hb => Nat.lt_of_lt_of_le (h.lt b hb) t.size, h.tT, h.tA, h.tB, (e _ _ h.tT (by simp) (by simp)).trans h.hT, h.hA.at (e _ _ h.tA (by simp) (by simp)), h.hB.at (e _ _ h.tB (by simp) (by simp)),
    fun q' c hc => (h.hP q' c hc).at rfl rfl (e _ _ (h.hP q' c hc).tag (by simp) (by simp)) (e _ _ (h.hP q' c hc).tagm (by simp) (by simp)),
    fun n' c hc => ?_,
    fun i hi => (e i _ rfl (fun e1 => by have hi : IsW (σ.own i) := hi; rw [e1] at hi; exact hi) (fun e1 => by have hi : IsW (σ.own i) := hi; rw [e1] at hi; exact hi)).trans (h.hW i hi)⟩
  have hc : σ.lb n' = some c := hc
  by_cases eq : n' = n
  · subst eq
    obtain rfl : c = b := by rw [hc] at hb; exact Option.some.inj hb
    show LockOk KT w' σ.own n' c (σ.lm n') (σ.lh n') (σ.eb n') (upd σ.ls n' x n')
    rw [upd_same]
    exact ⟨hp.tag, hp.tage, hp.tagm, hw, fun m => (hp.maps m).at fun c hc => e _ _ (hp.tagm m c hc) (by simp) (by simp)⟩
  · show LockOk KT w' σ.own n' c (σ.lm n') (σ.lh n') (σ.eb n') (upd σ.ls n x n')
    rw [upd_other _ _ eq]
    exact (h.hL n' c hc).at (fun _ _ => rfl) (fun i hi => by
      rcases hi with hi | ⟨m, hi⟩
      · exact e i _ hi (fun e1 => eq (by injection e1)) (by simp)
      · exact e i _ hi (by simp) (by simp))

/-- Who has a mode is turned. -/
theorem Mem.chLM {b c m : Nat} {n : Name} (h : Mem KT KN w σ) (hb : σ.lb n = some b) (hm : σ.lm n m = some c) (t : Turn (fun i => i = c) w w') {g : Int → Bool} (hw : MapV Tryz.prog 3 w' c KT (lhF g)) : Mem KT KN w' { σ with lh := upd σ.lh n (upd (σ.lh n) m g) } := by
  have hp := h.hL n b hb
  have e : ∀ i x, σ.own i = x → x ≠ .LM n m → x ≠ .no → w'.heap[i]? = w.heap[i]? := fun i x hi hx h0 => t.block i (h.lt i (by rw [hi]; exact h0)) (tag_ne hi (hp.tagm m c hm) hx)
  refine ⟨h.kt, h.kn, fun b hb => Nat.lt_of_lt_of_le (h.lt b hb) t.size, h.tT, h.tA, h.tB, (e _ _ h.tT (by simp) (by simp)).trans h.hT, h.hA.at (e _ _ h.tA (by simp) (by simp)), h.hB.at (e _ _ h.tB (by simp) (by simp)),
    fun q' c hc => (h.hP q' c hc).at rfl rfl (e _ _ (h.hP q' c hc).tag (by simp) (by simp)) (e _ _ (h.hP q' c hc).tagm (by simp) (by simp)),
    fun n' b' hb' => ?_,
    fun i hi => (e i _ rfl (fun e1 => by have hi : IsW (σ.own i) := hi; rw [e1] at hi; exact hi) (fun e1 => by have hi : IsW (σ.own i) := hi; rw [e1] at hi; exact hi)).trans (h.hW i hi)⟩
  have hb' : σ.lb n' = some b' := hb'
  by_cases eq : n' = n
  · subst eq
    obtain rfl : b' = b := by rw [hb'] at hb; exact Option.some.inj hb
    show LockOk KT w' σ.own n' b' (σ.lm n') (upd σ.lh n' (upd (σ.lh n') m g) n') (σ.eb n') (σ.ls n')
    rw [upd_same]
    refine ⟨hp.tag, hp.tage, hp.tagm, (e _ _ hp.tag (by simp) (by simp)).trans hp.blk, fun m' => ?_⟩
    by_cases em : m' = m
    · subst em
      rw [upd_same, hm]
      exact hw
    · rw [upd_other _ _ em]
      exact (hp.maps m').at fun c' hc' => e _ _ (hp.tagm m' c' hc') (fun e1 => em (by injection e1)) (by simp)
  · show LockOk KT w' σ.own n' b' (σ.lm n') (upd σ.lh n (upd (σ.lh n) m g) n') (σ.eb n') (σ.ls n')
    rw [upd_other _ _ eq]
    exact (h.hL n' b' hb').at (fun _ _ => rfl) (fun i hi => by
      rcases hi with hi | ⟨m', hi⟩
      · exact e i _ hi (by simp) (by simp)
      · exact e i _ hi (fun e1 => eq (by injection e1)) (by simp))

/-- The map of locks is turned. -/
theorem Mem.chA (h : Mem KT KN w σ) (t : Turn (fun i => i = σ.A) w w') {f : Name → Option Nat} (hw : MapV Tryz.prog 9 w' σ.A KN (lkF f)) (hf : ∀ n b, f n = some b → LockOk KT w σ.own n b (σ.lm n) (σ.lh n) (σ.eb n) (σ.ls n)) : Mem KT KN w' { σ with lb := f } := by
  have e : ∀ i x, σ.own i = x → x ≠ .A → x ≠ .no → w'.heap[i]? = w.heap[i]? := fun i x hi hx h0 => t.block i (h.lt i (by rw [hi]; exact h0)) (tag_ne hi h.tA hx)
  exact ⟨h.kt, h.kn, fun b hb => Nat.lt_of_lt_of_le (h.lt b hb) t.size, h.tT, h.tA, h.tB, (e _ _ h.tT (by simp) (by simp)).trans h.hT, hw, h.hB.at (e _ _ h.tB (by simp) (by simp)),
    fun q' c hc => (h.hP q' c hc).at rfl rfl (e _ _ (h.hP q' c hc).tag (by simp) (by simp)) (e _ _ (h.hP q' c hc).tagm (by simp) (by simp)),
    fun n b hb => (hf n b hb).at (fun _ _ => rfl) (fun i hi => by rcases hi with hi | ⟨m, hi⟩ <;> exact e i _ hi (by simp) (by simp)),
    fun i hi => (e i _ rfl (fun e1 => by have hi : IsW (σ.own i) := hi; rw [e1] at hi; exact hi) (fun e1 => by have hi : IsW (σ.own i) := hi; rw [e1] at hi; exact hi)).trans (h.hW i hi)⟩
/-- The map of parties is turned. -/
theorem Mem.chB (h : Mem KT KN w σ) (t : Turn (fun i => i = σ.B) w w') {f : Int → Option Nat} (hw : MapV Tryz.prog 3 w' σ.B KT (ptF f)) (hf : ∀ q b, f q = some b → PartyOk KN w σ.own q b (σ.pm q) (σ.pw q) (σ.ph q)) : Mem KT KN w' { σ with pb := f } := by
  have e : ∀ i x, σ.own i = x → x ≠ .B → x ≠ .no → w'.heap[i]? = w.heap[i]? := fun i x hi hx h0 => t.block i (h.lt i (by rw [hi]; exact h0)) (tag_ne hi h.tB hx)
  exact ⟨h.kt, h.kn, fun b hb => Nat.lt_of_lt_of_le (h.lt b hb) t.size, h.tT, h.tA, h.tB, (e _ _ h.tT (by simp) (by simp)).trans h.hT, h.hA.at (e _ _ h.tA (by simp) (by simp)), hw,
    fun q' c hc => (hf q' c hc).at rfl rfl (e _ _ (hf q' c hc).tag (by simp) (by simp)) (e _ _ (hf q' c hc).tagm (by simp) (by simp)),
    fun n b hb => (h.hL n b hb).at (fun _ _ => rfl) (fun i hi => by rcases hi with hi | ⟨m, hi⟩ <;> exact e i _ hi (by simp) (by simp)),
    fun i hi => (e i _ rfl (fun e1 => by have hi : IsW (σ.own i) := hi; rw [e1] at hi; exact hi) (fun e1 => by have hi : IsW (σ.own i) := hi; rw [e1] at hi; exact hi)).trans (h.hW i hi)⟩

/-- A block that was nobody's gets a tag; nothing else turns. -/
theorem Mem.tagged {b : Nat} (h : Mem KT KN w σ) (hb : σ.own b = .no) (hl : b < w.heap.size) (x : Tag) (hx : ¬ IsW x) : Mem KT KN w { σ with own := upd σ.own b x } := by
  have o : ∀ i, σ.own i ≠ .no → upd σ.own b x i = σ.own i := fun i hi => upd_other _ _ fun e => hi (by rw [e]; exact hb)
  exact ⟨h.kt, h.kn, fun i hi => by
      by_cases e : i = b
      · rw [e]; exact hl
      · exact h.lt i (fun e1 => hi (by show upd σ.own b x i = _; rw [upd_other _ _ e]; exact e1)),
    (o _ (by rw [h.tT]; simp)).trans h.tT, (o _ (by rw [h.tA]; simp)).trans h.tA, (o _ (by rw [h.tB]; simp)).trans h.tB, h.hT, h.hA, h.hB,
    fun q c hc => (h.hP q c hc).at (o _ (by rw [(h.hP q c hc).tag]; simp)) (o _ (by rw [(h.hP q c hc).tagm]; simp)) rfl rfl,
    fun n c hc => (h.hL n c hc).at o (fun _ _ => rfl),
    fun i hi => by
      have hi : IsW (upd σ.own b x i) := hi
      by_cases e : i = b
      · subst e
        rw [upd_same] at hi
        exact absurd hi hx
      · rw [upd_other _ _ e] at hi
        exact h.hW i hi⟩
/-- .. and becomes one who waits. -/
theorem Mem.taggedW {b : Nat} (h : Mem KT KN w σ) (hb : σ.own b = .no) (hl : b < w.heap.size) (x : Tag) (d : Nd) (a c : Option Nat) (hw : WaitOk w b d a c) :
    Mem KT KN w { σ with own := upd σ.own b x, nd := upd σ.nd b d, ah := upd σ.ah b a, bh := upd σ.bh b c } := by
  have o : ∀ i, σ.own i ≠ .no → upd σ.own b x i = σ.own i := fun i hi => upd_other _ _ fun e => hi (by rw [e]; exact hb)
  exact ⟨h.kt, h.kn, fun i hi => by
      by_cases e : i = b
      · rw [e]; exact hl
      · exact h.lt i (fun e1 => hi (by show upd σ.own b x i = _; rw [upd_other _ _ e]; exact e1)),
    (o _ (by rw [h.tT]; simp)).trans h.tT, (o _ (by rw [h.tA]; simp)).trans h.tA, (o _ (by rw [h.tB]; simp)).trans h.tB, h.hT, h.hA, h.hB,
    fun q c hc => (h.hP q c hc).at (o _ (by rw [(h.hP q c hc).tag]; simp)) (o _ (by rw [(h.hP q c hc).tagm]; simp)) rfl rfl,
    fun n c hc => (h.hL n c hc).at o (fun _ _ => rfl),
    fun i hi => by
      have hi : IsW (upd σ.own b x i) := hi
      show WaitOk w i (upd σ.nd b d i) (upd σ.ah b a i) (upd σ.bh b c i)
      by_cases e : i = b
      · subst e
        rw [upd_same, upd_same, upd_same]
        exact hw
      · rw [upd_other _ _ e] at hi
        rw [upd_other _ _ e, upd_other _ _ e, upd_other _ _ e]
        exact h.hW i hi⟩
end

end Go.Proofs.YtclppfljengnbaaGreat
