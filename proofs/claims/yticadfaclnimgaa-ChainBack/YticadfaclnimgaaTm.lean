/-
  An instance's table of transactions in memory.
-/
import Derived.Test.YticadfaclnimgaaMv
import Derived.Test.YticadfaclnimgaaChecked
namespace Go.Proofs.Yticadfaclnimgaa
open Go.RowKit Go.Maps

/-- A transaction. -/
structure Tn where
  st : Int
  last : Nat
  next : Nat
  need : Nat
  saves : List Nat
def tn0 : Tn := ⟨0, 0, 0, 0, []⟩
def lsns (l : List Nat) : List Value := l.map fun n : Nat => Value.int .u64 (n : Int)
abbrev txC (x : Tn) (v : Value) : Array Value := #[.int .i64 x.st, .int .u64 (x.last : Int), .int .u64 (x.next : Int), .int .i64 (x.need : Int), v]

/-- A table: what is known of each transaction, in which block it lies, and where its savepoints lie. -/
structure Sg where
  f : Int → Option Tn
  b : Int → Nat
  v : Int → Value

def ptF (σ : Sg) : Lit → Option Value
  | .int .i64 t => (σ.f t).map fun _ => .pointer (some ⟨σ.b t, 0, none⟩)
  | _ => none

/-- The blocks that a table turns. -/
def Foot (A : Nat) (σ : Sg) (k : Nat) : Prop := k = A ∨ ∃ t x, σ.f t = some x ∧ (k = σ.b t ∨ (σ.v t).ownBlock = some k)

structure Tb (w : World) (B T A : Nat) (K : List Lit) (M : Nat) (σ : Sg) : Prop where
  tab : w.heap[T]? = some (.cells #[.map (some A)] 71)
  hT : B ≤ T
  hA : B ≤ A
  map : MapV Try.prog 3 w A K (ptF σ)
  blk : ∀ t x, σ.f t = some x → B ≤ σ.b t ∧ w.heap[σ.b t]? = some (.cells (txC x (σ.v t)) 74)
  row : ∀ t x, σ.f t = some x → w.ownsRow B 27 1 (σ.v t) x.saves.length (lsns x.saves)
  inj : ∀ t u x y, σ.f t = some x → σ.f u = some y → t ≠ u → σ.b t ≠ σ.b u ∧ ∀ g, (σ.v t).ownBlock = some g → (σ.v u).ownBlock ≠ some g
  lim : ∀ t x, σ.f t = some x → x.need ≤ M ∧ x.saves.length ≤ 4
  kl : K.length ≤ 1000

/-- What a call leaves: nothing but the table's blocks has turned, and they are its elder ones, or new. -/
structure Step (A : Nat) (w : World) (σ : Sg) (w' : World) (σ' : Sg) : Prop where
  turn : Turn (Foot A σ) w w'
  foot : ∀ k, Foot A σ' k → Foot A σ k ∨ w.heap.size ≤ k

theorem own_at {w w' : World} {B e s n : Nat} {v : Value} {xs : List Value} (h : w.ownsRow B e s v n xs) (he : ∀ g, v.ownBlock = some g → w'.heap[g]? = w.heap[g]?) : w'.ownsRow B e s v n xs := by
  refine ⟨h.1, ?_⟩
  rcases h.2 with h0 | ⟨g, cap, cur, rfl, hb, hg, rest⟩
  · exact .inl h0
  · exact .inr ⟨g, cap, cur, rfl, hb, (he g rfl).trans hg, rest⟩
theorem own_kind {w : World} {B e s n g : Nat} {v : Value} {xs : List Value} (h : w.ownsRow B e s v n xs) (hg : v.ownBlock = some g) : B ≤ g ∧ ∃ cur, w.heap[g]? = some (.cells cur e (0, 0)) := by
  rcases h.2 with ⟨rfl, _⟩ | ⟨g', cap, cur, rfl, hb, hh, rest⟩
  · cases hg
  · simp [Value.ownBlock] at hg
    subst hg
    exact ⟨hb, cur, hh⟩
theorem some_lt {w : World} {k : Nat} {o : Obj} (h : w.heap[k]? = some o) : k < w.heap.size := (Array.getElem?_eq_some_iff.1 h).1
theorem cells5 {w : World} {g : Nat} {a b c d e : Value} {t : TypeId} (h : w.heap[g]? = some (.cells #[a, b, c, d, e] t)) :
    w.cell? ⟨g, 0, none⟩ = some a ∧ w.cell? ⟨g, 1, none⟩ = some b ∧ w.cell? ⟨g, 2, none⟩ = some c ∧ w.cell? ⟨g, 3, none⟩ = some d ∧ w.cell? ⟨g, 4, none⟩ = some e := by
  refine ⟨?_, ?_, ?_, ?_, ?_⟩ <;> simp [World.cell?, h]
theorem frozen5 {w : World} {g : Nat} {a b c d e : Value} {t : TypeId} (h : w.heap[g]? = some (.cells #[a, b, c, d, e] t)) :
    w.frozen? ⟨g, 0, none⟩ = false ∧ w.frozen? ⟨g, 1, none⟩ = false ∧ w.frozen? ⟨g, 2, none⟩ = false ∧ w.frozen? ⟨g, 3, none⟩ = false ∧ w.frozen? ⟨g, 4, none⟩ = false := by
  refine ⟨?_, ?_, ?_, ?_, ?_⟩ <;> simp [World.frozen?, h]

section
variable {w w' : World} {B T A M : Nat} {K : List Lit} {σ : Sg} {t : Int} {x : Tn}

theorem Tb.cellT (h : Tb w B T A K M σ) : w.cell? ⟨T, 0, none⟩ = some (.map (some A)) := by simp [World.cell?, h.tab]
theorem Tb.lt (h : Tb w B T A K M σ) : T < w.heap.size := some_lt h.tab
theorem Tb.ltA (h : Tb w B T A K M σ) : A < w.heap.size := h.map.lt
theorem Tb.foot_low (h : Tb w B T A K M σ) {k : Nat} (hk : Foot A σ k) : B ≤ k ∧ k < w.heap.size := by
  rcases hk with rfl | ⟨t, x, hx, rfl | hg⟩
  · exact ⟨h.hA, h.ltA⟩
  · exact ⟨(h.blk t x hx).1, some_lt (h.blk t x hx).2⟩
  · obtain ⟨h1, cur, h2⟩ := own_kind (h.row t x hx) hg
    exact ⟨h1, some_lt h2⟩
theorem Tb.foot_kind (h : Tb w B T A K M σ) {k : Nat} (hk : Foot A σ k) : (∃ es c, w.heap[k]? = some (.map es c)) ∨ (∃ cs, w.heap[k]? = some (.cells cs 74)) ∨ ∃ cs, w.heap[k]? = some (.cells cs 27) := by
  rcases hk with rfl | ⟨t, x, hx, rfl | hg⟩
  · exact .inl h.map.blk
  · exact .inr (.inl ⟨_, (h.blk t x hx).2⟩)
  · obtain ⟨_, cur, h2⟩ := own_kind (h.row t x hx) hg
    exact .inr (.inr ⟨cur, h2⟩)
theorem Tb.other (h : Tb w B T A K M σ) {k : Nat} {cs : Array Value} {ty : TypeId} {fr : Nat × Nat} (hk : w.heap[k]? = some (.cells cs ty fr)) (h1 : ty ≠ 74) (h2 : ty ≠ 27) : ¬ Foot A σ k := by
  intro hf
  rcases h.foot_kind hf with ⟨es, c, e⟩ | ⟨cs', e⟩ | ⟨cs', e⟩ <;> rw [hk] at e
  · cases e
  · injection e with e; injection e with e1 e2; exact h1 e2
  · injection e with e; injection e with e1 e2; exact h2 e2
theorem Tb.notT (h : Tb w B T A K M σ) : ¬ Foot A σ T := h.other h.tab (by decide) (by decide)
theorem Tb.keep {S : Nat → Prop} (h : Tb w B T A K M σ) (tn : Turn S w w') (hS : ∀ k, S k → ¬ Foot A σ k ∧ k ≠ T) : Tb w' B T A K M σ := by
  have hf : ∀ k, Foot A σ k → w'.heap[k]? = w.heap[k]? := fun k hk => tn.block k (h.foot_low hk).2 fun hs => (hS k hs).1 hk
  refine ⟨(tn.block T h.lt fun hs => (hS T hs).2 rfl).trans h.tab, h.hT, h.hA, h.map.at (hf A (.inl rfl)), fun t x hx => ⟨(h.blk t x hx).1, (hf _ (.inr ⟨t, x, hx, .inl rfl⟩)).trans (h.blk t x hx).2⟩, fun t x hx => own_at (h.row t x hx) fun g hg => hf g (.inr ⟨t, x, hx, .inr hg⟩), h.inj, h.lim, h.kl⟩
theorem Tb.below (h : Tb w B T A K M σ) (hb : Below w.heap.size w w') : Tb w' B T A K M σ := h.keep (Turn.of_below hb fun _ => False) fun _ hf => hf.elim
theorem Tb.mono (h : Tb w B T A K M σ) {M' : Nat} (hm : M ≤ M') : Tb w B T A K M' σ := { h with lim := fun t x hx => ⟨Nat.le_trans (h.lim t x hx).1 hm, (h.lim t x hx).2⟩ }

theorem Step.refl (A : Nat) (w : World) (σ : Sg) : Step A w σ w σ := ⟨Turn.refl _ _, fun _ h => .inl h⟩
theorem Step.quiet (hb : Below w.heap.size w w') : Step A w σ w' σ := ⟨Turn.of_below hb _, fun _ h => .inl h⟩
theorem Step.trans {w1 w2 w3 : World} {a b c : Sg} (h : Step A w1 a w2 b) (k : Step A w2 b w3 c) : Step A w1 a w3 c :=
  ⟨h.turn.trans k.turn h.foot, fun i hi => by
    rcases k.foot i hi with h1 | h1
    · exact h.foot i h1
    · exact .inr (Nat.le_trans h.turn.size h1)⟩
theorem Step.below {σ' : Sg} (h : Step A w σ w' σ') (hT : Tb w B T A K M σ) (hB : B ≤ w.heap.size) : Below B w w' := h.turn.below hB fun i hi hf => by have := (hT.foot_low hf).1; omega
theorem Step.kind {σ' : Sg} {k : Nat} {cs : Array Value} {ty : TypeId} {fr : Nat × Nat} (h : Step A w σ w' σ') (hT : Tb w B T A K M σ) (hk : w.heap[k]? = some (.cells cs ty fr)) (h1 : ty ≠ 74) (h2 : ty ≠ 27) : w'.heap[k]? = some (.cells cs ty fr) :=
  (h.turn.block k (some_lt hk) (hT.other hk h1 h2)).trans hk

noncomputable def Sg.put (σ : Sg) (t : Int) (x : Tn) (b : Nat) (v : Value) : Sg := ⟨upd σ.f t (some x), upd σ.b t b, upd σ.v t v⟩
noncomputable def Sg.set (σ : Sg) (t : Int) (x : Tn) : Sg := ⟨upd σ.f t (some x), σ.b, σ.v⟩
noncomputable def Sg.gone (σ : Sg) (t : Int) : Sg := ⟨upd σ.f t none, σ.b, σ.v⟩

theorem ptF_set (hx : σ.f t = some x) (y : Tn) (k : Lit) : ptF σ k = ptF (σ.set t y) k := by
  cases k <;> try rfl
  rename_i kd u
  cases kd <;> try rfl
  show (σ.f u).map _ = (upd σ.f t (some y) u).map _
  by_cases e : u = t
  · subst e; rw [upd_same, hx]; rfl
  · rw [upd_other _ _ e]; rfl
theorem ptF_gone (t : Int) (k : Lit) : upd (ptF σ) (.int .i64 t) none k = ptF (σ.gone t) k := by
  by_cases e : k = .int .i64 t
  · subst e
    rw [upd_same]
    show none = (upd σ.f t none t).map _
    rw [upd_same]; rfl
  · rw [upd_other _ _ e]
    cases k <;> try rfl
    rename_i kd u
    cases kd <;> try rfl
    show (σ.f u).map _ = (upd σ.f t none u).map _
    rw [upd_other _ _ (fun h => e (by rw [h]))]; rfl
theorem ptF_put (t : Int) (x : Tn) (b : Nat) (v : Value) (k : Lit) : upd (ptF σ) (.int .i64 t) (some (.pointer (some ⟨b, 0, none⟩))) k = ptF (σ.put t x b v) k := by
  by_cases e : k = .int .i64 t
  · subst e
    rw [upd_same]
    show _ = (upd σ.f t (some x) t).map fun _ => Value.pointer (some ⟨upd σ.b t b t, 0, none⟩)
    rw [upd_same, upd_same]; rfl
  · rw [upd_other _ _ e]
    cases k <;> try rfl
    rename_i kd u
    cases kd <;> try rfl
    show (σ.f u).map _ = (upd σ.f t (some x) u).map fun _ => Value.pointer (some ⟨upd σ.b t b u, 0, none⟩)
    have hu : u ≠ t := fun h => e (by rw [h])
    rw [upd_other _ _ hu, upd_other _ _ hu]

/-- One transaction's block and its row turn. -/
theorem Tb.put (h : Tb w B T A K M σ) (hx : σ.f t = some x) {y : Tn} {v : Value} {M' : Nat} (hM : M ≤ M') (tn : Turn (fun k => k = σ.b t ∨ (σ.v t).ownBlock = some k) w w') (hb : w'.heap[σ.b t]? = some (.cells (txC y v) 74)) (hr : w'.ownsRow B 27 1 v y.saves.length (lsns y.saves))
    (hf : ∀ g, v.ownBlock = some g → (σ.v t).ownBlock = some g ∨ w.heap.size ≤ g) (hn : y.need ≤ M') (hs : y.saves.length ≤ 4) : Tb w' B T A K M' (σ.put t y (σ.b t) v) ∧ Step A w σ w' (σ.put t y (σ.b t) v) := by
  have e1 : ∀ u, u ≠ t → (σ.put t y (σ.b t) v).f u = σ.f u ∧ (σ.put t y (σ.b t) v).b u = σ.b u ∧ (σ.put t y (σ.b t) v).v u = σ.v u := fun u hu => ⟨upd_other _ _ hu, upd_other _ _ hu, upd_other _ _ hu⟩
  have e2 : (σ.put t y (σ.b t) v).f t = some y ∧ (σ.put t y (σ.b t) v).b t = σ.b t ∧ (σ.put t y (σ.b t) v).v t = v := ⟨upd_same _ _ _, upd_same _ _ _, upd_same _ _ _⟩
  have hS : ∀ k, (k = σ.b t ∨ (σ.v t).ownBlock = some k) → Foot A σ k := fun k hk => .inr ⟨t, x, hx, hk⟩
  have hbt := (h.blk t x hx).2
  have hne : ∀ k cs fr, w.heap[k]? = some (.cells cs 74 fr) → (σ.v t).ownBlock ≠ some k := fun k cs fr hk e => by
    obtain ⟨_, cur, h2⟩ := own_kind (h.row t x hx) e
    rw [hk] at h2
    injection h2 with h2
    injection h2 with h3 h4
    exact absurd h4 (by decide)
  have hoth : ∀ u z, u ≠ t → σ.f u = some z → w'.heap[σ.b u]? = w.heap[σ.b u]? ∧ ∀ g, (σ.v u).ownBlock = some g → w'.heap[g]? = w.heap[g]? := fun u z hu hz => by
    have hi := h.inj u t z x hz hx hu
    refine ⟨tn.block _ (some_lt (h.blk u z hz).2) ?_, fun g hg => tn.block _ (h.foot_low (.inr ⟨u, z, hz, .inr hg⟩)).2 ?_⟩
    · rintro (e | e)
      · exact hi.1 e
      · exact hne _ _ _ (h.blk u z hz).2 e
    · rintro (e | e)
      · subst e
        obtain ⟨_, cur, h2⟩ := own_kind (h.row u z hz) hg
        rw [hbt] at h2
        injection h2 with h2
        injection h2 with h3 h4
        exact absurd h4 (by decide)
      · exact hi.2 g hg e
  refine ⟨⟨(tn.block T h.lt fun hs => h.notT (hS _ hs)).trans h.tab, h.hT, h.hA, (h.map.at (tn.block A h.ltA ?_)).congr fun k => ?_, fun u z hz => ?_, fun u z hz => ?_, fun u s z1 z2 h1 h2 hus => ?_, fun u z hz => ?_, h.kl⟩, ⟨tn.mono fun i hi => .inl (hS i hi), fun k hk => ?_⟩⟩
  · obtain ⟨es, c, hm⟩ := h.map.blk
    rintro (e | e)
    · rw [e, hbt] at hm; cases hm
    · obtain ⟨_, cur, h2⟩ := own_kind (h.row t x hx) e
      rw [h2] at hm; cases hm
  · rw [← ptF_put t y (σ.b t) v k]
    by_cases e : k = .int .i64 t
    · subst e
      rw [upd_same]
      show (σ.f t).map _ = _
      rw [hx]; rfl
    · rw [upd_other _ _ e]
  · by_cases hu : u = t
    · subst hu
      rw [e2.1] at hz
      cases hz
      rw [e2.2.1, e2.2.2]
      exact ⟨(h.blk u x hx).1, hb⟩
    · obtain ⟨a1, a2, a3⟩ := e1 u hu
      rw [a1] at hz
      rw [a2, a3]
      exact ⟨(h.blk u z hz).1, (hoth u z hu hz).1.trans (h.blk u z hz).2⟩
  · by_cases hu : u = t
    · subst hu
      rw [e2.1] at hz
      cases hz
      rw [e2.2.2]
      exact hr
    · obtain ⟨a1, a2, a3⟩ := e1 u hu
      rw [a1] at hz
      rw [a3]
      exact own_at (h.row u z hz) (hoth u z hu hz).2
  · have key : ∀ u z, u ≠ t → σ.f u = some z → σ.b u ≠ σ.b t ∧ ∀ g, (σ.v u).ownBlock = some g → v.ownBlock ≠ some g := fun u z hu hz => ⟨(h.inj u t z x hz hx hu).1, fun g hg e => by
      rcases hf g e with h3 | h3
      · exact (h.inj u t z x hz hx hu).2 g hg h3
      · have := (h.foot_low (.inr ⟨u, z, hz, .inr hg⟩)).2
        omega⟩
    by_cases hu : u = t
    · subst hu
      have hs' : s ≠ u := fun e => hus e.symm
      obtain ⟨a1, a2, a3⟩ := e1 s hs'
      rw [a1] at h2
      rw [e2.2.1, e2.2.2, a2, a3]
      exact ⟨fun e => (key s z2 hs' h2).1 e.symm, fun g hg e => (key s z2 hs' h2).2 g e hg⟩
    · obtain ⟨a1, a2, a3⟩ := e1 u hu
      rw [a1] at h1
      by_cases hs' : s = t
      · subst hs'
        rw [e2.2.1, e2.2.2, a2, a3]
        exact key u z1 hu h1
      · obtain ⟨c1, c2, c3⟩ := e1 s hs'
        rw [c1] at h2
        rw [a2, a3, c2, c3]
        exact h.inj u s z1 z2 h1 h2 hus
  · by_cases hu : u = t
    · subst hu
      rw [e2.1] at hz
      cases hz
      exact ⟨hn, hs⟩
    · rw [(e1 u hu).1] at hz
      exact ⟨Nat.le_trans (h.lim u z hz).1 hM, (h.lim u z hz).2⟩
  · rcases hk with rfl | ⟨u, z, hz, hk⟩
    · exact .inl (.inl rfl)
    · by_cases hu : u = t
      · subst hu
        rw [e2.2.1, e2.2.2] at hk
        rcases hk with rfl | hk
        · exact .inl (hS _ (.inl rfl))
        · rcases hf k hk with h3 | h3
          · exact .inl (hS _ (.inr h3))
          · exact .inr h3
      · obtain ⟨a1, a2, a3⟩ := e1 u hu
        rw [a1] at hz
        rw [a2, a3] at hk
        exact .inl (.inr ⟨u, z, hz, hk⟩)
end
end Go.Proofs.Yticadfaclnimgaa
