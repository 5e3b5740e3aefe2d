/-
  The document's book: a row of pages that is built anew; a page is laid into it.
-/
import Derived.Test.YtdlanenbbmnbhaaCb
import Derived.Laws.AppendOwnNone
namespace Go.Proofs.Ytdlanenbbmnbhaa
open Go.RowKit

/-- A page of the document's book as it lies: whose it is, where its row is, and the row's room. -/
structure Pl where
  x : Lf
  a : Option Addr
  c : Nat
def plA (t : Pl) : Array Value := #[.int .i64 t.x.owner, .bool t.x.lost, .bool t.x.called, .bool t.x.fast, .slice t.a t.x.ws.length t.c]
def plC (t : Pl) : List Value := [.int .i64 t.x.owner, .bool t.x.lost, .bool t.x.called, .bool t.x.fast, .slice t.a t.x.ws.length t.c]
def plVs (L : List Pl) : List Value := L.flatMap plC
structure PlOk (w : World) (t : Pl) : Prop where
  row : SlI w t.a t.x.ws
  cap : t.x.ws.length ≤ t.c
  zero : t.a = none → t.c = 0
theorem PlOk.below {w w' : World} {t : Pl} (h : PlOk w t) (hb : Below w.heap.size w w') : PlOk w' t := ⟨h.row.below hb, h.cap, h.zero⟩
structure Dl (w : World) (v : Value) (L : List Pl) : Prop where
  own : w.ownsRow 0 65 5 v L.length (plVs L)
  rows : ∀ t ∈ L, PlOk w t
theorem some_lt {w : World} {k : Nat} {o : Obj} (h : w.heap[k]? = some o) : k < w.heap.size := (Array.getElem?_eq_some_iff.1 h).1
theorem own_stay {w w' : World} {B e size n : Nat} {v : Value} {xs : List Value} (h : w.ownsRow B e size v n xs) (hk : ∀ (k : Nat) (c : Array Value), v.ownBlock = some k → w.heap[k]? = some (Obj.cells c e) → w'.heap[k]? = w.heap[k]?) : w'.ownsRow B e size v n xs := by
  refine ⟨h.1, ?_⟩
  rcases h.2 with h2 | ⟨g, cap, cur, rfl, q, hg, r⟩
  · exact .inl h2
  · exact .inr ⟨g, cap, cur, rfl, q, by rw [hk g cur rfl hg]; exact hg, r⟩
theorem own_base {w : World} {B B' : Nat} {e : TypeId} {size : Nat} {v : Value} {n : Nat} {xs : List Value} (h : w.ownsRow B e size v n xs) (hb : B' ≤ B) : w.ownsRow B' e size v n xs := by
  refine ⟨h.1, ?_⟩
  rcases h.2 with h2 | ⟨g, cap, cur, hv, hg, r⟩
  · exact .inl h2
  · exact .inr ⟨g, cap, cur, hv, by omega, r⟩
theorem own_below {w w' : World} {B e size n : Nat} {v : Value} {xs : List Value} (h : w.ownsRow B e size v n xs) (hb : Below w.heap.size w w') : w'.ownsRow B e size v n xs :=
  own_stay h fun k _ _ hc => hb.block k (some_lt hc)
theorem own_addr {w : World} {B e size n c : Nat} {a : Option Addr} {xs : List Value} (h : w.ownsRow B e size (.slice a n c) n xs) : (a = none ∧ n = 0 ∧ c = 0) ∨ ∃ g cur, a = some ⟨g, 0, none⟩ ∧ B ≤ g ∧ w.heap[g]? = some (.cells cur e) ∧ n ≤ c ∧ cur.size = c * size := by
  rcases h.2 with ⟨e1, e2⟩ | ⟨g, cap, cur, e1, h1, h2, h3, _, h5, _⟩
  · simp at e1
    exact .inl ⟨e1.1, e2, e1.2.2⟩
  · simp at e1
    obtain ⟨rfl, rfl⟩ := e1
    exact .inr ⟨g, cur, rfl, h1, h2, h3, h5⟩
theorem own_shape {w : World} {B : Nat} {e : TypeId} {size : Nat} {v : Value} {n : Nat} {xs : List Value} (h : w.ownsRow B e size v n xs) : ∃ a c, v = .slice a n c := by
  rcases h.2 with ⟨rfl, rfl⟩ | ⟨g, cap, cur, rfl, _⟩
  · exact ⟨_, _, rfl⟩
  · exact ⟨_, _, rfl⟩
theorem own_low {w : World} {B e s n g : Nat} {v : Value} {xs : List Value} (h : w.ownsRow B e s v n xs) (hg : v.ownBlock = some g) : B ≤ g ∧ ∃ cur, w.heap[g]? = some (.cells cur e (0, 0)) := by
  rcases h.2 with ⟨rfl, _⟩ | ⟨g', cap, cur, rfl, hb, hh, rest⟩
  · cases hg
  · simp [Value.ownBlock] at hg
    subst hg
    exact ⟨hb, cur, hh⟩
theorem Dl.below {w w' : World} {v : Value} {L : List Pl} (h : Dl w v L) (hb : Below w.heap.size w w') : Dl w' v L :=
  ⟨own_below h.own hb, fun t ht => (h.rows t ht).below hb⟩
theorem Dl.drew {w : World} {v : Value} {L : List Pl} (h : Dl w v L) : Dl w.drew v L := h.below (Below.refl _ _).drew
/-- A block that holds neither pages nor numbers turns: the document's book stays. -/
theorem Dl.one {w w' : World} {v : Value} {L : List Pl} {q : Nat} {M : Array Value} {e : TypeId} (h : Dl w v L) (ho : One q w w') (hq : w.heap[q]? = some (.cells M e)) (h1 : e ≠ 65) (h2 : e ≠ 3) : Dl w' v L := by
  refine ⟨own_stay h.own fun k c _ hc => ho.block k (some_lt hc) (fun e2 => ?_), fun t ht => ?_⟩
  · subst e2
    rw [hq] at hc
    injection hc with hc
    injection hc with h3 h4
    exact h1 h4
  · obtain ⟨r, c, z⟩ := h.rows t ht
    refine ⟨?_, c, z⟩
    by_cases hw : t.x.ws = []
    · rw [hw]; exact SlI.nil _ _
    · refine r.one ho (fun y hy e2 => ?_)
      obtain ⟨M2, hM2⟩ := r.typ y hy hw
      rw [e2, hq] at hM2
      injection hM2 with hM2
      injection hM2 with h3 h4
      exact h2 h4

theorem plVs_len (L : List Pl) : (plVs L).length = L.length * 5 := by
  induction L with
  | nil => rfl
  | cons a r ih => simp only [plVs, List.flatMap_cons, List.length_append, List.length_cons] at ih ⊢; rw [ih]; simp [plC]; omega
theorem plVs_append (L M : List Pl) : plVs (L ++ M) = plVs L ++ plVs M := by simp [plVs]
theorem plVs_one (L : List Pl) : ∀ u ∈ plVs L, u.oneCell' = true := by
  intro u hu
  simp only [plVs, List.mem_flatMap, plC, List.mem_cons, List.not_mem_nil, or_false] at hu
  obtain ⟨x, -, rfl | rfl | rfl | rfl | rfl⟩ := hu <;> rfl
theorem plVs_at : ∀ (l : List Pl) (i : Nat) (t : Pl), l[i]? = some t → ∀ k, k < 5 → (plVs l)[i * 5 + k]? = (plC t)[k]?
  | [], i, t, h, k, _ => by simp at h
  | a :: r, 0, t, h, k, hk => by
    simp only [List.getElem?_cons_zero, Option.some.injEq] at h
    subst h
    simp only [plVs, List.flatMap_cons]
    rw [List.getElem?_append_left (by simp [plC]; omega)]
    simp
  | a :: r, i + 1, t, h, k, hk => by
    simp only [List.getElem?_cons_succ] at h
    have ih := plVs_at r i t h k hk
    simp only [plVs, List.flatMap_cons] at ih ⊢
    rw [List.getElem?_append_right (by simp [plC]; omega), ← ih]
    congr 1
    simp [plC]
    omega
theorem plVs_take (L : List Pl) (p : Nat) : ∀ (j : Nat) (u : Value), (plVs (L.take p))[j]? = some u → (plVs L)[j]? = some u := fun j u hu => by
  have e : plVs L = plVs (L.take p) ++ plVs (L.drop p) := by rw [← plVs_append, List.take_append_drop]
  have hj : j < (plVs (L.take p)).length := (List.getElem?_eq_some_iff.1 hu).1
  rw [e, List.getElem?_append_left hj]
  exact hu
theorem plVs_drop (L : List Pl) {p : Nat} (hp : p ≤ L.length) : ∀ (j : Nat) (u : Value), (plVs (L.drop p))[j]? = some u → (plVs L)[p * 5 + j]? = some u := fun j u hu => by
  have e : plVs L = plVs (L.take p) ++ plVs (L.drop p) := by rw [← plVs_append, List.take_append_drop]
  have hl : (plVs (L.take p)).length = p * 5 := by rw [plVs_len]; simp; omega
  rw [e, List.getElem?_append_right (by omega), hl, Nat.add_sub_cancel_left]
  exact hu
/-- A page that is there. -/
theorem Dl.at {w : World} {v : Value} {L : List Pl} (h : Dl w v L) {i : Nat} (hi : i < L.length) : ∃ g c, v = .slice (some ⟨g, 0, none⟩) L.length c ∧ g < w.heap.size ∧ L.length ≤ c ∧ PlOk w L[i] ∧
    w.cell? ⟨g, i * 5, none⟩ = some (.int .i64 L[i].x.owner) ∧ w.cell? ⟨g, i * 5 + 1, none⟩ = some (.bool L[i].x.lost) ∧ w.cell? ⟨g, i * 5 + 2, none⟩ = some (.bool L[i].x.called) ∧ w.cell? ⟨g, i * 5 + 3, none⟩ = some (.bool L[i].x.fast) ∧ w.cell? ⟨g, i * 5 + 4, none⟩ = some (.slice L[i].a L[i].x.ws.length L[i].c) := by
  obtain ⟨a, c, rfl⟩ := own_shape h.own
  rcases own_addr h.own with ⟨_, h1, _⟩ | ⟨g, cur, rfl, _, hg, hc, _⟩
  · omega
  · have hcell : ∀ k u, k < 5 → (plC L[i])[k]? = some u → w.cell? ⟨g, i * 5 + k, none⟩ = some u := fun k u hk hu => by
      have := h.own.cells (g := g) rfl (i * 5 + k) u (by rw [plVs_at L i _ (List.getElem?_eq_getElem hi) k hk]; exact hu)
      rwa [add_cell, Nat.zero_add] at this
    exact ⟨g, c, rfl, some_lt hg, hc, h.rows _ (List.getElem_mem hi), hcell 0 _ (by omega) rfl, hcell 1 _ (by omega) rfl, hcell 2 _ (by omega) rfl, hcell 3 _ (by omega) rfl, hcell 4 _ (by omega) rfl⟩

theorem grown_refl (w : World) (row : Option Nat) : w.grownBy w row := ⟨rfl, rfl, rfl, Nat.le_refl _, fun _ _ _ => rfl⟩
/-- An append to a row of one's own. -/
theorem run_src {P : Program} (w : World) (t ty e : TypeId) (i : TypeInfo) (z : Value) (size bytes : Nat) (h1 : P.underlying t = some (.slice e)) (h2 : P.info? e = some i) (h3 : i.zero = some z) (h4 : i.size = size) (h5 : i.bytes = bytes) (h6 : z.cells.size = size) (h7 : 0 < size)
    (base : Nat) (v : Value) (n : Nat) (xs : List Value) (hown : w.ownsRow base e size v n xs) (hb : base ≤ w.heap.size)
    (so : Option Addr) (m c : Nat) (news : List Value) (hso : so = none → m = 0 ∧ c = 0) (hn : news.length = m * size) (hc : ∀ b, so = some b → ∀ j u, news[j]? = some u → w.cell? (b.add j) = some u) (h1c : ∀ u ∈ news, u.oneCell' = true)
    (b1 : n + m ≤ maxLen) (b2 : (n + m) * bytes ≤ 140737488355328) :
    ∃ v' w', (Builtin.append_ #[t, t] ty #[v, .slice so m c]).run P w = .ok v' w' ∧ w'.ownsRow base e size v' (n + m) (xs ++ news) ∧ w.grownBy w' v.ownBlock := by
  cases so with
  | none =>
    obtain ⟨rfl, rfl⟩ := hso rfl
    have hy : news = [] := List.eq_nil_of_length_eq_zero (by simpa using hn)
    subst hy
    exact ⟨v, w, run_append_owned_none (P := P) (w := w) base t ty e i size h1 h2 v n xs hown, by simpa using hown, grown_refl _ _⟩
  | some y =>
    obtain ⟨v', w', hr, r1, r2, -⟩ := run_append_own (P := P) w base t ty e i z size bytes h1 h2 h3 h4 h5 h6 h7 v n xs hown y m c news hn (hc y rfl) h1c b1 b2 hb
    exact ⟨v', w', hr, r1, r2⟩
theorem info65 : ∃ i z, Try.prog.info? 65 = some i ∧ i.zero = some z ∧ i.size = 5 ∧ i.bytes ≤ 100 ∧ z.cells.size = 5 := ⟨_, _, rfl, rfl, rfl, by decide, rfl⟩
theorem grown_low {w1 W W' : World} {B e s n : Nat} {v : Value} {xs : List Value} (h : Below B w1 W) (hB : B ≤ W.heap.size) (hv : W.ownsRow B e s v n xs) (hg : W.grownBy W' v.ownBlock) : Below B w1 W' :=
  h.grown hg hB fun _ e2 => (own_low hv e2).1
/-- Pages. -/
theorem run_pl (w : World) (ty : TypeId) (base : Nat) (v : Value) (L : List Pl) (n : Nat) (hn : n = L.length) (hown : w.ownsRow base 65 5 v n (plVs L)) (hb : base ≤ w.heap.size)
    (so : Option Addr) (m c : Nat) (K : List Pl) (hm : m = K.length) (hso : so = none → m = 0 ∧ c = 0) (hc : ∀ b, so = some b → ∀ j u, (plVs K)[j]? = some u → w.cell? (b.add j) = some u) (b1 : n + m ≤ 1000) :
    ∃ v' w', (Builtin.append_ #[29, 29] ty #[v, .slice so m c]).run Try.prog w = .ok v' w' ∧ w'.ownsRow base 65 5 v' (n + m) (plVs (L ++ K)) ∧ w.grownBy w' v.ownBlock := by
  obtain ⟨i, z, h2, h3, h4, h5, h6⟩ := info65
  obtain ⟨v', w', hr, r1, r2⟩ := run_src (P := Try.prog) w 29 ty 65 i z 5 i.bytes Try.underlying29 h2 h3 h4 rfl h6 (by decide) base v n (plVs L) hown hb so m c (plVs K) hso (by rw [plVs_len, hm]) hc (plVs_one K) (by unfold maxLen; omega) (by have : (n + m) * i.bytes ≤ 1000 * 100 := Nat.mul_le_mul b1 h5; omega)
  rw [← plVs_append] at r1
  exact ⟨v', w', hr, r1, r2⟩
end Go.Proofs.Ytdlanenbbmnbhaa
