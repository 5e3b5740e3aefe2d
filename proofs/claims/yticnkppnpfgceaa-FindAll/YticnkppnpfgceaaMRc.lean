/-
  Rows as cells; copied: a record whose rows are its own.
-/
import Derived.Test.YticnkppnpfgceaaMRb
namespace Go.Proofs.Yticnkppnpfgceaa.Mg
open Go.RowKit

theorem add_plain (b o j : Nat) : (⟨b, o, none⟩ : Addr).add j = ⟨b, o + j, none⟩ := by unfold Addr.add; split <;> simp_all

theorem flat_get {α β : Type} (f : α → List β) (n : Nat) (hf : ∀ a, (f a).length = n) (l : List α) (i k : Nat) (hk : k < n) : (l.flatMap f)[i * n + k]? = l[i]?.bind (fun a => (f a)[k]?) := by
  induction l generalizing i with
  | nil => simp
  | cons a r ih =>
    rw [List.flatMap_cons]
    cases i with
    | zero => rw [List.getElem?_append_left (by rw [hf]; omega)]; simp
    | succ i =>
      rw [List.getElem?_append_right (by rw [hf, Nat.succ_mul]; omega), hf, show (i + 1) * n + k - n = i * n + k by rw [Nat.succ_mul]; omega, ih]
      simp
theorem flat_len {α β : Type} (f : α → List β) (n : Nat) (hf : ∀ a, (f a).length = n) (l : List α) : (l.flatMap f).length = l.length * n := by
  induction l with
  | nil => simp
  | cons a r ih => rw [List.flatMap_cons, List.length_append, hf, ih, List.length_cons, Nat.succ_mul]; omega

def txC (t : Tx) : List Value := [.int .i64 t.id, .int .i64 t.st, .int .u64 (t.last : Nat)]
def diC (t : Di) : List Value := [.int .i64 t.page, .int .u64 (t.lsn : Nat)]
def txsC (l : List Tx) : List Value := l.flatMap txC
def disC (l : List Di) : List Value := l.flatMap diC
theorem txsC_length (l : List Tx) : (txsC l).length = l.length * 3 := flat_len txC 3 (fun _ => rfl) l
theorem disC_length (l : List Di) : (disC l).length = l.length * 2 := flat_len diC 2 (fun _ => rfl) l
theorem txsC_one (l : List Tx) : ∀ u ∈ txsC l, u.oneCell' = true := by
  intro u hu
  obtain ⟨t, _, h⟩ := List.mem_flatMap.1 hu
  simp [txC] at h
  rcases h with rfl | rfl | rfl <;> rfl
theorem disC_one (l : List Di) : ∀ u ∈ disC l, u.oneCell' = true := by
  intro u hu
  obtain ⟨t, _, h⟩ := List.mem_flatMap.1 hu
  simp [diC] at h
  rcases h with rfl | rfl <;> rfl

theorem _root_.Go.Proofs.Yticnkppnpfgceaa.SlT.flat {w : World} {x : Addr} {l : List Tx} (h : SlT w (some x) l) : ∀ j u, (txsC l)[j]? = some u → w.cell? (x.add j) = some u := by
  intro j u hu
  have hj : j = j / 3 * 3 + j % 3 := by omega
  rw [hj] at hu
  rw [show txsC l = l.flatMap txC from rfl, flat_get txC 3 (fun _ => rfl) l _ _ (by omega)] at hu
  obtain ⟨t, ht, htu⟩ := Option.bind_eq_some_iff.1 hu
  obtain ⟨h0, h1, h2, h3⟩ := h.cells x rfl _ t ht
  obtain ⟨b, o, sp⟩ := x
  simp only at h0 h1 h2 h3
  subst h0
  rw [add_plain]
  have hm : j % 3 = 0 ∨ j % 3 = 1 ∨ j % 3 = 2 := by omega
  rcases hm with e | e | e
  · rw [e] at htu hj
    simp [txC] at htu
    rw [show o + j = o + j / 3 * 3 by omega, h1, ← htu]
  · rw [e] at htu hj
    simp [txC] at htu
    rw [show o + j = o + j / 3 * 3 + 1 by omega, h2, ← htu]
  · rw [e] at htu hj
    simp [txC] at htu
    rw [show o + j = o + j / 3 * 3 + 2 by omega, h3, ← htu]
theorem _root_.Go.Proofs.Yticnkppnpfgceaa.SlD.flat {w : World} {x : Addr} {l : List Di} (h : SlD w (some x) l) : ∀ j u, (disC l)[j]? = some u → w.cell? (x.add j) = some u := by
  intro j u hu
  have hj : j = j / 2 * 2 + j % 2 := by omega
  rw [hj] at hu
  rw [show disC l = l.flatMap diC from rfl, flat_get diC 2 (fun _ => rfl) l _ _ (by omega)] at hu
  obtain ⟨t, ht, htu⟩ := Option.bind_eq_some_iff.1 hu
  obtain ⟨h0, h1, h2⟩ := h.cells x rfl _ t ht
  obtain ⟨b, o, sp⟩ := x
  simp only at h0 h1 h2
  subst h0
  rw [add_plain]
  have hm : j % 2 = 0 ∨ j % 2 = 1 := by omega
  rcases hm with e | e
  · rw [e] at htu hj
    simp [diC] at htu
    rw [show o + j = o + j / 2 * 2 by omega, h1, ← htu]
  · rw [e] at htu hj
    simp [diC] at htu
    rw [show o + j = o + j / 2 * 2 + 1 by omega, h2, ← htu]

theorem own_cell {w : World} {B e size n c g : Nat} {xs : List Value} (h : w.ownsRow B e size (.slice (some ⟨g, 0, none⟩) n c) n xs) {j : Nat} {u : Value} (hj : xs[j]? = some u) : w.cell? ⟨g, j, none⟩ = some u := by
  have := h.cells (g := g) rfl j u hj
  have hadd : (⟨g, 0, none⟩ : Addr).add j = ⟨g, j, none⟩ := by unfold Addr.add; split <;> simp_all
  rwa [hadd] at this
theorem own_addr {w : World} {B e size n c : Nat} {a : Option Addr} {xs : List Value} (h : w.ownsRow B e size (.slice a n c) n xs) : (a = none ∧ n = 0 ∧ c = 0) ∨ ∃ g cur, a = some ⟨g, 0, none⟩ ∧ B ≤ g ∧ w.heap[g]? = some (.cells cur e) ∧ n ≤ c ∧ cur.size = c * size := by
  rcases h.2 with ⟨e1, e2⟩ | ⟨g, cap, cur, e1, h1, h2, h3, _, h5, _⟩
  · simp at e1
    exact .inl ⟨e1.1, e2, e1.2.2⟩
  · simp at e1
    obtain ⟨rfl, rfl⟩ := e1
    exact .inr ⟨g, cur, rfl, h1, h2, h3, h5⟩

theorem own_slT {w : World} {B c : Nat} {a : Option Addr} {l : List Tx} (h : w.ownsRow B 57 3 (.slice a l.length c) l.length (txsC l)) : SlT w a l := by
  rcases own_addr h with ⟨rfl, e, _⟩ | ⟨g, cur, rfl, _⟩
  · have : l = [] := List.eq_nil_of_length_eq_zero e
    subst this
    exact ⟨fun _ => rfl, fun x hx => by simp at hx⟩
  · refine ⟨fun e => by simp at e, fun x hx i t ht => ?_⟩
    simp at hx
    subst hx
    have e := fun k hk => flat_get txC 3 (fun _ => rfl) l i k hk
    simp only [ht, Option.bind_some] at e
    refine ⟨rfl, ?_, ?_, ?_⟩
    · simpa using own_cell h (e 0 (by omega))
    · simpa using own_cell h (e 1 (by omega))
    · simpa using own_cell h (e 2 (by omega))
theorem own_slD {w : World} {B c : Nat} {a : Option Addr} {l : List Di} (h : w.ownsRow B 60 2 (.slice a l.length c) l.length (disC l)) : SlD w a l := by
  rcases own_addr h with ⟨rfl, e, _⟩ | ⟨g, cur, rfl, _⟩
  · have : l = [] := List.eq_nil_of_length_eq_zero e
    subst this
    exact ⟨fun _ => rfl, fun x hx => by simp at hx⟩
  · refine ⟨fun e => by simp at e, fun x hx i t ht => ?_⟩
    simp at hx
    subst hx
    have e := fun k hk => flat_get diC 2 (fun _ => rfl) l i k hk
    simp only [ht, Option.bind_some] at e
    refine ⟨rfl, ?_, ?_⟩
    · simpa using own_cell h (e 0 (by omega))
    · simpa using own_cell h (e 1 (by omega))

/-- A record whose rows lie in memory of their own, from B on. -/
structure Own (w : World) (B : Nat) (r : Rc) (p : Pl) : Prop where
  t : w.ownsRow B 57 3 (.slice p.ta r.txns.length p.tc) r.txns.length (txsC r.txns)
  d : w.ownsRow B 60 2 (.slice p.da r.dirty.length p.dc) r.dirty.length (disC r.dirty)
theorem Own.ri {w : World} {B : Nat} {r : Rc} {p : Pl} (h : Own w B r p) : RI w r p :=
  ⟨own_slT h.t, own_slD h.d, fun e => by rcases own_addr h.t with ⟨_, _, q⟩ | ⟨g, cur, q, _⟩; exact q; rw [e] at q; simp at q, fun e => by rcases own_addr h.d with ⟨_, _, q⟩ | ⟨g, cur, q, _⟩; exact q; rw [e] at q; simp at q⟩
theorem Own.low {w : World} {B B' : Nat} {r : Rc} {p : Pl} (h : Own w B r p) (hb : B' ≤ B) : Own w B' r p := by
  obtain ⟨⟨h1, h2⟩, ⟨h3, h4⟩⟩ := h
  refine ⟨⟨h1, ?_⟩, ⟨h3, ?_⟩⟩
  · rcases h2 with h2 | ⟨g, cap, cur, e, q, r⟩
    · exact .inl h2
    · exact .inr ⟨g, cap, cur, e, by omega, r⟩
  · rcases h4 with h2 | ⟨g, cap, cur, e, q, r⟩
    · exact .inl h2
    · exact .inr ⟨g, cap, cur, e, by omega, r⟩
/-- What turns no rows of transactions or pages leaves a record's rows. -/
theorem Own.stay {w w' : World} {B : Nat} {r : Rc} {p : Pl} (h : Own w B r p) (hk : ∀ (k : Nat) (c : Array Value), (w.heap[k]? = some (Obj.cells c 57) ∨ w.heap[k]? = some (Obj.cells c 60)) → w'.heap[k]? = w.heap[k]?) : Own w' B r p := by
  obtain ⟨⟨h1, h2⟩, ⟨h3, h4⟩⟩ := h
  refine ⟨⟨h1, ?_⟩, ⟨h3, ?_⟩⟩
  · rcases h2 with h2 | ⟨g, cap, cur, e, q, hg, r⟩
    · exact .inl h2
    · exact .inr ⟨g, cap, cur, e, q, by rw [hk g cur (.inl hg)]; exact hg, r⟩
  · rcases h4 with h2 | ⟨g, cap, cur, e, q, hg, r⟩
    · exact .inl h2
    · exact .inr ⟨g, cap, cur, e, q, by rw [hk g cur (.inr hg)]; exact hg, r⟩

theorem Try.info57 : (Try.prog.info? 57).map (fun i => (i.zero, i.size, i.bytes)) = some (some (.agg #[.int .i64 0, .int .i64 0, .int .u64 0]), 3, 24) := by kernel_rfl
theorem Try.info60 : (Try.prog.info? 60).map (fun i => (i.zero, i.size, i.bytes)) = some (some (.agg #[.int .i64 0, .int .u64 0]), 2, 16) := by kernel_rfl
theorem Try.info50 : (Try.prog.info? 50).map (fun i => (i.zero, i.size, i.bytes)) = some (some (.agg #[.int .i64 0, .int .u64 0, .int .i64 0, .int .u64 0, .int .u64 0, .int .i64 0, .int .i64 0, .string ⟨#[]⟩, .string ⟨#[]⟩, .string ⟨#[]⟩, .slice none 0 0, .slice none 0 0]), 12, 152) := by kernel_rfl

/-- An append to nil of what lies anywhere. -/
theorem wpList_append_src {P : Program} (w : World) {ops : Array Oper} {rest : List Oper} {o : Oper} {a : Act} {Q : Exit → Act → World → Prop} (hgd : o.guard = none) (s x : Operand) (t : TypeId)
    (ho : o.op = .call { callee := .builtin .append, args := #[s, x], argTypes := #[t, t] })
    (base : Nat) (e : TypeId) (i : TypeInfo) (z : Value) (size bytes : Nat) (ht : P.underlying t = some (.slice e)) (hi : P.info? e = some i) (hz : i.zero = some z)
    (hsize : i.size = size) (hby : i.bytes = bytes) (hzs : z.cells.size = size) (hsz : 0 < size)
    (v : Value) (n : Nat) (xs : List Value) (hs : a.eval s = v) (hown : w.ownsRow base e size v n xs)
    (sa : Option Addr) (m c : Nat) (ys : List Value) (hx : a.eval x = .slice sa m c) (hnil : sa = none → m = 0 ∧ c = 0) (hl : ys.length = m * size) (hys : ∀ y, sa = some y → ∀ j u, ys[j]? = some u → w.cell? (y.add j) = some u) (h1 : ∀ u ∈ ys, u.oneCell' = true)
    (h63 : n + m ≤ maxLen) (hbytes : (n + m) * bytes ≤ 140737488355328) (hbase : base ≤ w.heap.size)
    (h : ∀ v' w', w'.ownsRow base e size v' (n + m) (xs ++ ys) → w.grownBy w' v.ownBlock → Fresh w v v' → wpList P ops Q rest (a.put o.dst v') w') : wpList P ops Q (o :: rest) a w := by
  cases sa with
  | none =>
    obtain ⟨rfl, rfl⟩ := hnil rfl
    have hy : ys = [] := List.eq_nil_of_length_eq_zero (by simpa using hl)
    subst hy
    exact wpList_append_own_none hgd s x t ho base e i size ht hi v n xs hs hown hx (h v w (by simpa using hown) (grownBy_refl _ _) (Fresh.refl _ _))
  | some y => exact wpList_append_fresh w hgd s x t ho base e i z size bytes ht hi hz hsize hby hzs hsz v n xs hs hown y m c ys hx hl (hys y rfl) h1 h63 hbytes hbase h

end Go.Proofs.Yticnkppnpfgceaa.Mg
