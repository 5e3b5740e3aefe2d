/-
  GraphOrder: the edges in the other order; more edges, fewer edges; rows of one's own under what turns.
-/
import Derived.Test.YtoihjkpjijncdaaLb
namespace Go.Proofs.Ytoihjkpjijncdaa
open Go.RowKit Go.Maps

theorem lds_mono {E E' : List (Lit × Lit)} (h : ∀ e, e ∈ E → e ∈ E') {a b : Lit} (k : Lds (outE E) a b) : Lds (outE E') a b := by
  have hm : ∀ x y, outE E x y = true → outE E' x y = true := fun x y e => by
    simp only [outE, decide_eq_true_iff] at *
    exact h _ e
  induction k with
  | one e => exact .one (hm _ _ e)
  | more _ e ih => exact .more ih (hm _ _ e)
theorem ring_mono {E E' : List (Lit × Lit)} (h : ∀ e, e ∈ E → e ∈ E') {a : Lit} {R R' : List Int} (hR : IsRingI E a R) (hR' : IsRingI E' a R') {x : Int} (hx : x ∈ R) : x ∈ R' := by
  obtain ⟨h1, h2⟩ := (hR.mem x).1 hx
  exact (hR'.mem x).2 ⟨lds_mono h h1, lds_mono h h2⟩
theorem ring_set {E E' : List (Lit × Lit)} (h : ∀ e, e ∈ E ↔ e ∈ E') {a : Lit} {R R' : List Int} (hR : IsRingI E a R) (hR' : IsRingI E' a R') : R = R' :=
  hR.eq hR' fun _ => ⟨fun ⟨u, v⟩ => ⟨lds_mono (fun e => (h e).1) u, lds_mono (fun e => (h e).1) v⟩, fun ⟨u, v⟩ => ⟨lds_mono (fun e => (h e).2) u, lds_mono (fun e => (h e).2) v⟩⟩
theorem pair_nodup_le : ∀ {l T : List (Lit × Lit)}, l.Nodup → (∀ x, x ∈ l → x ∈ T) → l.length ≤ T.length
  | [], _, _, _ => Nat.zero_le _
  | a :: r, T, hn, hs => by
    obtain ⟨h1, h2⟩ := List.nodup_cons.1 hn
    have ha : a ∈ T := hs a (by simp)
    have := pair_nodup_le (T := T.erase a) h2 (fun x hx => (List.mem_erase_of_ne (fun e : x = a => h1 (by rw [← e]; exact hx))).2 (hs x (by simp [hx])))
    rw [List.length_erase_of_mem ha] at this
    have := List.length_pos_of_mem ha
    simp
    omega
theorem made_rev {l : List (Int × Int)} {n : Nat} (hn : n ≤ 60) (hl : l.take n = l.take 60) (z : Lit × Lit) : z ∈ madeE l 60 ↔ z ∈ madeE (l.take n).reverse 60 := by
  rw [mem_madeE, mem_madeE, ← hl]
  have : ((l.take n).reverse).take 60 = (l.take n).reverse := List.take_of_length_le (by simp; omega)
  rw [this]
  simp
theorem dropE_sub {E : List (Lit × Lit)} {e z : Lit × Lit} (h : z ∈ dropE E e) : z ∈ E := (List.mem_filter.1 h).1

theorem row_below {W W' : World} {B e n : Nat} {v : Value} {xs : List Value} (h : W.ownsRow B e 1 v n xs) (hb : Below W.heap.size W W') : W'.ownsRow B e 1 v n xs :=
  row_at h fun i hi => by
    obtain ⟨cur, h1, _⟩ := row_kind h hi
    exact hb.block i (Array.getElem?_eq_some_iff.1 h1).1
theorem row_turn {W W' : World} {B n p N : Nat} {E : List (Lit × Lit)} {S : Nat → Prop} {v : Value} {xs : List Value} (h : W.ownsRow B 3 1 v n xs) (g : Gr 3 61 W p N E S) (t : Turn S W W') : W'.ownsRow B 3 1 v n xs :=
  row_at h fun i hi => by
    obtain ⟨cur, h1, _⟩ := row_kind h hi
    exact t.block i (Array.getElem?_eq_some_iff.1 h1).1 (g.not_row h1 (by decide))
/-- Two graphs that have no block in common. -/
theorem Gr.other {W W' : World} {q M : Nat} {F : List (Lit × Lit)} {S T : Nat → Prop} (h : Gr 3 61 W q M F T) (t : Turn S W W') (hd : ∀ i, S i → ¬ T i) : Gr 3 61 W' q M F T := h.turn t fun i hi hs => hd i hs hi

def eC (e : Int × Int) : List Value := [.int .i64 e.1, .int .i64 e.2]
theorem sle_row {W : World} {B c : Nat} {va : Option Addr} {m : List (Int × Int)} (h : W.ownsRow B 27 2 (.slice va m.length c) m.length (m.flatMap eC)) (hwf : ∀ e, e ∈ m → (Lit.int .i64 e.1).wf = true ∧ (Lit.int .i64 e.2).wf = true) : SlE W va m := by
  refine ⟨fun j hj => ?_, hwf⟩
  rcases h.2 with ⟨_, h2⟩ | ⟨g, cap, cur, hv, h2, h3, h4, h5, h6, h7⟩
  · rw [h2] at hj; simp at hj
  · cases hv
    have key : ∀ (m : List (Int × Int)) (j : Nat) (hj : j < m.length), (m.flatMap eC)[j * 2]? = some (.int .i64 m[j].1) ∧ (m.flatMap eC)[j * 2 + 1]? = some (.int .i64 m[j].2) := by
      intro m
      induction m with
      | nil => intro j hj; simp at hj
      | cons a r ih =>
        intro j hj
        rcases j with _ | j
        · simp [eC]
        · have := ih j (by simpa using hj)
          have e1 : (j + 1) * 2 = j * 2 + 1 + 1 := by omega
          rw [e1]
          simpa [eC] using this
    obtain ⟨k1, k2⟩ := key m j hj
    have c1 := h.cells (g := g) rfl _ _ k1
    have c2 := h.cells (g := g) rfl _ _ k2
    refine ⟨g, 0, rfl, ?_, ?_⟩
    · rw [Nat.zero_add]
      by_cases hn : j * 2 = 0
      · rw [hn] at c1 ⊢; simpa [Addr.add] using c1
      · simpa [Addr.add, hn] using c1
    · rw [Nat.zero_add]
      simpa [Addr.add] using c2
theorem cell_two (w : World) (u v : Value) (t : TypeId) : ∀ j x, [u, v][j]? = some x → (w.alloc (.cells #[u, v] t)).cell? ((⟨w.heap.size, 0, none⟩ : Addr).add j) = some x := by
  intro j x hj
  have h1 := (MapKept.heap_alloc w (.cells #[u, v] t)).1
  have : j = 0 ∨ j = 1 := by have := (List.getElem?_eq_some_iff.1 hj).1; simp at this; omega
  rcases this with rfl | rfl
  · simp at hj
    subst hj
    show (w.alloc (.cells #[u, v] t)).cell? ⟨w.heap.size, 0, none⟩ = some u
    unfold World.cell?
    rw [h1]
    rfl
  · simp at hj
    subst hj
    show (w.alloc (.cells #[u, v] t)).cell? ⟨w.heap.size, 1, none⟩ = some v
    unfold World.cell?
    rw [h1]
    rfl
theorem inf27 : (Try.prog.info? 27).map (fun i => (i.zero, i.size, i.bytes)) = some (some (.agg #[.int .i64 0, .int .i64 0]), 2, 16) := by kernel_rfl

end Go.Proofs.Ytoihjkpjijncdaa
