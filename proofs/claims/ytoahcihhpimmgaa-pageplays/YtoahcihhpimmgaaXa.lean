/-
  Pairs put in, one by one, where they belong.
-/
import Derived.Test.YtoahcihhpimmgaaSs
import Derived.Test.YtoahcihhpimmgaaCl
import Derived.Lib.Hide
namespace Go.Proofs.Ytoahcihhpimmgaa
open Go.RowKit

theorem sortP_iff (L : List Pq) : SortP L ↔ L.Pairwise (fun a b => ¬ b.1 < a.1) := by
  rw [List.pairwise_iff_getElem]
  exact ⟨fun h i j hi hj hij => h i j hi hj hij, fun h i j hi hj hij => h i j hi hj hij⟩
def insP (L : List Pq) (x : Pq) (m : Nat) : List Pq := L.take m ++ x :: L.drop m
theorem insP_end (L : List Pq) (x : Pq) : insP L x L.length = L ++ [x] := by simp [insP]
theorem insP_len (L : List Pq) (x : Pq) (m : Nat) : (insP L x m).length = L.length + 1 := by
  simp only [insP, List.length_append, List.length_cons, List.length_take, List.length_drop]; omega
theorem insP_self {L : List Pq} {x : Pq} {m : Nat} (h : m ≤ L.length) : (insP L x m)[m]? = some x := by
  unfold insP
  rw [List.getElem?_append_right (by simp; omega)]
  simp [Nat.min_eq_left h]
theorem insP_prev {L : List Pq} {x : Pq} {k : Nat} (h : k < L.length) : (insP L x (k + 1))[k]? = some L[k] := by
  unfold insP
  rw [List.getElem?_append_left (by simp; omega), List.getElem?_take_of_lt (by omega), List.getElem?_eq_getElem h]
theorem insP_swap {L : List Pq} {x : Pq} {k : Nat} (h : k < L.length) : ((insP L x (k + 1)).set (k + 1) L[k]).set k x = insP L x k := by
  apply List.ext_getElem?
  intro i
  have hl : (insP L x (k + 1)).length = L.length + 1 := insP_len _ _ _
  unfold insP at hl ⊢
  rw [List.getElem?_set, List.getElem?_set, List.length_set, hl]
  by_cases e1 : k = i
  · subst e1
    rw [if_pos rfl, if_pos (by omega), List.getElem?_append_right (by simp; omega)]
    simp [Nat.min_eq_left (Nat.le_of_lt h)]
  · rw [if_neg e1]
    by_cases e2 : k + 1 = i
    · subst e2
      rw [if_pos rfl, if_pos (by omega), List.getElem?_append_right (by simp; omega)]
      simp [Nat.min_eq_left (Nat.le_of_lt h), List.getElem?_eq_getElem h]
    · rw [if_neg e2]
      by_cases e3 : i < k
      · rw [List.getElem?_append_left (by simp; omega), List.getElem?_append_left (by simp; omega), List.getElem?_take_of_lt (by omega), List.getElem?_take_of_lt (by omega)]
      · rw [List.getElem?_append_right (by simp; omega), List.getElem?_append_right (by simp; omega)]
        simp only [List.length_take]
        rw [Nat.min_eq_left (by omega), Nat.min_eq_left (by omega)]
        obtain ⟨q, rfl⟩ : ∃ q, i = k + 2 + q := ⟨i - (k + 2), by omega⟩
        rw [show k + 2 + q - (k + 1) = q + 1 by omega, show k + 2 + q - k = q + 2 by omega, List.getElem?_cons_succ, List.getElem?_cons_succ, List.getElem?_drop, List.getElem?_drop]
        congr 1
        omega
theorem insP_perm (L : List Pq) (x : Pq) (m : Nat) : (insP L x m).Perm (L ++ [x]) := by
  unfold insP
  have h1 : (L.take m ++ x :: L.drop m).Perm (x :: (L.take m ++ L.drop m)) := List.perm_middle
  rw [List.take_append_drop] at h1
  exact h1.trans (List.perm_append_comm (l₁ := [x]) (l₂ := L))
theorem insP_sort {L : List Pq} {x : Pq} {m : Nat} (h : SortP L) (hm : m ≤ L.length) (h1 : ∀ y, L[m - 1]? = some y → 0 < m → ¬ x.1 < y.1) (h2 : ∀ y, y ∈ L.drop m → x.1 < y.1) : SortP (insP L x m) := by
  have hp := (sortP_iff L).1 h
  rw [sortP_iff]
  unfold insP
  have hs : (L.take m ++ L.drop m).Pairwise (fun a b => ¬ b.1 < a.1) := by rw [List.take_append_drop]; exact hp
  rw [List.pairwise_append] at hs
  obtain ⟨p1, p2, p3⟩ := hs
  rw [List.pairwise_append, List.pairwise_cons]
  refine ⟨p1, ⟨fun b hb => List.le_of_lt (h2 b hb), p2⟩, fun a ha b hb => ?_⟩
  rcases List.mem_cons.1 hb with rfl | hb
  · obtain ⟨i, hi, rfl⟩ := List.mem_iff_getElem.1 ha
    have him : i < m := by simp at hi; omega
    have hiL : i < L.length := by omega
    rw [List.getElem_take]
    have hl := h1 L[m - 1] (List.getElem?_eq_getElem (by omega)) (by omega)
    by_cases e : i = m - 1
    · subst e
      exact hl
    · have := h i (m - 1) hiL (by omega) (by omega)
      exact List.le_trans this hl
  · exact p3 a ha b hb

theorem pcells_cons (x : Pq) (L : List Pq) : pcells (x :: L) = .string (txt x.1) :: .string (txt x.2) :: pcells L := by simp [pcells, encP]
theorem pcells_set : ∀ (L : List Pq) (i : Nat) (y : Pq), i < L.length → pcells (L.set i y) = ((pcells L).set (i * 2) (.string (txt y.1))).set (i * 2 + 1) (.string (txt y.2))
  | [], _, _, h => by simp at h
  | x :: L, 0, y, _ => by simp [pcells_cons]
  | x :: L, i + 1, y, h => by
    have ih := pcells_set L i y (by simpa using h)
    rw [List.set_cons_succ, pcells_cons, pcells_cons, ih, show (i + 1) * 2 = i * 2 + 1 + 1 by omega]
    simp only [List.set_cons_succ]
theorem pcells_get : ∀ (L : List Pq) (i : Nat) (y : Pq), L[i]? = some y → (pcells L)[i * 2]? = some (.string (txt y.1)) ∧ (pcells L)[i * 2 + 1]? = some (.string (txt y.2))
  | [], _, _, h => by simp at h
  | x :: L, 0, y, h => by simp at h; subst h; simp [pcells_cons]
  | x :: L, i + 1, y, h => by
    have ih := pcells_get L i y (by simpa using h)
    rw [pcells_cons, show (i + 1) * 2 = i * 2 + 1 + 1 by omega]
    simpa only [List.getElem?_cons_succ] using ih
theorem own_at {w : World} {B g n c : Nat} {L : List Pq} (h : w.ownsRow B 59 2 (.slice (some ⟨g, 0, none⟩) n c) n (pcells L)) {i : Nat} {y : Pq} (hy : L[i]? = some y) : w.cell? ⟨g, i * 2, none⟩ = some (.string (txt y.1)) ∧ w.cell? ⟨g, i * 2 + 1, none⟩ = some (.string (txt y.2)) := by
  obtain ⟨h1, h2⟩ := pcells_get L i y hy
  have hadd : ∀ j, (⟨g, 0, none⟩ : Addr).add j = ⟨g, j, none⟩ := fun j => by unfold Addr.add; split <;> simp_all
  have c1 := h.cells (g := g) rfl _ _ h1
  have c2 := h.cells (g := g) rfl _ _ h2
  rw [hadd] at c1 c2
  exact ⟨c1, c2⟩
theorem own_setP {w : World} {B g n c : Nat} {L : List Pq} (h : w.ownsRow B 59 2 (.slice (some ⟨g, 0, none⟩) n c) n (pcells L)) {i : Nat} (hi : i < L.length) (y : Pq) :
    ((w.setCell ⟨g, i * 2, none⟩ (.string (txt y.1))).setCell ⟨g, i * 2 + 1, none⟩ (.string (txt y.2))).ownsRow B 59 2 (.slice (some ⟨g, 0, none⟩) n c) n (pcells (L.set i y)) := by
  rw [pcells_set L i y hi]
  exact own_set (own_set h _ _) _ _
theorem own_addr {w : World} {B e size n c : Nat} {a : Option Addr} {xs : List Value} (h : w.ownsRow B e size (.slice a n c) n xs) : (a = none ∧ n = 0 ∧ c = 0) ∨ ∃ g cur, a = some ⟨g, 0, none⟩ ∧ B ≤ g ∧ w.heap[g]? = some (.cells cur e) ∧ n ≤ c ∧ cur.size = c * size := by
  rcases h.2 with ⟨e1, e2⟩ | ⟨g, cap, cur, e1, h1, h2, h3, _, h5, _⟩
  · simp at e1
    exact .inl ⟨e1.1, e2, e1.2.2⟩
  · simp at e1
    obtain ⟨rfl, rfl⟩ := e1
    exact .inr ⟨g, cur, rfl, h1, h2, h3, h5⟩
theorem row_low {w : World} {B B' e size n : Nat} {v : Value} {xs : List Value} (h : w.ownsRow B e size v n xs) (hb : B' ≤ B) : w.ownsRow B' e size v n xs := by
  refine ⟨h.1, ?_⟩
  rcases h.2 with h2 | ⟨g, cap, cur, h1, h3, h4⟩
  · exact .inl h2
  · exact .inr ⟨g, cap, cur, h1, by omega, h4⟩
theorem kind_ne {w : World} {k q e t : Nat} {c d : Array Value} (h1 : w.heap[k]? = some (Obj.cells c e)) (h2 : w.heap[q]? = some (Obj.cells d t)) (hne : e ≠ t) : k ≠ q := by
  intro h
  subst h
  rw [h1] at h2
  simp at h2
  exact hne h2.2

end Go.Proofs.Ytoahcihhpimmgaa
