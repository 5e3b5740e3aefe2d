/-
  TableRises: an append of pairs, and what is above.
-/
import Derived.Test.YtebchgoaelamcaaDoorUd
namespace Go.Proofs.YtebchgoaelamcaaDoor
open Go.RowKit
set_option maxRecDepth 100000

theorem gtr_of (a b : List UInt8) : (!Op.bytesLess (txt a).toList (txt b).toList && !(txt a).toList == (txt b).toList) = decide (b < a) := by
  rw [toList_txt, toList_txt, bytesLess_eq]
  by_cases h1 : a < b
  · have : ¬ b < a := fun h => List.lt_irrefl a (List.lt_trans h1 h)
    simp [h1, this]
  · by_cases h2 : a = b
    · subst h2
      simp [List.lt_irrefl]
    · have : b < a := by
        rcases List.le_total a b with h | h
        · exact absurd (List.le_antisymm h (List.not_lt.1 h1)) h2
        · exact Classical.byContradiction fun hn => h2 (List.le_antisymm (List.not_lt.1 hn) (List.not_lt.1 h1))
      simp [h1, h2, this]
theorem gtr_not {a b : List UInt8} (h : ¬ b < a) : (!Op.bytesLess (txt a).toList (txt b).toList && !(txt a).toList == (txt b).toList) = false := by
  rw [gtr_of]
  simpa using h

theorem SlQ.news {w : World} {ad : Addr} {M : List Pq} (hM : SlQ w (some ad) M) : ∀ j u, (pcells M)[j]? = some u → w.cell? (ad.add j) = some u := by
  intro j u hj
  have hlt : j < (pcells M).length := (List.getElem?_eq_some_iff.1 hj).1
  rw [pcells_length] at hlt
  have hi : j / 2 < M.length := by omega
  obtain ⟨h1, h2, h3⟩ := hM.cells ad rfl (j / 2) M[j / 2] (List.getElem?_eq_getElem hi)
  have e := pcells_at M (j / 2) M[j / 2] (List.getElem?_eq_getElem hi) (j % 2) (by omega)
  rw [show j / 2 * 2 + j % 2 = j by omega, hj] at e
  have had : ad.add j = ⟨ad.block, ad.off + j, none⟩ := by
    obtain ⟨b, o, sp⟩ := ad
    simp at h1
    subst h1
    simp [Addr.add]
  rw [had]
  rcases Nat.mod_two_eq_zero_or_one j with e0 | e0
  · rw [e0] at e
    simp [encP] at e
    subst e
    rw [show ad.off + j = ad.off + j / 2 * 2 by omega]
    exact h2
  · rw [e0] at e
    simp [encP] at e
    subst e
    rw [show ad.off + j = ad.off + j / 2 * 2 + 1 by omega]
    exact h3

theorem wpList_append_pq (w : World) {ops : Array Oper} {rest : List Oper} {o : Oper} {a : Act} {Q : Exit → Act → World → Prop} (hgd : o.guard = none) (s x : Operand)
    (ho : o.op = .call { callee := .builtin .append, args := #[s, x], argTypes := #[33, 33] })
    (base : Nat) (v : Value) (n : Nat) (xs : List Value) (hs : a.eval s = v) (hown : w.ownsRow base 74 2 v n xs)
    (aM : Option Addr) (cM : Nat) (M : List Pq) (hx : a.eval x = .slice aM M.length cM) (hM : SlQ w aM M) (hc : aM = none → cM = 0)
    (h63 : n + M.length ≤ 100000) (hbase : base ≤ w.heap.size)
    (h : ∀ a' c' w', w'.ownsRow base 74 2 (.slice a' (n + M.length) c') (n + M.length) (xs ++ pcells M) → Below base w w' → wpList Tryd.prog ops Q rest (a.put o.dst (.slice a' (n + M.length) c')) w') : wpList Tryd.prog ops Q (o :: rest) a w := by
  obtain ⟨i0, hi, hz0, hz1, hz2⟩ := info_parts Tryd.info74
  cases aM with
  | none =>
    have hM0 := hM.nonil rfl
    subst hM0
    have hc0 := hc rfl
    subst hc0
    obtain ⟨a', c', rfl⟩ := ownsRow_shape hown
    refine wpList_append_own_none hgd s x 33 ho base 74 i0 2 Tryd.underlying33 hi _ n xs hs hown hx ?_
    have := h a' c' w (by simpa [pcells] using hown) (Below.refl _ _)
    simpa using this
  | some ad =>
    refine wpList_append_fresh w hgd s x 33 ho base 74 i0 _ 2 32 Tryd.underlying33 hi hz0 hz1 hz2 rfl (by decide) v n xs hs hown ad M.length cM (pcells M) hx (pcells_length M) hM.news ?_ (by unfold maxLen; omega) (by omega) hbase ?_
    · intro u hu
      unfold pcells at hu
      obtain ⟨y, _, hy⟩ := List.mem_flatMap.1 hu
      simp [encP] at hy
      rcases hy with rfl | rfl <;> rfl
    · intro v' w' h1 h2 _
      obtain ⟨a', c', rfl⟩ := ownsRow_shape h1
      exact h a' c' w' h1 ((Below.refl base w).grown h2 hbase (fun j hj => (World.ownsRow.lt hown j hj).1))

/-- A row of one's own that is nil has no room; one that has entries has room for them. -/
theorem own_room {w : World} {B : Nat} {a : Option Addr} {n c : Nat} {l : List Pq} (h : w.ownsRow B 74 2 (.slice a n c) n (pcells l)) : (a = none → c = 0) ∧ n ≤ c := by
  rcases h.2 with ⟨h1, h2⟩ | ⟨g, cap, cur, h1, hB, hh, hc, hm, hs, ht⟩
  · injection h1 with e1 e2 e3
    exact ⟨fun _ => e3, by omega⟩
  · injection h1 with e1 e2 e3
    refine ⟨fun e => by rw [e] at e1; simp at e1, ?_⟩
    omega
theorem SlQ.tail {w : World} {b o : Nat} {x : Pq} {l : List Pq} (h : SlQ w (some ⟨b, o, none⟩) (x :: l)) : SlQ w (some ⟨b, o + 2, none⟩) l := by
  refine ⟨fun e => (by cases e), fun y hy i t ht => ?_⟩
  cases hy
  obtain ⟨_, h2, h3⟩ := h.cells _ rfl (i + 1) t (by simpa using ht)
  refine ⟨rfl, ?_, ?_⟩
  · simp only at h2 ⊢
    rw [show o + 2 + i * 2 = o + (i + 1) * 2 by omega]
    exact h2
  · simp only at h3 ⊢
    rw [show o + 2 + i * 2 + 1 = o + (i + 1) * 2 + 1 by omega]
    exact h3
theorem own_zero (w : World) : w.ownsRow w.heap.size 74 2 (.slice none 0 0) 0 (pcells []) := ⟨rfl, .inl ⟨rfl, rfl⟩⟩
theorem wpList_append_pq2 (w : World) {ops : Array Oper} {rest : List Oper} {o : Oper} {a : Act} {Q : Exit → Act → World → Prop} (hgd : o.guard = none) (s x : Operand)
    (ho : o.op = .call { callee := .builtin .append, args := #[s, x], argTypes := #[33, 33] })
    (base : Nat) (v : Value) (X : List Pq) (hs : a.eval s = v) (hown : w.ownsRow base 74 2 v X.length (pcells X))
    (aM : Option Addr) (cM m : Nat) (M Y : List Pq) (hx : a.eval x = .slice aM m cM) (hm : m = M.length) (hM : SlQ w aM M) (hc : aM = none → cM = 0)
    (hY : Y = X ++ M) (h63 : Y.length ≤ 100000) (hbase : base ≤ w.heap.size)
    (h : ∀ a' c' w', w'.ownsRow base 74 2 (.slice a' Y.length c') Y.length (pcells Y) → Below base w w' → wpList Tryd.prog ops Q rest (a.put o.dst (.slice a' Y.length c')) w') : wpList Tryd.prog ops Q (o :: rest) a w := by
  subst hY hm
  refine wpList_append_pq w hgd s x ho base v X.length (pcells X) hs hown aM cM M hx hM hc (by simpa using h63) hbase ?_
  intro a' c' w' h1 h2
  rw [← pcells_append, ← List.length_append] at h1
  have := h a' c' w' h1 h2
  rwa [List.length_append] at this
end Go.Proofs.YtebchgoaelamcaaDoor
