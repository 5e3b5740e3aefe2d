/-
  The Reader's walks.
-/
import Derived.Test.YticadfaclnimgaaWr
namespace Go.Proofs.Yticadfaclnimgaa
open Go.RowKit

/-- A Reader that lies in block p and has the bytes l left, and the error err. -/
structure ROk (w : World) (B p : Nat) (a : Option Addr) (c : Nat) (l : List UInt8) (err : Int) : Prop where
  base : B ≤ p
  blk : w.heap[p]? = some (.cells #[.slice a l.length c, .int .i64 err] 108 (0, 0))
  sl : SlB w a l
  row : ∀ x, a = some x → x.spot = none ∧ x.block < p ∧ x.block < w.heap.size ∧ B ≤ x.block
  len : l.length ≤ c
  cap : c ≤ maxLen
  nil : a = none → c = 0

theorem two_cells {w : World} {b : Nat} {v u : Value} {t : TypeId} (h : w.heap[b]? = some (.cells #[v, u] t (0, 0))) :
    w.cell? ⟨b, 0, none⟩ = some v ∧ w.cell? ⟨b, 1, none⟩ = some u ∧ w.frozen? ⟨b, 0, none⟩ = false ∧ w.frozen? ⟨b, 1, none⟩ = false := by
  simp [World.cell?, World.frozen?, h]

theorem two_set0 {w : World} {b : Nat} {v u x : Value} {t : TypeId} (h : w.heap[b]? = some (.cells #[v, u] t (0, 0))) : (w.setCell ⟨b, 0, none⟩ x).heap[b]? = some (.cells #[x, u] t (0, 0)) := by
  have hlt := lt_of_block h
  have h' : w.heap[b] = .cells #[v, u] t (0, 0) := by simpa [Array.getElem?_eq_getElem hlt] using h
  show (w.heap.modify b _)[b]? = _
  simp [Array.getElem?_modify, h]

theorem two_set1 {w : World} {b : Nat} {v u x : Value} {t : TypeId} (h : w.heap[b]? = some (.cells #[v, u] t (0, 0))) : (w.setCell ⟨b, 1, none⟩ x).heap[b]? = some (.cells #[v, x] t (0, 0)) := by
  have hlt := lt_of_block h
  have h' : w.heap[b] = .cells #[v, u] t (0, 0) := by simpa [Array.getElem?_eq_getElem hlt] using h
  show (w.heap.modify b _)[b]? = _
  simp [Array.getElem?_modify, h]

theorem ROk.below {w w' : World} {B D p : Nat} {a : Option Addr} {c : Nat} {l : List UInt8} {err : Int} (h : ROk w B p a c l err) (hb : Below D w w') (hD : w.heap.size ≤ D) : ROk w' B p a c l err :=
  ⟨h.base, by rw [hb.block p (by have := lt_of_block h.blk; omega)]; exact h.blk, h.sl.below (hb.mono hD), fun x hx => by obtain ⟨r1, r2, r3, r4⟩ := h.row x hx; have := hb.size; exact ⟨r1, r2, by omega, r4⟩, h.len, h.cap, h.nil⟩

theorem SlB.setCell {w : World} {a : Option Addr} {l : List UInt8} (h : SlB w a l) {p q : Nat} (hne : ∀ x, a = some x → x.block ≠ p) (u : Value) : SlB (w.setCell ⟨p, q, none⟩ u) a l :=
  ⟨h.nonil, fun x hx j v hv => by
    have h1 := h.cells x hx j v hv
    have h2 : (x.add j).block = x.block := by unfold Addr.add; split <;> rfl
    rw [World.cell?_of_block (w := w) (Below.heap_setCell _ _ _ _ (by rw [h2]; exact hne x hx))]
    exact h1⟩

theorem ROk.fail {w : World} {B p : Nat} {a : Option Addr} {c : Nat} {l : List UInt8} {err : Int} (h : ROk w B p a c l err) (e : Int) : ROk (w.setCell ⟨p, 1, none⟩ (.int .i64 e)) B p a c l e :=
  ⟨h.base, two_set1 h.blk, h.sl.setCell (fun x hx => Nat.ne_of_lt (h.row x hx).2.1) _, fun x hx => by have := h.row x hx; simpa [World.setCell] using this, h.len, h.cap, h.nil⟩

theorem SlB.shift {w : World} {a : Option Addr} {l : List UInt8} {x : Addr} {k : Nat} (h : SlB w a l) (hx : a = some x) : SlB w (some (x.add k)) (l.drop k) :=
  ⟨fun h => by simp at h, fun y hy j v hv => by
    simp at hy
    subst hy
    have h1 := h.cells x hx (k + j) v (by rw [← hv]; simp [bcells, List.getElem?_drop])
    rw [← h1]
    congr 1
    unfold Addr.add
    by_cases hk : k = 0
    · subst hk; simp
    · by_cases hj : j = 0
      · subst hj; simp
      · have : ¬ (k + j = 0) := by omega
        simp [hk, hj, Nat.add_assoc]⟩

theorem SlB.empty {w : World} {a : Option Addr} : SlB w a [] := ⟨fun _ => rfl, fun x _ j u hu => by simp [bcells] at hu⟩

/-- Nothing but block p has turned. -/
theorem grefl (w : World) (p : Nat) : w.grownBy w (some p) := ⟨rfl, rfl, rfl, Nat.le_refl _, fun _ _ _ => rfl⟩
theorem gset (w : World) (p q : Nat) (u : Value) : w.grownBy (w.setCell ⟨p, q, none⟩ u) (some p) :=
  ⟨rfl, rfl, rfl, by simp [World.setCell], fun k _ hne => Below.heap_setCell _ _ _ _ (fun e => hne (by rw [e]))⟩
theorem galloc {w w' : World} {p : Nat} (h : w.grownBy w' (some p)) (o : Obj) : w.grownBy (w'.alloc o) (some p) :=
  ⟨h.os, h.tape, h.output, by have := h.size; simp; omega, fun k hk hne => by rw [Below.heap_alloc _ _ _ (by have := h.size; omega)]; exact h.block k hk hne⟩
theorem ROk.toBelow {w w' : World} {B p : Nat} {a : Option Addr} {c : Nat} {l : List UInt8} {err : Int} (h : ROk w B p a c l err) (hg : w.grownBy w' (some p)) : Below B w w' :=
  (Below.refl _ _).grown hg (by have := lt_of_block h.blk; have := h.base; omega) (fun k hk => by simp at hk; subst hk; exact h.base)

/-- A store above the Reader's own block. -/
theorem ROk.setHigh {w : World} {B p : Nat} {a : Option Addr} {c : Nat} {l : List UInt8} {err : Int} (h : ROk w B p a c l err) {q j : Nat} (hq : p < q) (u : Value) : ROk (w.setCell ⟨q, j, none⟩ u) B p a c l err :=
  ⟨h.base, by rw [Below.heap_setCell _ _ _ _ (by simp; omega)]; exact h.blk, h.sl.setCell (fun x hx => by have := h.row x hx; omega) _, fun x hx => by have := h.row x hx; simpa [World.setCell] using this, h.len, h.cap, h.nil⟩

theorem SlB.at {w : World} {g o : Nat} {l : List UInt8} (h : SlB w (some ⟨g, o, none⟩) l) (j : Nat) (hj : j < l.length) : w.cell? ⟨g, o + j, none⟩ = some (.int .u8 ((l[j]'hj).toNat : Nat)) := by
  have := h.cells _ rfl j (.int .u8 ((l[j]'hj).toNat : Nat)) (by simp [bcells, List.getElem?_eq_getElem hj])
  rw [← this]
  congr 1
  unfold Addr.add
  split <;> simp_all

theorem ROk.spot {w : World} {B p : Nat} {a : Option Addr} {c : Nat} {l : List UInt8} {err : Int} (h : ROk w B p a c l err) : ∀ x, a = some x → x.spot = none := fun x hx => (h.row x hx).1

theorem ROk.slide {w : World} {B p g o : Nat} {c c' : Nat} {l : List UInt8} {err : Int} (h : ROk w B p (some ⟨g, o, none⟩) c l err) (q : Nat) (l' : List UInt8) (n : Nat) (hn : n = l'.length) (hsl : SlB w (some ⟨g, q, none⟩) l') (hl : l'.length ≤ c') (hc : c' ≤ maxLen) :
    ROk (w.setCell ⟨p, 0, none⟩ (.slice (some ⟨g, q, none⟩) n c')) B p (some ⟨g, q, none⟩) c' l' err := by
  obtain ⟨_, r2, r3, r4⟩ := h.row _ rfl
  subst hn
  exact ⟨h.base, two_set0 h.blk, hsl.setCell (fun x hx => by simp at hx; subst hx; exact Nat.ne_of_lt r2) _, fun x hx => by simp at hx; subst hx; exact ⟨rfl, r2, by simpa [World.setCell] using r3, r4⟩, hl, hc, fun h => by simp at h⟩

theorem SlB.shift' {w : World} {g o : Nat} {l : List UInt8} (h : SlB w (some ⟨g, o, none⟩) l) (k : Nat) : SlB w (some ⟨g, o + k, none⟩) (l.drop k) := by
  have := h.shift (k := k) rfl
  have e : (⟨g, o, none⟩ : Addr).add k = ⟨g, o + k, none⟩ := by unfold Addr.add; split <;> simp_all
  rwa [e] at this

theorem ROk.adv {w : World} {B p g o : Nat} {c : Nat} {l : List UInt8} {err : Int} (h : ROk w B p (some ⟨g, o, none⟩) c l err) (k : Nat) :
    ROk (w.setCell ⟨p, 0, none⟩ (.slice (some ⟨g, o + k, none⟩) (l.length - k) (c - k))) B p (some ⟨g, o + k, none⟩) (c - k) (l.drop k) err :=
  h.slide (o + k) (l.drop k) _ (by simp) (h.sl.shift' k) (by have := h.len; simp; omega) (by have := h.cap; omega)

theorem ROk.adv0 {w : World} {B p g o : Nat} {c : Nat} {l : List UInt8} {err : Int} (h : ROk w B p (some ⟨g, o, none⟩) c l err) (k : Nat) (hc : c = k) :
    ROk (w.setCell ⟨p, 0, none⟩ (.slice (some ⟨g, o, none⟩) (l.length - k) 0)) B p (some ⟨g, o, none⟩) 0 (l.drop k) err := by
  have hl := h.len
  have e : l.drop k = [] := List.drop_eq_nil_of_le (by omega)
  rw [e]
  exact h.slide o [] _ (by simp; omega) SlB.empty (by simp) (by simp)

theorem takeN_lt (k : Nat) (l : List UInt8) (err : Int) : (takeN k l err).2.2 < 256 ^ k := by
  have h0 : 0 < 256 ^ k := Nat.pow_pos (by decide)
  unfold takeN
  split
  · exact h0
  · split
    · exact h0
    · have := leV_lt (l.take k)
      have e : (l.take k).length = k := by simp; omega
      rwa [e] at this

end Go.Proofs.Yticadfaclnimgaa
