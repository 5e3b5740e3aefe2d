/-
  one: one call on both sides.
-/
import Derived.Test.YthhjjnoeiaaekaaRf
import Derived.Test.YthhjjnoeiaaekaaCa
import Derived.Deep.RegionHeld3
namespace Go.Proofs.Ythhjjnoeiaaekaa
open Go.RowKit

/-- The boxes of one call on both sides. -/
structure OneS (w W : World) (P6 P7 P9 : Nat) (a : Option Addr) (c : Nat) (a6 : Option Addr) (c6 : Nat) (a7 : Option Addr) (c7 : Nat) (a9 : Option Addr) (c9 : Nat) (r X Y : Rg) (o : OpL) : Prop where
  b2 : W.heap[w.heap.size]? = some (.cells #[.slice a r.fr.length c, .int .i64 r.hand] 24)
  b3 : W.heap[w.heap.size + 1]? = some (.cells #[.int .i64 o.kind, .int .i64 o.page, .int .i64 o.n] 34)
  b4 : W.heap[w.heap.size + 1 + 1]? = some (.cells #[.slice none 0 0, .int .i64 0] 24)
  b6 : W.heap[P6]? = some (.cells #[.slice a6 r.fr.length c6, .int .i64 r.hand] 24)
  b7 : W.heap[P7]? = some (.cells #[.slice a7 X.fr.length c7, .int .i64 X.hand] 24)
  b9 : W.heap[P9]? = some (.cells #[.slice a9 Y.fr.length c9, .int .i64 Y.hand] 24)
  s2 : SlF W a r.fr
  s6 : SlF W a6 r.fr
  s7 : SlF W a7 X.fr
  s9 : SlF W a9 Y.fr
  l6 : w.heap.size + 1 + 1 < P6
  l7 : P6 < P7
  l9 : P6 < P9
  ne : P7 ≠ P9
  bel : Below w.heap.size w W
section
variable {w W W' : World} {P6 P7 P9 : Nat} {a : Option Addr} {c : Nat} {a6 : Option Addr} {c6 : Nat} {a7 : Option Addr} {c7 : Nat} {a9 : Option Addr} {c9 : Nat} {r X Y : Rg} {o : OpL}
theorem OneS.below (h : OneS w W P6 P7 P9 a c a6 c6 a7 c7 a9 c9 r X Y o) (hb : Below W.heap.size W W') : OneS w W' P6 P7 P9 a c a6 c6 a7 c7 a9 c9 r X Y o :=
  ⟨box_in' h.b2 hb, box_in' h.b3 hb, box_in' h.b4 hb, box_in' h.b6 hb, box_in' h.b7 hb, box_in' h.b9 hb, h.s2.below hb, h.s6.below hb, h.s7.below hb, h.s9.below hb, h.l6, h.l7, h.l9, h.ne, below_on h.bel hb⟩
theorem OneS.set7 (h : OneS w W P6 P7 P9 a c a6 c6 a7 c7 a9 c9 r X Y o) {a' : Option Addr} {c' : Nat} {X' : Rg} (hs : SlF W a' X'.fr) :
    OneS w ((W.setCell ⟨P7, 0, none⟩ (.slice a' X'.fr.length c')).setCell ⟨P7, 1, none⟩ (.int .i64 X'.hand)) P6 P7 P9 a c a6 c6 a' c' a9 c9 r X' Y o := by
  have h6 := h.l6
  have h7 := h.l7
  have h9 := h.l9
  have hne := h.ne
  exact ⟨(heap_two (by omega)).trans h.b2, (heap_two (by omega)).trans h.b3, (heap_two (by omega)).trans h.b4, (heap_two (by omega)).trans h.b6, ring_set h.b7, (heap_two (fun e => hne e.symm)).trans h.b9, slF_two h.s2 h.b7, slF_two h.s6 h.b7, slF_two hs h.b7, slF_two h.s9 h.b7, h6, h7, h9, hne, below_two h.bel (by omega)⟩
theorem OneS.set9 (h : OneS w W P6 P7 P9 a c a6 c6 a7 c7 a9 c9 r X Y o) {a' : Option Addr} {c' : Nat} {X' : Rg} (hs : SlF W a' X'.fr) :
    OneS w ((W.setCell ⟨P9, 0, none⟩ (.slice a' X'.fr.length c')).setCell ⟨P9, 1, none⟩ (.int .i64 X'.hand)) P6 P7 P9 a c a6 c6 a7 c7 a' c' r X X' o := by
  have h6 := h.l6
  have h7 := h.l7
  have h9 := h.l9
  have hne := h.ne
  exact ⟨(heap_two (by omega)).trans h.b2, (heap_two (by omega)).trans h.b3, (heap_two (by omega)).trans h.b4, (heap_two (by omega)).trans h.b6, (heap_two hne).trans h.b7, ring_set h.b9, slF_two h.s2 h.b9, slF_two h.s6 h.b9, slF_two h.s7 h.b9, slF_two hs h.b9, h6, h7, h9, hne, below_two h.bel (by omega)⟩
end

theorem putR_len {r : Rg} (p : Int) (_ : r.fr.length ≤ 100) : (putR r p).1.fr.length ≤ 100 := by
  by_cases e : (putR r p).2 = 0
  · have := (put_may e).most; omega
  · unfold putR at e ⊢
    split at e <;> rename_i h1
    · rw [if_pos h1] at *
      split at e <;> rename_i h2
      · rw [if_pos h2]; simp [Rg.zero]
      · rw [if_neg h2]
        split at e <;> rename_i h3
        · rw [if_pos h3]; simp [Rg.zero]
        · simp at e
    · rw [if_neg h1]; simp [Rg.zero]
theorem dropR_len {r : Rg} (p : Int) (h : r.fr.length ≤ 100) : (dropR r p).1.fr.length ≤ 100 := by
  unfold dropR
  split
  · simp [Rg.zero]
  · split
    · simp [Rg.zero]
    · rw [withR_len]; exact h
theorem pinR_len {r : Rg} (p n : Int) (t : Bool) (h : r.fr.length ≤ 100) : (pinR r p n t).1.fr.length ≤ 100 := by
  unfold pinR
  split
  · simp [Rg.zero]
  · simp only
    split
    · simp [Rg.zero]
    · rw [withR_len]; exact h
theorem nextR_len {r : Rg} (_ : r.fr.length ≤ 100) : (nextR r).2.1.fr.length ≤ 100 := by
  by_cases e : (nextR r).2.2 = 0
  · have := (next_may e).most; omega
  · rcases next_cases r with ⟨e1, -⟩ | ⟨e1, -, -⟩ | ⟨i, l, h', e1, -, T, -⟩
    · rw [e1]; simp [Rg.zero]
    · rw [e1]; simp [Rg.zero]
    · rw [e1] at e; simp at e
end Go.Proofs.Ythhjjnoeiaaekaa
