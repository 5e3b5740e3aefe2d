/-
  The walk of RecOwn.
-/
import Derived.Test.YtjhjicokbdloiabBn
import Derived.Test.YtjhjicokbdloiabRs
namespace Go.Proofs.Ytjhjicokbdloiab
open Go.RowKit

/-- Nothing has turned but blocks from lo on and below hi. -/
structure Mid (lo hi : Nat) (w w' : World) : Prop where
  os : w'.os = w.os
  tape : w'.tape = w.tape
  output : w'.output = w.output
  size : w.heap.size ≤ w'.heap.size
  block : ∀ k, (k < lo ∨ hi ≤ k) → w'.heap[k]? = w.heap[k]?
theorem Mid.refl (lo hi : Nat) (w : World) : Mid lo hi w w := ⟨rfl, rfl, rfl, Nat.le_refl _, fun _ _ => rfl⟩
theorem Mid.set {lo hi : Nat} {w w1 : World} (h : Mid lo hi w w1) (g i : Nat) (u : Value) (h1 : lo ≤ g) (h2 : g < hi) : Mid lo hi w (w1.setCell ⟨g, i, none⟩ u) :=
  ⟨h.os, h.tape, h.output, by simpa using h.size, fun k hk => by
    rw [heap_setCell_other _ _ _ _ (by show k ≠ g; omega)]
    exact h.block k hk⟩
theorem Mid.mono {lo hi lo' hi' : Nat} {w w1 : World} (h : Mid lo hi w w1) (h1 : lo' ≤ lo) (h2 : hi ≤ hi') : Mid lo' hi' w w1 := ⟨h.os, h.tape, h.output, h.size, fun k hk => h.block k (by omega)⟩
theorem Mid.trans {lo hi : Nat} {w w1 w2 : World} (h : Mid lo hi w w1) (k : Mid lo hi w1 w2) : Mid lo hi w w2 :=
  ⟨k.os.trans h.os, k.tape.trans h.tape, k.output.trans h.output, Nat.le_trans h.size k.size, fun i hi => (k.block i hi).trans (h.block i hi)⟩
theorem Mid.below {lo hi : Nat} {w w1 : World} (h : Mid lo hi w w1) : Below lo w w1 := ⟨h.os, h.tape, h.output, h.size, fun k hk => h.block k (.inl hk)⟩
theorem Mid.own {lo hi : Nat} {w w1 : World} (h : Mid lo hi w w1) {B : Nat} {e : TypeId} {size : Nat} {v : Value} {n : Nat} {xs : List Value} (ho : w.ownsRow B e size v n xs) (hb : ∀ k, v.ownBlock = some k → k < lo ∨ hi ≤ k) : w1.ownsRow B e size v n xs := by
  refine ⟨ho.1, ?_⟩
  rcases ho.2 with h2 | ⟨g, cap, cur, hv, hg, hh, r⟩
  · exact .inl h2
  · refine .inr ⟨g, cap, cur, hv, hg, ?_, r⟩
    rw [h.block g (hb g (by rw [hv]; rfl))]
    exact hh

/-- A cell of an owned row that is written. -/
theorem own_set {w : World} {B g n cap : Nat} {e : TypeId} {size : Nat} {xs : List Value} (h : w.ownsRow B e size (.slice (some ⟨g, 0, none⟩) n cap) n xs) (k : Nat) (u : Value) :
    (w.setCell ⟨g, k, none⟩ u).ownsRow B e size (.slice (some ⟨g, 0, none⟩) n cap) n (xs.set k u) := by
  rcases h.2 with ⟨h1, _⟩ | ⟨g', cap', cur, h1, hB, hh, hc, hm, hs, ht⟩
  · simp at h1
  · simp at h1
    obtain ⟨rfl, rfl⟩ := h1
    refine ⟨by simpa using h.1, .inr ⟨g, cap, cur.setIfInBounds k u, rfl, hB, heap_setCell_same _ _ _ _ _ _ hh, hc, hm, by simpa using hs, ?_⟩⟩
    rw [← ht]
    simp [List.take_set]
theorem own_some {w : World} {B : Nat} {e : TypeId} {size : Nat} {a : Option Addr} {n c : Nat} {xs : List Value} (h : w.ownsRow B e size (.slice a n c) n xs) (hn : 0 < n) : ∃ g, a = some ⟨g, 0, none⟩ ∧ B ≤ g ∧ g < w.heap.size := by
  rcases h.2 with ⟨_, h2⟩ | ⟨g, cap, cur, h1, hb, hh, hc, _⟩
  · omega
  · simp at h1
    exact ⟨g, h1.1, hb, (Array.getElem?_eq_some_iff.mp hh).1⟩
theorem own_some' {w : World} {B : Nat} {e : TypeId} {size : Nat} {a : Option Addr} {n c : Nat} {xs : List Value} (h : w.ownsRow B e size (.slice a n c) n xs) (g : Nat) (hg : (Value.slice a n c).ownBlock = some g) : ∃ g', a = some ⟨g', 0, none⟩ ∧ g' = g := by
  rcases h.2 with ⟨h1, _⟩ | ⟨g', cap, cur, h1, hb, hh, hc, _⟩
  · simp at h1
    obtain ⟨rfl, _⟩ := h1
    simp [Value.ownBlock] at hg
  · simp at h1
    obtain ⟨rfl, _⟩ := h1
    simp [Value.ownBlock] at hg
    exact ⟨g', rfl, hg⟩
theorem own_cell {w : World} {B g n cap : Nat} {e : TypeId} {size : Nat} {xs : List Value} (h : w.ownsRow B e size (.slice (some ⟨g, 0, none⟩) n cap) n xs) (k : Nat) (hk : k < n * size) :
    (∃ u, w.cell? ⟨g, k, none⟩ = some u ∧ xs[k]? = some u) ∧ w.frozen? ⟨g, k, none⟩ = false := by
  have hl : k < xs.length := by rw [h.1]; exact hk
  have hc := h.cells (g := g) rfl k xs[k] (List.getElem?_eq_getElem hl)
  have e0 : (⟨g, 0, none⟩ : Addr).add k = ⟨g, k, none⟩ := by unfold Addr.add; split <;> simp_all
  rw [e0] at hc
  refine ⟨⟨_, hc, List.getElem?_eq_getElem hl⟩, ?_⟩
  rcases h.2 with ⟨h1, _⟩ | ⟨g', cap', cur, h1, hB, hh, _⟩
  · simp at h1
  · simp at h1
    obtain ⟨rfl, rfl⟩ := h1
    simp [World.frozen?, hh]
theorem own_len {w : World} {B : Nat} {e : TypeId} {size : Nat} {a : Option Addr} {n m c : Nat} {xs : List Value} (h : w.ownsRow B e size (.slice a n c) m xs) : n ≤ c := by
  rcases h.2 with ⟨h1, h2⟩ | ⟨g, cap, cur, h1, hb, hh, hc, _⟩
  · simp at h1
    omega
  · simp at h1
    omega
theorem own_ne {w : World} {B B' g g' n n' cap cap' : Nat} {e e' : TypeId} {size size' : Nat} {xs xs' : List Value} (h : w.ownsRow B e size (.slice (some ⟨g, 0, none⟩) n cap) n xs) (h' : w.ownsRow B' e' size' (.slice (some ⟨g', 0, none⟩) n' cap') n' xs') (he : e ≠ e') : g ≠ g' := by
  rcases h.2 with ⟨h1, _⟩ | ⟨k, c, cur, h1, _, hh, _⟩
  · simp at h1
  · rcases h'.2 with ⟨h2, _⟩ | ⟨k', c', cur', h2, _, hh', _⟩
    · simp at h2
    · simp at h1 h2
      obtain ⟨rfl, rfl⟩ := h1
      obtain ⟨rfl, rfl⟩ := h2
      rintro rfl
      rw [hh] at hh'
      simp at hh'
      exact he hh'.2

theorem xor_ff (n : Int) (h0 : 0 ≤ n) (h1 : n < 256) : ∃ b : UInt8, bits .xor .u8 n 255 = (b.toNat : Int) := by
  obtain ⟨m, rfl⟩ := Int.eq_ofNat_of_zero_le h0
  have hm : m < 256 := by omega
  have hall : ∀ m : Fin 256, ∃ b : UInt8, bits .xor .u8 ((m.val : Nat) : Int) 255 = (b.toNat : Int) := fun m => ⟨UInt8.ofNat (bits .xor .u8 ((m.val : Nat) : Int) 255).toNat, by revert m; decide +kernel⟩
  exact hall ⟨m, hm⟩

end Go.Proofs.Ytjhjicokbdloiab
