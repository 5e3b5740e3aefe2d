/-
  GraphTexts: both graphs, and rows of texts.
-/
import Derived.Test.YtoihjkpjijncdaaTm
import Derived.Test.YtoihjkpjijncdaaOb
namespace Go.Proofs.Ytoihjkpjijncdaa
open Go.RowKit Go.Maps

/-- A graph of numbers and one of texts. -/
structure TwT (w0 : World) (p q N M : Nat) (E F : List (Lit × Lit)) (S T : Nat → Prop) (W : World) : Prop where
  low : Below w0.heap.size w0 W
  g1 : Gr 3 61 W p N E S
  g2 : Gr 9 72 W q M F T
  apart : ∀ i, S i → ¬ T i
  new : ∀ i, S i ∨ T i → w0.heap.size ≤ i

theorem TwT.below {w0 : World} {p q N M : Nat} {E F : List (Lit × Lit)} {S T : Nat → Prop} {W W' : World} (h : TwT w0 p q N M E F S T W) (hb : Below W.heap.size W W') : TwT w0 p q N M E F S T W' :=
  ⟨below_next h.low h.low.size hb, h.g1.below hb, h.g2.below hb, h.apart, h.new⟩
theorem TwT.second {w0 : World} {p q N M M' : Nat} {E F F' : List (Lit × Lit)} {S T T' : Nat → Prop} {W W' : World} (h : TwT w0 p q N M E F S T W) (g : Gr 9 72 W' q M' F' T') (t : Turn T W W') (hs : ∀ i, T' i → T i ∨ W.heap.size ≤ i) : TwT w0 p q N M' E F' S T' W' :=
  ⟨below_trans h.low (t.below h.low.size fun i hi hS => by have := h.new i (.inr hS); omega), h.g1.turn t fun i hS hT => h.apart i hS hT, g, fun i hi hT => by
    rcases hs i hT with h1 | h1
    · exact h.apart i hi h1
    · have := h.g1.lt hi; omega, fun i hi => by
    rcases hi with h1 | h1
    · exact h.new i (.inl h1)
    · rcases hs i h1 with h2 | h2
      · exact h.new i (.inr h2)
      · exact Nat.le_trans h.low.size h2⟩
theorem TwT.drew {w0 : World} {p q N M : Nat} {E F : List (Lit × Lit)} {S T : Nat → Prop} {W : World} (h : TwT w0 p q N M E F S T W) : TwT w0 p q N M E F S T W.drew :=
  ⟨h.low.drew, h.g1.at fun _ _ => rfl, h.g2.at fun _ _ => rfl, h.apart, h.new⟩

theorem keyN {n : Nat} : keyOf Try.prog 9 (.string (nmB n)) = some (.string (nmL n)) := keyT (s := nmB n) (by simp [nmB, nmL, ByteArray.size, maxLen])

/-- A slice of texts, where it lies. -/
def RowT (w : World) (va : Option Addr) (l : List (List UInt8)) : Prop := l = [] ∨ ∃ g, va = some ⟨g, 0, none⟩ ∧ ∀ j (hj : j < l.length), w.cell? ⟨g, j, none⟩ = some (enT l[j])
theorem RowT.of {w : World} {B c : Nat} {va : Option Addr} {l : List (List UInt8)} (h : w.ownsRow B 9 1 (.slice va l.length c) l.length (l.map enT)) : RowT w va l := by
  rcases h.2 with ⟨_, h2⟩ | ⟨g, cap, cur, hv, h2, h3, h4, h5, h6, h7⟩
  · exact .inl (List.eq_nil_of_length_eq_zero h2)
  · cases hv
    refine .inr ⟨g, rfl, fun j hj => ?_⟩
    have : w.cell? ((⟨g, 0, none⟩ : Addr).add j) = some (enT l[j]) := h.cells (g := g) rfl j (enT l[j]) (by simp [List.getElem?_eq_getElem hj])
    by_cases hn : j = 0
    · subst hn; simpa [Addr.add] using this
    · simpa [Addr.add, hn] using this

theorem madeGood {l : List (Int × Int)} : ∀ i, i ≤ l.length → (∀ j, (hj : j < l.length) → j < i → 0 ≤ l[j].1 ∧ l[j].1 ≤ 99 ∧ 0 ≤ l[j].2 ∧ l[j].2 ≤ 99) → GoodE (madeE l i)
  | 0, _, _ => fun e he => by simp [madeE] at he
  | i + 1, hi, h => by
    rw [madeE_succ (by omega)]
    obtain ⟨h1, h2, h3, h4⟩ := h i (by omega) (by omega)
    exact (madeGood i (by omega) fun j hj hji => h j hj (by omega)).add ⟨l[i].1.toNat, by omega, by simp; omega⟩ ⟨l[i].2.toNat, by omega, by simp; omega⟩

end Go.Proofs.Ytoihjkpjijncdaa
