/-
  Changes and numbers that came in, opened.
-/
import Derived.Test.YticadfaclnimgaaAg
import Derived.Test.YticadfaclnimgaaAAa
import Derived.ProofKit
import Derived.OpenShut
import Derived.ShutString
import Derived.SizedLaws
import Derived.Deep.Strs
import Derived.Lib.SmallJoins
import Derived.ChangeMaps5
namespace Go.Proofs.Yticadfaclnimgaa
open Go.ChangeShapes Go.WideShapes Go.ChangeAt Go.RowKit Go.Deep Ak
instance : Inhabited Ac := ⟨⟨0, [], [], []⟩⟩

/-- A slice of changes. -/
structure SlA (w : World) (a : Option Addr) (l : List Ac) : Prop where
  nonil : a = none → l = []
  cells : ∀ x, a = some x → ∀ i t, l[i]? = some t → x.spot = none ∧ w.cell? ⟨x.block, x.off + i * 4, none⟩ = some (.int .i64 t.kind) ∧ w.cell? ⟨x.block, x.off + i * 4 + 1, none⟩ = some (.string (txt t.key)) ∧ w.cell? ⟨x.block, x.off + i * 4 + 2, none⟩ = some (.string (txt t.old)) ∧ w.cell? ⟨x.block, x.off + i * 4 + 3, none⟩ = some (.string (txt t.new))
  small : ∀ t ∈ l, t.key.length ≤ maxLen ∧ t.old.length ≤ maxLen ∧ t.new.length ≤ maxLen

theorem SlA.below {w w' : World} {a : Option Addr} {l : List Ac} {D : Nat} (h : SlA w a l) (hb : Below D w w') (hD : ∀ x, a = some x → x.block < D) : SlA w' a l :=
  ⟨h.nonil, fun x hx i t ht => by
    obtain ⟨h0, h1, h2, h3, h4⟩ := h.cells x hx i t ht
    have hlt := hD x hx
    exact ⟨h0, by rw [hb.cell (by exact hlt)]; exact h1, by rw [hb.cell (by exact hlt)]; exact h2, by rw [hb.cell (by exact hlt)]; exact h3, by rw [hb.cell (by exact hlt)]; exact h4⟩, h.small⟩

theorem SlA.on {w w' : World} {a : Option Addr} {l : List Ac} (h : SlA w a l) (hb : Below w.heap.size w w') : SlA w' a l :=
  ⟨h.nonil, fun x hx i t ht => by
    obtain ⟨h0, h1, h2, h3, h4⟩ := h.cells x hx i t ht
    have hlt := World.block_lt_of_cell? _ _ h1
    exact ⟨h0, by rw [hb.cell (by exact hlt)]; exact h1, by rw [hb.cell (by exact hlt)]; exact h2, by rw [hb.cell (by exact hlt)]; exact h3, by rw [hb.cell (by exact hlt)]; exact h4⟩, h.small⟩

theorem SlA.at {w : World} {a : Option Addr} {l : List Ac} (h : SlA w a l) (i : Nat) (hi : i < l.length) : ∃ b o, a = some ⟨b, o, none⟩ ∧ b < w.heap.size ∧
    w.cell? ⟨b, o + i * 4, none⟩ = some (.int .i64 l[i].kind) ∧ w.cell? ⟨b, o + i * 4 + 1, none⟩ = some (.string (txt l[i].key)) ∧ w.cell? ⟨b, o + i * 4 + 2, none⟩ = some (.string (txt l[i].old)) ∧ w.cell? ⟨b, o + i * 4 + 3, none⟩ = some (.string (txt l[i].new)) := by
  cases a with
  | none => have := h.nonil rfl; subst this; simp at hi
  | some x =>
    obtain ⟨b, o, sp⟩ := x
    obtain ⟨h0, h1, h2, h3, h4⟩ := h.cells _ rfl i _ (List.getElem?_eq_getElem hi)
    simp only at h0 h1 h2 h3 h4
    subst h0
    exact ⟨b, o, rfl, World.block_lt_of_cell? _ _ h1, h1, h2, h3, h4⟩

theorem cells_q4 {w : World} {base : Nat} {a : Addr} {cs : List Value} (h : w.cells? base a 4 = some cs) : ∃ v0 v1 v2 v3, cs = [v0, v1, v2, v3] ∧ w.cell? a = some v0 ∧ w.cell? (a.add 1) = some v1 ∧ w.cell? (a.add 2) = some v2 ∧ w.cell? (a.add 3) = some v3 := by
  obtain ⟨hb, hl, hc⟩ := World.cells?_some h
  match cs, hl with
  | [v0, v1, v2, v3], _ =>
    have h0 := hc 0 (by simp)
    have h1 := hc 1 (by simp)
    have h2 := hc 2 (by simp)
    have h3 := hc 3 (by simp)
    exact ⟨v0, v1, v2, v3, rfl, by simpa [Addr.add] using h0, by simpa using h1, by simpa using h2, by simpa using h3⟩

theorem len_of (s : ByteArray) : s.data.toList.length = s.size := Array.length_toList

set_option maxRecDepth 20000 in
theorem open_acts {H : Type} {enc : TypeId × Value → H} {W : World} {base : Nat} {spare : Nat → Bool} {held : Bool} {fuel : Nat} {v : Value} {x : DataW H × List MemPlace}
    (hf : DataW.trod enc Try.prog W base spare held fuel 51 [v] = some x) : ∃ a c, ∃ l : List Ac, v = .slice a l.length c ∧ SlA W a l ∧ l.length ≤ maxLen := by
  rcases open_slice Try.underlying51 hf with ⟨hcs, _⟩ | ⟨ad, n, cap, m, nf, D, Pl, hcs, _, hl, hm, hmm, _, hx⟩
  · simp at hcs
    subst hcs
    exact ⟨none, 0, [], rfl, ⟨fun _ => rfl, fun y hy => by simp at hy, by simp⟩, by simp⟩
  · simp at hcs
    subst hcs
    have hlm : n ≤ m := by rw [hmm]; split <;> omega
    have hsp : 0 < n → ad.spot = none := by
      intro h0
      obtain ⟨cs', hc, _⟩ := hx 0 (by omega)
      rw [Try.cells30] at hc
      obtain ⟨v0, v1, v2, v3, rfl, e0, _⟩ := cells_q4 hc
      have := World.cell?_spot e0
      simpa [Addr.add] using this
    have each : ∀ i, i < n → ∃ q : Ac, ad.spot = none ∧ W.cell? ⟨ad.block, ad.off + i * 4, none⟩ = some (.int .i64 q.kind) ∧ W.cell? ⟨ad.block, ad.off + i * 4 + 1, none⟩ = some (.string (txt q.key)) ∧ W.cell? ⟨ad.block, ad.off + i * 4 + 2, none⟩ = some (.string (txt q.old)) ∧ W.cell? ⟨ad.block, ad.off + i * 4 + 3, none⟩ = some (.string (txt q.new)) ∧ q.key.length ≤ maxLen ∧ q.old.length ≤ maxLen ∧ q.new.length ≤ maxLen := by
      intro i hi
      obtain ⟨cs', hc, ht⟩ := hx i (by omega)
      rw [Try.cells30] at hc
      obtain ⟨v0, v1, v2, v3, rfl, e0, e1, e2, e3⟩ := cells_q4 hc
      obtain ⟨y0, y1, y2, y3, nn, _, _, t0, t1, t2, t3⟩ := Go.Joins.trod_struct4 Try.underlying30 ht
      obtain ⟨n0, q0, _, _⟩ := DataW.trod_int Try.underlying28 t0
      obtain ⟨s1, q1, _, w1⟩ := DataW.trod_string Try.underlying9 t1
      obtain ⟨s2, q2, _, w2⟩ := DataW.trod_string Try.underlying9 t2
      obtain ⟨s3, q3, _, w3⟩ := DataW.trod_string Try.underlying9 t3
      simp [Try.cells28, Try.cells9] at q0 q1 q2 q3
      subst q0 q1 q2 q3
      obtain ⟨ab, ao, asp⟩ := ad
      obtain rfl : asp = none := hsp (by omega)
      have eb : ∀ q j, (⟨ab, q, none⟩ : Addr).add j = ⟨ab, q + j, none⟩ := fun q j => by unfold Addr.add; split <;> simp_all
      rw [eb] at e0 e1 e2 e3
      rw [eb] at e1 e2 e3
      refine ⟨⟨n0, s1.data.toList, s2.data.toList, s3.data.toList⟩, rfl, e0, ?_, ?_, ?_, ?_, ?_, ?_⟩
      · show _ = some (Value.string (txt s1.data.toList))
        rw [txt_of]; exact e1
      · show _ = some (Value.string (txt s2.data.toList))
        rw [txt_of]; exact e2
      · show _ = some (Value.string (txt s3.data.toList))
        rw [txt_of]; exact e3
      · show s1.data.toList.length ≤ _
        rw [len_of]; exact w1
      · show s2.data.toList.length ≤ _
        rw [len_of]; exact w2
      · show s3.data.toList.length ≤ _
        rw [len_of]; exact w3
    obtain ⟨q, hq⟩ := choose_lt each
    have hln : ((List.range n).map fun i => q i).length = n := by simp
    refine ⟨some ad, cap, (List.range n).map fun i => q i, by rw [hln], ⟨fun h => by simp at h, fun y hy i t ht => ?_, fun t ht => ?_⟩, by omega⟩
    · simp at hy
      subst hy
      have hi : i < n := by have := (List.getElem?_eq_some_iff.1 ht).1; omega
      simp [hi] at ht
      subst ht
      obtain ⟨h0, h1, h2, h3, h4, _⟩ := hq i hi
      exact ⟨h0, h1, h2, h3, h4⟩
    · simp at ht
      obtain ⟨i, hi, rfl⟩ := ht
      obtain ⟨_, _, _, _, _, h5, h6, h7⟩ := hq i hi
      exact ⟨h5, h6, h7⟩

/-- The slice a holds the values xs, a cell each. -/
structure SlV (w : World) (a : Option Addr) (xs : List Value) : Prop where
  nonil : a = none → xs = []
  cells : ∀ x, a = some x → ∀ j u, xs[j]? = some u → w.cell? (x.add j) = some u

theorem SlV.empty {w : World} {a : Option Addr} : SlV w a [] := ⟨fun _ => rfl, fun x _ j u hu => by simp at hu⟩

theorem SlV.below {w w' : World} {a : Option Addr} {xs : List Value} (h : SlV w a xs) (hb : Below w.heap.size w w') : SlV w' a xs :=
  ⟨h.nonil, fun x hx j u hu => by have := h.cells x hx j u hu; rw [hb.cell (World.block_lt_of_cell? _ _ this)]; exact this⟩

theorem SlV.at {w : World} {a : Option Addr} {xs : List Value} (h : SlV w a xs) (j : Nat) (u : Value) (hu : xs[j]? = some u) : ∃ g o, a = some ⟨g, o, none⟩ ∧ w.cell? ⟨g, o + j, none⟩ = some u ∧ g < w.heap.size := by
  cases a with
  | none => have := h.nonil rfl; subst this; simp at hu
  | some x =>
    obtain ⟨g, o, sp⟩ := x
    have hj := (List.getElem?_eq_some_iff.1 hu).1
    have h0 := h.cells _ rfl 0 (xs[0]'(by omega)) (List.getElem?_eq_getElem (by omega))
    have hs := World.cell?_spot h0
    obtain rfl : sp = none := by simpa [Addr.add] using hs
    have hc := h.cells _ rfl j u hu
    have e : (⟨g, o, none⟩ : Addr).add j = ⟨g, o + j, none⟩ := by unfold Addr.add; split <;> simp_all
    rw [e] at hc
    exact ⟨g, o, rfl, hc, World.block_lt_of_cell? _ _ hc⟩

/-- Numbers as cells. -/
def i64s (l : List Int) : List Value := l.map fun n => Value.int .i64 n

theorem i64s_length (l : List Int) : (i64s l).length = l.length := by simp [i64s]
theorem i64s_append (l m : List Int) : i64s (l ++ m) = i64s l ++ i64s m := by simp [i64s]
theorem i64s_at (l : List Int) (j : Nat) (hj : j < l.length) : (i64s l)[j]? = some (.int .i64 (l[j]'hj)) := by simp [i64s, List.getElem?_eq_getElem hj]

theorem open_i64s {H : Type} {enc : TypeId × Value → H} {P : Program} {W : World} {base : Nat} {spare : Nat → Bool} {held : Bool} {fuel : Nat} {t e : TypeId} {a : Option Addr} {n c : Nat} {x : DataW H × List MemPlace}
    (ht : P.underlying t = some (.slice e)) (he : P.underlying e = some (.int .i64)) (hc : P.cellsOf e = 1)
    (hf : DataW.trod enc P W base spare held fuel t [.slice a n c] = some x) :
    ∃ l : List Int, n = l.length ∧ SlV W a (i64s l) ∧ l.length ≤ c ∧ c ≤ maxLen ∧ (a = none → c = 0) := by
  rcases open_ints ht he hc hf with ⟨hcs, _⟩ | ⟨y, ln, cp, zs, hcs, _, hl, hm, hz, hx, hcell, hwz⟩
  · simp at hcs
    obtain ⟨rfl, rfl, rfl⟩ := hcs
    exact ⟨[], rfl, SlV.empty, by simp, by simp, fun _ => rfl⟩
  · simp at hcs
    obtain ⟨rfl, rfl, rfl⟩ := hcs
    have hlz : n ≤ zs.length := by rw [hz]; split <;> omega
    refine ⟨zs.take n, by simp; omega, ⟨fun h => by simp at h, fun y hy j u hu => ?_⟩, by simp; omega, hm, fun h => by simp at h⟩
    simp at hy
    subst hy
    have hj : j < n := by have := (List.getElem?_eq_some_iff.1 hu).1; simp [i64s] at this; omega
    have hj2 : j < zs.length := by omega
    rw [hcell j hj2]
    simp [i64s, hj2, hj] at hu
    subst hu
    simp [List.getD, List.getElem?_eq_getElem hj2]

abbrev SlI (w : World) (a : Option Addr) (l : List Int) : Prop := SlV w a (i64s l)
theorem open_ints' {H : Type} {enc : TypeId × Value → H} {W : World} {base : Nat} {spare : Nat → Bool} {held : Bool} {fuel : Nat} {a : Option Addr} {n c : Nat} {x : DataW H × List MemPlace}
    (hf : DataW.trod enc Try.prog W base spare held fuel 52 [.slice a n c] = some x) : ∃ a' c', ∃ l : List Int, Value.slice a n c = .slice a' l.length c' ∧ SlI W a' l ∧ l.length ≤ maxLen := by
  obtain ⟨l, rfl, h1, h2, h3, _⟩ := open_i64s Try.underlying52 Try.underlying3 Try.cells3 hf
  exact ⟨a, c, l, rfl, h1, by omega⟩
end Go.Proofs.Yticadfaclnimgaa
