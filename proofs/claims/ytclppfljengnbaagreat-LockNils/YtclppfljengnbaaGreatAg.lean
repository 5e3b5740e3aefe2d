/-
  against (77): those who have a mode that another's doesn't go beside.
-/
import Derived.Test.YtclppfljengnbaaGreatWs
namespace Go.Proofs.YtclppfljengnbaaGreat
open Go.RowKit Go.Maps Go.Sort Go.Shelf

theorem info3 : (Tryz.prog.info? 3).map (fun i => (i.zero, i.size, i.bytes)) = some (some (.int .i64 0), 1, 8) := by kernel_rfl
theorem keyI_inv {key : Value} {t : Int} (h : keyOf Tryz.prog 3 key = some (.int .i64 t)) : key = .int .i64 t := by
  cases key <;> simp [keyOf, Tryz.underlying3, mapKey] at h
  obtain ⟨⟨rfl, _⟩, _, rfl⟩ := h
  rfl

/-- What the outer loop holds. -/
structure AgI (w : World) (lh : Nat → Int → Bool) (xt : Int) (J i : Nat) (va : Option Addr) (c : Nat) (L : List Int) (W : World) : Prop where
  row : W.ownsRow w.heap.size 3 1 (.slice va L.length c) L.length (L.map (Value.int .i64))
  bel : Below w.heap.size w W
  few : L.length ≤ i * 1000
  mem : ∀ t, t ∈ L ↔ t ≠ xt ∧ ∃ m, m < i ∧ lh m t = true ∧ besB m J = false

theorem AgI.below {w : World} {lh : Nat → Int → Bool} {xt : Int} {J i : Nat} {va : Option Addr} {c : Nat} {L : List Int} {W W' : World} (h : AgI w lh xt J i va c L W) (hb : Below W.heap.size W W') : AgI w lh xt J i va c L W' :=
  ⟨ownsRow_at h.row fun g hg => hb.block g (ownsRow_blk h.row hg).2, bnext h.bel hb, h.few, h.mem⟩

theorem AgI.more {w : World} {lh : Nat → Int → Bool} {xt : Int} {J i : Nat} {va va' : Option Addr} {c c' : Nat} {L ns : List Int} {W W' : World} (h : AgI w lh xt J i va c L W) (hb : Below w.heap.size w W') (hr : W'.ownsRow w.heap.size 3 1 (.slice va' (L ++ ns).length c') (L ++ ns).length ((L ++ ns).map (Value.int .i64))) (hn : ns.length ≤ 1000) (hm : ∀ t, t ∈ ns ↔ t ≠ xt ∧ lh i t = true ∧ besB i J = false) : AgI w lh xt J (i + 1) va' c' (L ++ ns) W' :=
  ⟨hr, hb, by have := h.few; rw [List.length_append]; omega, fun t => by
    rw [List.mem_append, h.mem, hm]
    constructor
    · rintro (⟨h1, m, h2, h3⟩ | ⟨h1, h2⟩)
      · exact ⟨h1, m, by omega, h3⟩
      · exact ⟨h1, i, by omega, h2⟩
    · rintro ⟨h1, m, h2, h3⟩
      by_cases e : m = i
      · subst e; exact .inr ⟨h1, h3⟩
      · exact .inl ⟨h1, m, by omega, h3⟩⟩

theorem AgI.skip {w : World} {lh : Nat → Int → Bool} {xt : Int} {J i : Nat} {va : Option Addr} {c : Nat} {L : List Int} {W W' : World} (h : AgI w lh xt J i va c L W) (hb : Below W.heap.size W W') (hm : ∀ t, ¬ (lh i t = true ∧ besB i J = false)) : AgI w lh xt J (i + 1) va c L W' := by
  have h' := h.below hb
  have := h'.more (ns := []) (va' := va) (c' := c) h'.bel (by rw [List.append_nil]; exact h'.row) (by simp) (fun t => by simp only [List.not_mem_nil, false_iff]; exact fun e => hm t e.2)
  rw [List.append_nil] at this
  exact this

/-- What the inner loop holds. -/
structure AgN (KT : List Lit) (w : World) (g : Int → Bool) (xt : Int) (L : List Int) (A r : Nat) (left : Lit → Bool) (cnt : Nat) (va : Option Addr) (c : Nat) (L' : List Int) (W : World) : Prop where
  rng : RngV Tryz.prog 3 W A r KT (lhF g) left cnt
  row : W.ownsRow w.heap.size 3 1 (.slice va L'.length c) L'.length (L'.map (Value.int .i64))
  bel : Below w.heap.size w W
  low : w.heap.size ≤ r
  add : ∃ ns, L' = L ++ ns ∧ ns.Nodup ∧ ∀ t, t ∈ ns ↔ t ≠ xt ∧ g t = true ∧ left (.int .i64 t) = false

section
variable {KT : List Lit} {w : World} {g : Int → Bool} {xt : Int} {L : List Int} {A r : Nat} {left : Lit → Bool} {cnt : Nat} {va : Option Addr} {c : Nat} {L' : List Int} {W : World}

theorem AgN.ns_few (h : AgN KT w g xt L A r left cnt va c L' W) : ∃ ns, L' = L ++ ns ∧ ns.length ≤ KT.length ∧ ∀ t, t ∈ ns ↔ t ≠ xt ∧ g t = true ∧ left (.int .i64 t) = false := by
  obtain ⟨ns, e, hnd, hm⟩ := h.add
  refine ⟨ns, e, ?_, hm⟩
  have := nodup_le' (l := ns.map fun k => Lit.int .i64 k) (T := KT) (by
    rw [List.Nodup, List.pairwise_map]
    exact hnd.imp fun hab e1 => hab (by injection e1)) (fun x hx => by
    obtain ⟨k, hk, rfl⟩ := List.mem_map.1 hx
    obtain ⟨D, _, hD⟩ := h.rng.map
    exact hD.keys _ (lhF_ne ((hm k).1 hk).2.1))
  simpa using this

theorem AgN.next4 (h : AgN KT w g xt L A r left cnt va c L' W) {w4 : World} (hg : W.grownBy w4 (some r)) : w4.ownsRow w.heap.size 3 1 (.slice va L'.length c) L'.length (L'.map (Value.int .i64)) ∧ Below w.heap.size w w4 := by
  refine ⟨ownsRow_at h.row fun g hg' => hg.block g (ownsRow_blk h.row hg').2 (fun e => ?_), h.bel.trans ⟨hg.os, hg.tape, hg.output, hg.size, fun i hi => hg.block i (by have := h.bel.size; omega) (fun e => ?_)⟩⟩
  · have e := Option.some.inj e
    obtain ⟨b', c', d', e', h3⟩ := h.rng.iter
    rcases h.row.2 with ⟨h4, _⟩ | ⟨g', cap, cur, h4, _, h5, _⟩
    · rw [h4] at hg'; cases hg'
    · rw [h4] at hg'
      have hg' : g' = g := by simpa [Value.ownBlock] using hg'
      rw [hg', e, h3] at h5
      cases h5
  · have e := Option.some.inj e
    have := h.low
    omega

theorem AgN.skip (h : AgN KT w g xt L A r left cnt va c L' W) {w4 : World} {cnt4 : Nat} (hg : W.grownBy w4 (some r)) (hr : RngV Tryz.prog 3 w4 A r KT (lhF g) (upd left (.int .i64 xt) false) cnt4) : AgN KT w g xt L A r (upd left (.int .i64 xt) false) cnt4 va c L' w4 := by
  obtain ⟨h1, h2⟩ := h.next4 hg
  obtain ⟨ns, e, hnd, hm⟩ := h.add
  refine ⟨hr, h1, h2, h.low, ns, e, hnd, fun t => ?_⟩
  rw [hm]
  by_cases et : t = xt
  · simp [et]
  · rw [upd_other _ _ (fun e2 => et (by injection e2))]

theorem AgN.app (h : AgN KT w g xt L A r left cnt va c L' W) {w4 w7 : World} {cnt4 : Nat} {t : Int} {va7 : Option Addr} {c7 : Nat} (hg : W.grownBy w4 (some r)) (hr : RngV Tryz.prog 3 w4 A r KT (lhF g) (upd left (.int .i64 t) false) cnt4) (hlk : left (.int .i64 t) = true) (hgt : g t = true) (hne : t ≠ xt)
    (ho : w7.ownsRow w.heap.size 3 1 (.slice va7 (L'.length + 1) c7) (L'.length + 1) (L'.map (Value.int .i64) ++ [.int .i64 t])) (hg7 : (w4.alloc (.cells #[.int .i64 t] 3)).grownBy w7 (Value.slice va L'.length c).ownBlock) : AgN KT w g xt L A r (upd left (.int .i64 t) false) cnt4 va7 c7 (L' ++ [t]) w7 := by
  obtain ⟨h1, h2⟩ := h.next4 hg
  have hb6 : Below w4.heap.size w4 (w4.alloc (.cells #[.int .i64 t] 3)) := (Below.refl _ _).alloc (Nat.le_refl _) _
  have h1a := h1.alloc (.cells #[.int .i64 t] 3)
  have hnb : ∀ g, (Value.slice va L'.length c).ownBlock = some g → ∃ cur, (w4.alloc (.cells #[.int .i64 t] 3)).heap[g]? = some (.cells cur 3 (0, 0)) := fun g hg => by
    rcases h1a.2 with ⟨h4, _⟩ | ⟨g', cap, cur, h4, _, h5, _⟩
    · rw [h4] at hg; cases hg
    · rw [h4] at hg
      have hg : g' = g := by simpa [Value.ownBlock] using hg
      rw [← hg]
      exact ⟨cur, h5⟩
  have R6 := hr.at (w' := w4.alloc (.cells #[.int .i64 t] 3)) (hb6.block _ hr.map.lt) (hb6.block _ hr.lt)
  have R7 := R6.at (w' := w7) (hg7.block _ R6.map.lt (fun e => by
      obtain ⟨cur, h5⟩ := hnb _ e.symm
      obtain ⟨es, cl, h6⟩ := R6.map.blk
      rw [h6] at h5
      cases h5)) (hg7.block _ R6.lt (fun e => by
      obtain ⟨cur, h5⟩ := hnb _ e.symm
      obtain ⟨_, _, _, _, h6⟩ := R6.iter
      rw [h6] at h5
      cases h5))
  obtain ⟨ns, e, hnd, hm⟩ := h.add
  refine ⟨R7, by simpa using ho, ?_, h.low, ns ++ [t], by rw [e]; simp, ?_, fun k' => ?_⟩
  · refine h2.trans ((hb6.mono h2.size).trans ⟨hg7.os, hg7.tape, hg7.output, hg7.size, fun i hi => hg7.block i (by have := h2.size; have := hb6.size; omega) (fun e => ?_)⟩)
    have := (ownsRow_blk h1a e.symm).1
    omega
  · refine List.nodup_append.2 ⟨hnd, by simp, fun a ha b' hb' e1 => ?_⟩
    obtain rfl : b' = t := by simpa using hb'
    have := ((hm a).1 ha).2.2
    rw [e1, hlk] at this
    cases this
  · rw [List.mem_append, hm]
    by_cases e1 : k' = t
    · subst e1
      rw [upd_same]
      simp [hne, hgt]
    · rw [upd_other _ _ (fun e2 => e1 (by injection e2))]
      simp [e1]
end

end Go.Proofs.YtclppfljengnbaaGreat
