/-
  Rows told by the document; where a key stands; the walk of at.
-/
import Derived.Test.YticnkppnpfgceaaFCj
import Derived.Test.YticnkppnpfgceaaWNx
namespace Go.Proofs.Yticnkppnpfgceaa.Mg
open Go.RowKit

/-- How many keys are below one. -/
def posL {β : Type} : List (Int × β) → Int → Nat
  | [], _ => 0
  | (k, _) :: r, x => if k < x then posL r x + 1 else 0
section
variable {β : Type} {l : List (Int × β)} {x : Int}
theorem posL_le : posL l x ≤ l.length := by
  induction l with
  | nil => simp [posL]
  | cons p r ih => obtain ⟨k, u⟩ := p; rw [posL]; split <;> simp; omega
theorem posL_low : ∀ j, (hj : j < l.length) → j < posL l x → l[j].1 < x := by
  induction l with
  | nil => intro j hj; simp at hj
  | cons p r ih =>
    obtain ⟨k, u⟩ := p
    intro j hj h
    rw [posL] at h
    split at h
    · rename_i hk
      cases j with
      | zero => exact hk
      | succ j => exact ih j (by simpa using hj) (by omega)
    · omega
theorem posL_at (hp : posL l x < l.length) : x ≤ l[posL l x].1 := by
  induction l with
  | nil => simp at hp
  | cons p r ih =>
    obtain ⟨k, u⟩ := p
    by_cases hk : k < x
    · have e : posL ((k, u) :: r) x = posL r x + 1 := by rw [posL, if_pos hk]
      have hp' : posL r x < r.length := by rw [e] at hp; simpa using hp
      have := ih hp'
      simp only [e, List.getElem_cons_succ]
      exact this
    · have e : posL ((k, u) :: r) x = 0 := by rw [posL, if_neg hk]
      simp only [e, List.getElem_cons_zero]
      omega
theorem posL_of {k : Nat} (hk : k ≤ l.length) (hlow : ∀ j, (hj : j < l.length) → j < k → l[j].1 < x) (hat : ∀ hk : k < l.length, x ≤ l[k].1) : posL l x = k := by
  have h1 := posL_le (l := l) (x := x)
  by_cases e : posL l x < k
  · have h2 := posL_at (l := l) (x := x) (by omega)
    have h3 := hlow (posL l x) (by omega) e
    omega
  · by_cases e2 : k < posL l x
    · have h2 := posL_low (l := l) (x := x) k (by omega) e2
      have h3 := hat (by omega)
      omega
    · omega
theorem look_posL (h : Ris l) : look l x = if h : posL l x < l.length then (if l[posL l x].1 = x then some l[posL l x].2 else none) else none := by
  split
  · rename_i hp
    split
    · rename_i e
      obtain ⟨q, hq⟩ : ∃ q, l[posL l x] = q := ⟨_, rfl⟩
      have hm : q ∈ l := by rw [← hq]; exact List.getElem_mem hp
      rw [hq] at e ⊢
      obtain ⟨q1, q2⟩ := q
      simp only at e
      subst e
      exact look_mem h hm
    · rename_i e
      refine look_none fun p hm => ?_
      obtain ⟨j, hj, rfl⟩ := List.getElem_of_mem hm
      by_cases hlt : j < posL l x
      · have := posL_low (l := l) (x := x) j hj hlt; omega
      · by_cases he : j = posL l x
        · subst he; exact e
        · have h1 := List.pairwise_iff_getElem.1 h (posL l x) j (by simpa using hp) (by simpa using hj) (by omega)
          have h2 := posL_at (l := l) (x := x) hp
          simp at h1
          omega
  · rename_i hp
    refine look_none fun p hm => ?_
    obtain ⟨j, hj, rfl⟩ := List.getElem_of_mem hm
    have := posL_low (l := l) (x := x) j hj (by omega)
    omega
theorem look_gt {k : Int} {u : β} {r : List (Int × β)} (h : Ris ((k, u) :: r)) (hk : x < k) : look ((k, u) :: r) x = none := look_none fun p hp => by
  rcases List.mem_cons.1 hp with e | e
  · rw [e]; simp; omega
  · have := h.low p e; omega
theorem putL_new (h : Ris l) (hn : look l x = none) (v : β) : putL l x v = l.take (posL l x) ++ (x, v) :: l.drop (posL l x) := by
  induction l with
  | nil => rfl
  | cons p r ih =>
    obtain ⟨k, u⟩ := p
    rw [putL, posL]
    by_cases hk : k < x
    · rw [if_pos hk, if_pos hk]
      rw [look, if_neg (by omega)] at hn
      rw [ih h.tail hn]
      simp
    · rw [if_neg hk, if_neg hk]
      by_cases e : k = x
      · rw [look, if_pos e] at hn; cases hn
      · rw [if_neg e]; simp
theorem putL_old (h : Ris l) {w : β} (hn : look l x = some w) (v : β) : putL l x v = l.take (posL l x) ++ (x, v) :: l.drop (posL l x + 1) := by
  induction l with
  | nil => simp [look] at hn
  | cons p r ih =>
    obtain ⟨k, u⟩ := p
    rw [putL, posL]
    by_cases hk : k < x
    · rw [if_pos hk, if_pos hk]
      rw [look, if_neg (by omega)] at hn
      rw [ih h.tail hn]
      simp
    · rw [if_neg hk, if_neg hk]
      by_cases e : k = x
      · rw [if_pos e]; simp
      · rw [look_gt h (by omega)] at hn; cases hn
theorem goneL_old (h : Ris l) {w : β} (hn : look l x = some w) : goneL l x = l.take (posL l x) ++ l.drop (posL l x + 1) := by
  induction l with
  | nil => simp [look] at hn
  | cons p r ih =>
    obtain ⟨k, u⟩ := p
    rw [goneL, posL]
    by_cases hk : k < x
    · rw [if_pos hk, if_neg (by omega)]
      rw [look, if_neg (by omega)] at hn
      rw [ih h.tail hn]
      simp
    · rw [if_neg hk]
      by_cases e : k = x
      · rw [if_pos e]; simp
      · rw [look_gt h (by omega)] at hn; cases hn
theorem posL_lt (h : Ris l) {w : β} (hn : look l x = some w) : posL l x < l.length := by
  rw [look_posL h] at hn
  split at hn
  · assumption
  · cases hn
theorem posL_get (h : Ris l) {w : β} (hn : look l x = some w) : l[posL l x]'(posL_lt h hn) = (x, w) := by
  have hp := posL_lt h hn
  rw [look_posL h, dif_pos hp] at hn
  split at hn
  · rename_i e
    injection hn with hn
    exact Prod.ext e hn
  · cases hn
end

abbrev rfC (vt vn vd : Value) : Array Value := #[vt, vn, vd]
theorem tcell0 {W : World} {B c : Nat} {va : Option Addr} {d : List (Int × Gt)} (h : W.ownsRow B 57 3 (.slice va d.length c) d.length (tCells d)) {k : Nat} (hk : k < d.length) : ∃ g, va = some ⟨g, 0, none⟩ ∧ g < W.heap.size ∧ W.cell? ⟨g, k * 3, none⟩ = some (.int .i64 d[k].1) ∧ W.cell? ⟨g, k * 3 + 1, none⟩ = some (.int .i64 d[k].2.st) ∧ W.cell? ⟨g, k * 3 + 2, none⟩ = some (.int .u64 (d[k].2.last : Int)) := by
  have hf : ∀ j, j < 3 → (tCells d)[k * 3 + j]? = [Value.int .i64 d[k].1, .int .i64 d[k].2.st, .int .u64 (d[k].2.last : Int)][j]? := fun j hj => by
    unfold tCells
    rw [flat_get (fun p : Int × Gt => [Value.int .i64 p.1, .int .i64 p.2.st, .int .u64 (p.2.last : Int)]) 3 (fun _ => rfl) d k j hj, List.getElem?_eq_getElem hk]
    rfl
  rcases h.2 with ⟨h0, h1⟩ | ⟨g, cap, cur, e, _⟩
  · omega
  · injection e with e1
    subst e1
    have c0 := h.cells (g := g) rfl (k * 3) _ (hf 0 (by omega))
    have c1 := h.cells (g := g) rfl (k * 3 + 1) _ (hf 1 (by omega))
    have c2 := h.cells (g := g) rfl (k * 3 + 2) _ (hf 2 (by omega))
    rw [addr_add] at c0 c1 c2
    exact ⟨g, rfl, World.block_lt_of_cell? _ _ c0, c0, c1, c2⟩

set_option maxRecDepth 100000 in
set_option maxHeartbeats 4000000 in
theorem at42 {w : World} {vt vn vd : Value} {x : Lf} (h : LfR w 0 vt vn vd x) (hx : Ris x.t) (hl : x.t.length ≤ 1000) (id : Int) :
    Calls Try.prog 42 #[.agg (rfC vt vn vd), .int .i64 id] w fun e w' => e = .returned (.tuple #[.int .i64 (posL x.t id : Int), .bool (look x.t id).isSome]) ∧ Below w.heap.size w w' := by
  obtain ⟨T, Dd⟩ := x
  obtain ⟨h1, h2, h3⟩ := h
  dsimp only at h1 h2 h3 hx hl ⊢
  obtain ⟨ta, tc, rfl⟩ := ownsRow_shape2 h1
  obtain ⟨na, nc, rfl⟩ := ownsRow_shape2 h2
  obtain ⟨da, dc, rfl⟩ := ownsRow_shape2 h3
  clear h2 h3
  generalize Dd.length = dl at *
  have hB : Below w.heap.size w (w.alloc (.cells (rfC (.slice ta T.length tc) (.slice na T.length nc) (.slice da dl dc)) 37)) := (Below.refl _ _).alloc (Nat.le_refl _) _
  have HB := toHid hB
  have HK := toHid (heap_alloc_new w (.cells (rfC (.slice ta T.length tc) (.slice na T.length nc) (.slice da dl dc)) 37))
  have HR := toHid h1
  clear h1 hB
  go_enter Try.func42, Try.ntmps42
  go_wp2_with fail
  go_loopw [6] (fun i W => ∃ k : Nat, k ≤ T.length ∧ i = .int .i64 k ∧ (∀ j, (hj : j < T.length) → j < k → T[j].1 < id) ∧ Below w.heap.size w W ∧ W.heap[w.heap.size]? = some (.cells (rfC (.slice ta T.length tc) (.slice na T.length nc) (.slice da dl dc)) 37)) (fun i _ => T.length - (intOf i).toNat)
  case atStart => exact ⟨0, Nat.zero_le _, rfl, fun j _ h => by omega, HB.out, HK.out⟩
  case round =>
    obtain ⟨k, hk, rfl, hlow, hbw, hbx⟩ := hrel
    have HLo := toHid hlow
    have HBw := toHid hbw
    have HBx := toHid hbx
    obtain ⟨x0, x1, x2, _, _, _⟩ := cellsT hbx
    clear hlow hbw hbx HB HK
    by_cases hkl : k < T.length
    · obtain ⟨g, rfl, hgl, y0, y1, y2⟩ := tcell0 (own_below HR.out HBw.out) hkl
      have hk1 : (k : Int) < (T.length : Int) := by omega
      have hk2 : 0 ≤ (k : Int) := by omega
      by_cases hge : id ≤ T[k].1
      · have HP := toHid (posL_of (x := id) (Nat.le_of_lt hkl) HLo.out (fun _ => hge))
        have hLk := look_posL (l := T) (x := id) hx
        rw [dif_pos (by rw [HP.out]; exact hkl)] at hLk
        have e1 : T[posL T id]'(by rw [HP.out]; exact hkl) = T[k] := by simp only [HP.out]
        rw [e1] at hLk
        by_cases he : T[k].1 = id
        · rw [if_pos he] at hLk
          have q1 : (T[k].1 == id) = true := by simp [he]
          have HLk := toHid hLk
          clear he hLk e1
          go_wp2_with fail
          go_quiet (fail)
          go_wp2
          go_ret2
          exact ⟨by rw [HP.out, HLk.out]; rfl, HBw.out.trans (below_drewN1 wr _ |>.mono HBw.out.size)⟩
        · rw [if_neg he] at hLk
          have q1 : (T[k].1 == id) = false := by simp [he]
          have HLk := toHid hLk
          clear he hLk e1
          go_wp2_with fail
          go_quiet (fail)
          go_wp2
          go_ret2
          exact ⟨by rw [HP.out, HLk.out]; rfl, HBw.out.trans (below_drewN1 wr _ |>.mono HBw.out.size)⟩
      · go_wp2_with fail
        go_roundw
        case rel => exact ⟨k + 1, by omega, by go_num, fun j hj h => by
          by_cases e : j = k
          · subst e; omega
          · exact HLo.out j hj (by omega), HBw.out, HBx.out⟩
        case measure => simp [intOf]; omega
    · obtain rfl : k = T.length := by omega
      have HP := toHid (posL_of (x := id) (Nat.le_refl _) HLo.out (fun h => absurd h hkl))
      have hLk := look_posL (l := T) (x := id) hx
      rw [dif_neg (by rw [HP.out]; exact hkl)] at hLk
      have HLk := toHid hLk
      clear hLk
      go_wp2
      go_ret2
      exact ⟨by rw [HP.out, HLk.out]; rfl, HBw.out⟩
end Go.Proofs.Yticnkppnpfgceaa.Mg
