/-
  Texts put together: Va Vb Vc Vd Ve.
-/
import Derived.Test.YtebchgoaelamcaaDoorUf
import Derived.Lib.Hide
import Derived.Test.YtebchgoaelamcaaDoorX9
import Derived.Deep.QuietTactic
import Derived.BigQuiet
import Derived.Test.YtebchgoaelamcaaDoorUc
import Derived.Test.YtebchgoaelamcaaDoorKd
import Derived.Test.YtebchgoaelamcaaDoorUd
import Derived.Test.YtebchgoaelamcaaDoorHd
import Derived.Test.YtebchgoaelamcaaDoorX8
import Derived.Test.YtebchgoaelamcaaDoorPr
import Derived.Test.YtebchgoaelamcaaDoorAn
import Derived.Test.YtebchgoaelamcaaDoorPw
namespace Go.Proofs.YtebchgoaelamcaaDoor
open Go.RowKit

def insP (L : List Pq) (x : Pq) (m : Nat) : List Pq := L.take m ++ x :: L.drop m
theorem insP_end (L : List Pq) (x : Pq) : insP L x L.length = L ++ [x] := by simp [insP]
theorem insP_len (L : List Pq) (x : Pq) (m : Nat) : (insP L x m).length = L.length + 1 := by
  simp only [insP, List.length_append, List.length_cons, List.length_take, List.length_drop]; omega
theorem insP_self {L : List Pq} {x : Pq} {m : Nat} (h : m ≤ L.length) : (insP L x m)[m]? = some x := by
  unfold insP
  rw [List.getElem?_append_right (by simp; omega)]
  simp [Nat.min_eq_left h]
theorem insP_prev {L : List Pq} {x : Pq} {k : Nat} (h : k < L.length) : (insP L x (k + 1))[k]? = some L[k] := by
  unfold insP
  rw [List.getElem?_append_left (by simp; omega), List.getElem?_take_of_lt (by omega), List.getElem?_eq_getElem h]
theorem insP_swap {L : List Pq} {x : Pq} {k : Nat} (h : k < L.length) : ((insP L x (k + 1)).set (k + 1) L[k]).set k x = insP L x k := by
  apply List.ext_getElem?
  intro i
  have hl : (insP L x (k + 1)).length = L.length + 1 := insP_len _ _ _
  unfold insP at hl ⊢
  rw [List.getElem?_set, List.getElem?_set, List.length_set, hl]
  by_cases e1 : k = i
  · subst e1
    rw [if_pos rfl, if_pos (by omega), List.getElem?_append_right (by simp; omega)]
    simp [Nat.min_eq_left (Nat.le_of_lt h)]
  · rw [if_neg e1]
    by_cases e2 : k + 1 = i
    · subst e2
      rw [if_pos rfl, if_pos (by omega), List.getElem?_append_right (by simp; omega)]
      simp [Nat.min_eq_left (Nat.le_of_lt h), List.getElem?_eq_getElem h]
    · rw [if_neg e2]
      by_cases e3 : i < k
      · rw [List.getElem?_append_left (by simp; omega), List.getElem?_append_left (by simp; omega), List.getElem?_take_of_lt (by omega), List.getElem?_take_of_lt (by omega)]
      · rw [List.getElem?_append_right (by simp; omega), List.getElem?_append_right (by simp; omega)]
        simp only [List.length_take]
        rw [Nat.min_eq_left (by omega), Nat.min_eq_left (by omega)]
        obtain ⟨q, rfl⟩ : ∃ q, i = k + 2 + q := ⟨i - (k + 2), by omega⟩
        rw [show k + 2 + q - (k + 1) = q + 1 by omega, show k + 2 + q - k = q + 2 by omega, List.getElem?_cons_succ, List.getElem?_cons_succ, List.getElem?_drop, List.getElem?_drop]
        congr 1
        omega
theorem insP_perm (L : List Pq) (x : Pq) (m : Nat) : (insP L x m).Perm (L ++ [x]) := by
  unfold insP
  have h1 : (L.take m ++ x :: L.drop m).Perm (x :: (L.take m ++ L.drop m)) := List.perm_middle
  rw [List.take_append_drop] at h1
  exact h1.trans (List.perm_append_comm (l₁ := [x]) (l₂ := L))
theorem insP_sort {L : List Pq} {x : Pq} {m : Nat} (h : SortP L) (hm : m ≤ L.length) (h1 : ∀ y, L[m - 1]? = some y → 0 < m → ¬ x.1 < y.1) (h2 : ∀ y, y ∈ L.drop m → x.1 < y.1) : SortP (insP L x m) := by
  have hp := (sortP_iff L).1 h
  rw [sortP_iff]
  unfold insP
  have hs : (L.take m ++ L.drop m).Pairwise (fun a b => ¬ b.1 < a.1) := by rw [List.take_append_drop]; exact hp
  rw [List.pairwise_append] at hs
  obtain ⟨p1, p2, p3⟩ := hs
  rw [List.pairwise_append, List.pairwise_cons]
  refine ⟨p1, ⟨fun b hb => List.le_of_lt (h2 b hb), p2⟩, fun a ha b hb => ?_⟩
  rcases List.mem_cons.1 hb with rfl | hb
  · obtain ⟨i, hi, rfl⟩ := List.mem_iff_getElem.1 ha
    have him : i < m := by simp at hi; omega
    have hiL : i < L.length := by omega
    rw [List.getElem_take]
    have hl := h1 L[m - 1] (List.getElem?_eq_getElem (by omega)) (by omega)
    by_cases e : i = m - 1
    · subst e
      exact hl
    · have := h i (m - 1) hiL (by omega) (by omega)
      exact List.le_trans this hl
  · exact p3 a ha b hb

theorem pcells_cons (x : Pq) (L : List Pq) : pcells (x :: L) = .string (txt x.1) :: .string (txt x.2) :: pcells L := by simp [pcells, encP]
theorem pcells_set : ∀ (L : List Pq) (i : Nat) (y : Pq), i < L.length → pcells (L.set i y) = ((pcells L).set (i * 2) (.string (txt y.1))).set (i * 2 + 1) (.string (txt y.2))
  | [], _, _, h => by simp at h
  | x :: L, 0, y, _ => by simp [pcells_cons]
  | x :: L, i + 1, y, h => by
    have ih := pcells_set L i y (by simpa using h)
    rw [List.set_cons_succ, pcells_cons, pcells_cons, ih, show (i + 1) * 2 = i * 2 + 1 + 1 by omega]
    simp only [List.set_cons_succ]
theorem pcells_get : ∀ (L : List Pq) (i : Nat) (y : Pq), L[i]? = some y → (pcells L)[i * 2]? = some (.string (txt y.1)) ∧ (pcells L)[i * 2 + 1]? = some (.string (txt y.2))
  | [], _, _, h => by simp at h
  | x :: L, 0, y, h => by simp at h; subst h; simp [pcells_cons]
  | x :: L, i + 1, y, h => by
    have ih := pcells_get L i y (by simpa using h)
    rw [pcells_cons, show (i + 1) * 2 = i * 2 + 1 + 1 by omega]
    simpa only [List.getElem?_cons_succ] using ih
theorem own_at {w : World} {B g n c : Nat} {L : List Pq} (h : w.ownsRow B 74 2 (.slice (some ⟨g, 0, none⟩) n c) n (pcells L)) {i : Nat} {y : Pq} (hy : L[i]? = some y) : w.cell? ⟨g, i * 2, none⟩ = some (.string (txt y.1)) ∧ w.cell? ⟨g, i * 2 + 1, none⟩ = some (.string (txt y.2)) := by
  obtain ⟨h1, h2⟩ := pcells_get L i y hy
  have hadd : ∀ j, (⟨g, 0, none⟩ : Addr).add j = ⟨g, j, none⟩ := fun j => by unfold Addr.add; split <;> simp_all
  have c1 := h.cells (g := g) rfl _ _ h1
  have c2 := h.cells (g := g) rfl _ _ h2
  rw [hadd] at c1 c2
  exact ⟨c1, c2⟩
theorem own_setP {w : World} {B g n c : Nat} {L : List Pq} (h : w.ownsRow B 74 2 (.slice (some ⟨g, 0, none⟩) n c) n (pcells L)) {i : Nat} (hi : i < L.length) (y : Pq) :
    ((w.setCell ⟨g, i * 2, none⟩ (.string (txt y.1))).setCell ⟨g, i * 2 + 1, none⟩ (.string (txt y.2))).ownsRow B 74 2 (.slice (some ⟨g, 0, none⟩) n c) n (pcells (L.set i y)) := by
  rw [pcells_set L i y hi]
  exact own_set (own_set h _ _) _ _
theorem own_addr {w : World} {B e size n c : Nat} {a : Option Addr} {xs : List Value} (h : w.ownsRow B e size (.slice a n c) n xs) : (a = none ∧ n = 0 ∧ c = 0) ∨ ∃ g cur, a = some ⟨g, 0, none⟩ ∧ B ≤ g ∧ w.heap[g]? = some (.cells cur e) ∧ n ≤ c ∧ cur.size = c * size := by
  rcases h.2 with ⟨e1, e2⟩ | ⟨g, cap, cur, e1, h1, h2, h3, _, h5, _⟩
  · simp at e1
    exact .inl ⟨e1.1, e2, e1.2.2⟩
  · simp at e1
    obtain ⟨rfl, rfl⟩ := e1
    exact .inr ⟨g, cur, rfl, h1, h2, h3, h5⟩
theorem row_low {w : World} {B B' e size n : Nat} {v : Value} {xs : List Value} (h : w.ownsRow B e size v n xs) (hb : B' ≤ B) : w.ownsRow B' e size v n xs := by
  refine ⟨h.1, ?_⟩
  rcases h.2 with h2 | ⟨g, cap, cur, h1, h3, h4⟩
  · exact .inl h2
  · exact .inr ⟨g, cap, cur, h1, by omega, h4⟩
theorem kind_ne {w : World} {k q e t : Nat} {c d : Array Value} (h1 : w.heap[k]? = some (Obj.cells c e)) (h2 : w.heap[q]? = some (Obj.cells d t)) (hne : e ≠ t) : k ≠ q := by
  intro h
  subst h
  rw [h1] at h2
  simp at h2
  exact hne h2.2


theorem insP_stb {X L : List Pq} {x : Pq} {m : Nat} (h : Stb X L) (h2 : ∀ y, y ∈ L.drop m → x.1 < y.1) : Stb (X ++ [x]) (insP L x m) := by
  have h3 : Stb (L.drop m ++ [x]) ([x] ++ L.drop m) := stb_swap (fun y hy z hz => by
    simp at hz
    subst hz
    exact h2 y hy)
  intro k
  have e1 := h k
  have e2 := h3 k
  unfold insP
  rw [show L.take m ++ x :: L.drop m = L.take m ++ ([x] ++ L.drop m) by simp, fk_append, fk_append, ← e2, e1, ← List.take_append_drop m L, fk_append, fk_append]
  simp only [List.take_append_drop, List.append_assoc]
theorem insP_rise {L : List Pq} {x : Pq} {m : Nat} (h : Rise L) (hm : m ≤ L.length) (h1 : ∀ y, L[m - 1]? = some y → 0 < m → ¬ x.1 < y.1) (h2 : ∀ y, y ∈ L.drop m → x.1 < y.1) : Rise (insP L x m) :=
  (sortP_iff _).1 (insP_sort ((sortP_iff _).2 h) hm h1 h2)
end Go.Proofs.YtebchgoaelamcaaDoor

namespace Go.Proofs.YtebchgoaelamcaaDoor
open Go.RowKit

theorem gt_dec (x y : List UInt8) : (!decide (y < x) && !y == x) = decide (x < y) := by
  by_cases h1 : x < y
  · have h2 : ¬ y < x := List.le_of_lt h1
    have h3 : y ≠ x := fun e => by subst e; exact List.lt_irrefl _ h1
    simp [h1, h2, h3]
  · by_cases h2 : y < x
    · simp [h1, h2]
    · have h3 : y = x := List.le_antisymm h1 h2
      subst h3
      simp [h1]

/-- While one goes down. -/
structure In17 (w0 : World) (D g c Bc : Nat) (L : List Pq) (x : Pq) (m : Nat) (W : World) : Prop where
  row : W.ownsRow D 74 2 (.slice (some ⟨g, 0, none⟩) (L.length + 1) c) (L.length + 1) (pcells (insP L x m))
  bel : Below D w0 W
  box : W.heap[Bc]? = some (.cells #[.bool true, .string (txt x.1), .string (txt x.2)] 55)
theorem In17.blk {w0 W : World} {D g c Bc m : Nat} {L : List Pq} {x : Pq} (h : In17 w0 D g c Bc L x m W) : D ≤ g ∧ ∃ cs, W.heap[g]? = some (.cells cs 74) := by
  rcases own_addr h.row with ⟨e, _⟩ | ⟨g', cur, e, h1, h2, _⟩
  · simp at e
  · simp at e
    subst e
    exact ⟨h1, _, h2⟩
theorem In17.drew {w0 W : World} {D g c Bc m : Nat} {L : List Pq} {x : Pq} (h : In17 w0 D g c Bc L x m W) : In17 w0 D g c Bc L x m W.drew := ⟨h.row, h.bel.drew, h.box⟩
theorem In17.drewN {w0 W : World} {D g c Bc m : Nat} {L : List Pq} {x : Pq} (h : In17 w0 D g c Bc L x m W) (n : Nat) : In17 w0 D g c Bc L x m (W.drewN n) := ⟨h.row, ⟨h.bel.os, h.bel.tape, h.bel.output, h.bel.size, h.bel.block⟩, h.box⟩
theorem In17.swap {w0 W : World} {D g c Bc m : Nat} {L : List Pq} {x y : Pq} (hp : 0 < m) (hm : m ≤ L.length) (h : In17 w0 D g c Bc L x m W) (hy : L[m - 1]? = some y) :
    In17 w0 D g c Bc L x (m - 1) ((((W.setCell ⟨g, m * 2, none⟩ (.string (txt y.1))).setCell ⟨g, m * 2 + 1, none⟩ (.string (txt y.2))).setCell ⟨g, (m - 1) * 2, none⟩ (.string (txt x.1))).setCell ⟨g, (m - 1) * 2 + 1, none⟩ (.string (txt x.2))) := by
  obtain ⟨hD, cs, hg⟩ := h.blk
  have hne : Bc ≠ g := kind_ne h.box hg (by decide)
  refine ⟨?_, (((h.bel.setCell (p := ⟨g, m * 2, none⟩) hD _).setCell (p := ⟨g, m * 2 + 1, none⟩) hD _).setCell (p := ⟨g, (m - 1) * 2, none⟩) hD _).setCell (p := ⟨g, (m - 1) * 2 + 1, none⟩) hD _, ?_⟩
  · have h1 := own_setP h.row (i := m) (by rw [insP_len]; omega) y
    have h2 := own_setP h1 (i := m - 1) (by rw [List.length_set, insP_len]; omega) x
    have e : ((insP L x m).set m y).set (m - 1) x = insP L x (m - 1) := by
      obtain ⟨k, rfl⟩ : ∃ k, m = k + 1 := ⟨m - 1, by omega⟩
      rw [Nat.add_sub_cancel] at hy ⊢
      have hk : k < L.length := by omega
      rw [List.getElem?_eq_getElem hk] at hy
      simp at hy
      rw [← hy]
      exact insP_swap hk
    rw [e] at h2
    exact h2
  · rw [heap_setCell_other _ _ _ _ hne, heap_setCell_other _ _ _ _ hne, heap_setCell_other _ _ _ _ hne, heap_setCell_other _ _ _ _ hne]
    exact h.box

set_option maxRecDepth 100000 in
set_option maxHeartbeats 4000000 in
theorem refpairs_any (id : Int) (lsn : Nat) (a : Option Addr) (c : Nat) (l : List Cl) (w : World) (hsl : SlC w a l) (hl : l.length ≤ 64) :
    Calls Tryd.prog 55 #[.agg (refP id lsn a l.length c)] w fun e w' => ∃ a' c', ∃ L : List Pq, e = .returned (.slice a' L.length c') ∧ L.Perm (prsL l) ∧ SortP L ∧ w'.ownsRow w.heap.size 74 2 (.slice a' L.length c') L.length (pcells L) ∧ Below w.heap.size w w' := by
  obtain ⟨i0, hi, hz0, hz1, hz2⟩ := info_parts Tryd.info74
  simp only [refP]
  have hb0 : Below w.heap.size w (w.alloc (.cells #[.int .i64 id, .int .u64 (lsn : Int), .slice a l.length c] 39)) := (Below.refl _ _).alloc (Nat.le_refl _) _
  have HX := toHid (heap_alloc_new w (.cells #[.int .i64 id, .int .u64 (lsn : Int), .slice a l.length c] 39))
  have HS := toHid (hsl.below hb0)
  have HB0 := toHid hb0
  have HLt : Hid (w.heap.size < (w.alloc (.cells #[.int .i64 id, .int .u64 (lsn : Int), .slice a l.length c] 39)).heap.size) := lt_of_blk HX.out
  clear hb0 hsl
  go_enter Tryd.func55, Tryd.ntmps55
  refine wp_seq_k fun K0 hK0 => ?_
  have HK0 := toHid hK0
  clear hK0
  go_wp2_with fail
  refine HK0.out _ _ ?_
  clear HK0
  generalize hw0 : w.alloc (.cells #[.int .i64 id, .int .u64 (lsn : Int), .slice a l.length c] 39) = w0 at HX HS HB0 HLt ⊢
  clear hw0
  obtain ⟨D, hD⟩ : ∃ D, D = w0.heap.size := ⟨_, rfl⟩
  have HDe := toHid hD
  clear hD
  go_wp2_with fail
  go_loopw [3, 4] (fun s i W => ∃ (k : Nat) (a3 : Option Addr) (c3 : Nat) (L : List Pq), k ≤ l.length ∧ i = .int .i64 k ∧ s = .slice a3 L.length c3 ∧ L.Perm (prsL (l.take k)) ∧ SortP L ∧ W.ownsRow D 74 2 (.slice a3 L.length c3) L.length (pcells L) ∧ Below D w0 W) (fun _ i _ => l.length - (intOf i).toNat)
  case atStart => exact ⟨0, none, 0, [], Nat.zero_le _, rfl, rfl, List.Perm.refl _, fun i j hi => by simp at hi, World.ownsRow_nil _ _ _ _, Below.refl _ _⟩
  case round =>
    obtain ⟨k, a3, c3, L, hk, rfl, rfl, hpm, hst, hrow, hbr⟩ := hrel
    have hLl : L.length ≤ 64 := by
      have h1 := hpm.length_eq
      have h2 := prs_le (l.take k)
      rw [List.length_take] at h2
      omega
    have HPm := toHid hpm
    have HSt := toHid hst
    have HRow := toHid hrow
    have HBr := toHid hbr
    have hbx : wr.heap[w.heap.size]? = some (.cells #[.int .i64 id, .int .u64 (lsn : Int), .slice a l.length c] 39) := by rw [hbr.block _ (by rw [HDe.out]; exact HLt.out)]; exact HX.out
    obtain ⟨q0, q1, q2, _⟩ := cell3 hbx
    have hD0 : D ≤ wr.heap.size := by rw [HDe.out]; exact hbr.size
    clear hpm hst hrow hbr
    by_cases hlt : k < l.length
    · have HPT := toHid (prs_take l k hlt)
      obtain ⟨b, o, rfl, hbl, c1, c2, c3'⟩ := (HS.out.below (show Below w0.heap.size w0 wr from HDe.out ▸ HBr.out)).at k hlt
      have e1 : (k : Int) < (l.length : Int) := by omega
      have e2 : 0 ≤ (k : Int) := by omega
      obtain ⟨cx, hcx⟩ : ∃ cx, cx = l[k] := ⟨_, rfl⟩
      rw [← hcx] at HPT c1 c2 c3'
      obtain ⟨us, ky, vl⟩ := cx
      simp only at c1 c2 c3'
      clear hbx hcx
      cases us
      · rw [prC_free rfl] at HPT
        have HPL : Hid (prsL (l.take (k + 1)) = prsL (l.take k)) := by show _ = _; rw [HPT.out]; simp
        have HB1 : Hid (Below D w0 (wr.alloc (.cells #[.bool false, .string (txt ky), .string (txt vl)] 55))) := HBr.out.alloc hD0 _
        have HO1 := toHid (HRow.out.alloc (.cells #[.bool false, .string (txt ky), .string (txt vl)] 55))
        go_wp2_with fail
        go_roundw
        case rel => exact ⟨k + 1, a3, c3, L, by omega, by simp, rfl, by rw [HPL.out]; exact HPm.out, HSt.out, HO1.out, HB1.out⟩
        case measure => first | omega | (simp only [intOf]; omega)
      · rw [prC_used rfl] at HPT
        have HO0 := toHid ((HRow.out.alloc (.cells #[.bool true, .string (txt ky), .string (txt vl)] 55)).alloc (.cells #[.string (txt ky), .string (txt vl)] 74))
        have HB0' : Hid (Below D w0 ((wr.alloc (.cells #[.bool true, .string (txt ky), .string (txt vl)] 55)).alloc (.cells #[.string (txt ky), .string (txt vl)] 74))) := (HBr.out.alloc hD0 _).alloc (by simp; omega) _
        have HC0 := toHid (heap_alloc2_old wr (.cells #[.bool true, .string (txt ky), .string (txt vl)] 55) (.cells #[.string (txt ky), .string (txt vl)] 74))
        go_wp2_with (at_builtin; refine wpList_append_own _ rfl _ _ 33 rfl D 74 i0 _ 2 32 Tryd.underlying33 hi hz0 hz1 hz2 rfl (by decide) (.slice a3 L.length c3) L.length (pcells L) rfl HO0.out ⟨wr.heap.size + 1, 0, none⟩ 1 1 [.string (txt ky), .string (txt vl)] rfl rfl (two_cells' _ _ _ _ _) (by intro u hu; simp at hu; rcases hu with rfl | rfl <;> rfl) (by unfold maxLen; omega) (by omega) (by simp; omega) ?_; intro v' w1 hown hgrow _; obtain ⟨a5, c5, rfl⟩ := ownsRow_shape hown)
        obtain ⟨g5, rfl⟩ : ∃ g, a5 = some ⟨g, 0, none⟩ := by
          rcases own_addr hown with ⟨_, e, _⟩ | ⟨g, cur, e, _⟩
          · omega
          · exact ⟨g, e⟩
        have HB1 : Hid (Below D w0 w1) := HB0'.out.grown hgrow (by simp; omega) (fun j hj => (World.ownsRow.lt HO0.out j hj).1)
        obtain ⟨x, hx⟩ : ∃ x : Pq, x = (ky, vl) := ⟨_, rfl⟩
        obtain ⟨Bc, hBc⟩ : ∃ B, B = wr.heap.size := ⟨_, rfl⟩
        have hcb : w1.heap[Bc]? = some (.cells #[.bool true, .string (txt x.1), .string (txt x.2)] 55) := by
          rw [hx, hBc, hgrow.block _ (by simp; omega) (fun e => by
            obtain ⟨cs, hcs⟩ : ∃ cs, ((wr.alloc (.cells #[.bool true, .string (txt ky), .string (txt vl)] 55)).alloc (.cells #[.string (txt ky), .string (txt vl)] 74)).heap[wr.heap.size]? = some (.cells cs 74) := by
              rcases own_addr HO0.out with ⟨e1, _⟩ | ⟨g, cur, e1, _, hg, _⟩
              · rw [e1] at e; simp [Value.ownBlock] at e
              · rw [e1] at e; simp [Value.ownBlock] at e; subst e; exact ⟨cur, hg⟩
            rw [HC0.out] at hcs
            simp at hcs)]
          exact HC0.out
        have HI0 : Hid (In17 w0 D g5 c5 Bc L x L.length w1) := ⟨by rw [insP_end, hx, pcells_append]; simpa [pcells, encP] using hown, HB1.out, hcb⟩
        have HXe := toHid hx
        rw [← hBc]
        clear hown hgrow hcb HB1 HO0 HB0' HC0 hx hBc c1 c2 c3' q0 q1 q2
        go_wp2_with fail
        go_loopw [6] (fun s W => ∃ m : Nat, m ≤ L.length ∧ s = .int .i64 m ∧ In17 w0 D g5 c5 Bc L x m W ∧ ∀ y, y ∈ L.drop m → x.1 < y.1) (fun s _ => (intOf s).toNat)
        case atStart => exact ⟨L.length, Nat.le_refl _, rfl, HI0.out, by simp⟩
        case round =>
          clear HI0
          obtain ⟨m, hm, rfl, hin, hd⟩ := hrel
          have HI := toHid hin
          have HD := toHid hd
          clear hin hd
          obtain ⟨b0, b1, b2, _⟩ := cell3 HI.out.box
          by_cases h0 : m = 0
          · subst h0
            have g1 : ¬ (0 : Int) < ((0 : Nat) : Int) := by omega
            go_wp2_with fail
            go_quiet (fail)
            obtain ⟨W2, hW2⟩ : ∃ W2, W2 = wr.drewN nq := ⟨_, rfl⟩
            have HI2 := toHid (show In17 w0 D g5 c5 Bc L x 0 W2 from hW2 ▸ HI.out.drewN nq)
            rw [← hW2]
            clear hW2 b0 b1 b2
            have HRn := toHid (show SortP (insP L x 0) from insP_sort HSt.out (Nat.zero_le _) (fun y _ h => by omega) HD.out)
            have HFin := toHid (show (insP L x 0).Perm (prsL (l.take (k + 1))) by rw [HPT.out]; exact (insP_perm L x 0).trans (by rw [HXe.out]; exact HPm.out.append_right _))
            go_wp2_with fail
            go_roundw
            case rel => exact ⟨k + 1, some ⟨g5, 0, none⟩, c5, insP L x 0, by omega, by first | go_num | simp, by rw [insP_len], HFin.out, HRn.out, by rw [insP_len]; exact HI2.out.row, HI2.out.bel⟩
            case measure => simp [intOf]; omega
          · obtain ⟨y, hy⟩ : ∃ y, L[m - 1]? = some y := ⟨_, List.getElem?_eq_getElem (by omega)⟩
            have HY := toHid hy
            have HXi := toHid (show (insP L x m)[m - 1]? = some y by rw [show m = (m - 1) + 1 by omega, Nat.add_sub_cancel, insP_prev (by omega)]; rw [← hy, List.getElem?_eq_getElem (by omega)])
            obtain ⟨s0, s1⟩ := own_at HI.out.row (i := m - 1) (y := y) HXi.out
            clear hy
            have hmp : 0 < m := by omega
            have g3 : decide (0 < m) = true := by simp; omega
            have i1 : (0 : Int) < (m : Int) := by omega
            have i2 : 0 ≤ (m : Int) - 1 := by omega
            have i3 : (m : Int) - 1 < (L.length : Int) + 1 := by omega
            have i4 : (m : Int) < (L.length : Int) + 1 := by omega
            have i5 : 0 ≤ (m : Int) := by omega
            obtain ⟨bb, hbb⟩ : ∃ b, (!Op.bytesLess (txt y.1).toList (txt x.1).toList && !(txt y.1).toList == (txt x.1).toList) = b := ⟨_, rfl⟩
            have HBB : Hid (bb = decide (x.1 < y.1)) := by show _ = _; rw [← hbb, toList_txt, toList_txt, bytesLess_eq]; exact gt_dec _ _
            cases bb
            · have HNl : Hid (¬ x.1 < y.1) := by show ¬ _; have := HBB.out; simpa using this
              go_wp2_with fail
              go_quiet (fail)
              obtain ⟨W2, hW2⟩ : ∃ W2, W2 = wr.drewN nq := ⟨_, rfl⟩
              have HI2 := toHid (show In17 w0 D g5 c5 Bc L x m W2 from hW2 ▸ HI.out.drewN nq)
              rw [← hW2]
              clear hW2 b0 b1 b2 s0 s1
              have HRn := toHid (show SortP (insP L x m) from insP_sort HSt.out hm (fun z hz _ => by rw [HY.out] at hz; injection hz with hz; subst hz; exact HNl.out) HD.out)
              have HFin := toHid (show (insP L x m).Perm (prsL (l.take (k + 1))) by rw [HPT.out]; exact (insP_perm L x m).trans (by rw [HXe.out]; exact HPm.out.append_right _))
              go_wp2_with fail
              go_roundw
              case rel => exact ⟨k + 1, some ⟨g5, 0, none⟩, c5, insP L x m, by omega, by first | go_num | simp, by rw [insP_len], HFin.out, HRn.out, by rw [insP_len]; exact HI2.out.row, HI2.out.bel⟩
              case measure => simp [intOf]; omega
            · have HLs : Hid (x.1 < y.1) := by show _ < _; have := HBB.out; simpa using this
              go_wp2_with fail
              go_quiet (fail)
              obtain ⟨W2, hW2⟩ : ∃ W2, W2 = wr.drewN nq := ⟨_, rfl⟩
              have HI2 := toHid (show In17 w0 D g5 c5 Bc L x m W2 from hW2 ▸ HI.out.drewN nq)
              rw [← hW2]
              clear hW2 b0 b1 b2 s0 s1
              obtain ⟨s0, s1⟩ := own_at HI2.out.row (i := m - 1) (y := y) HXi.out
              obtain ⟨t0, t1⟩ := own_at HI2.out.row (i := m) (y := x) (insP_self hm)
              have f0 := row_free HI2.out.row (m * 2)
              have f1 := row_free HI2.out.row (m * 2 + 1)
              have e0 := row_free HI2.out.row ((m - 1) * 2)
              have e1 := row_free HI2.out.row ((m - 1) * 2 + 1)
              have HD9 := toHid (show ∀ z, z ∈ L.drop (m - 1) → x.1 < z.1 from fun z hz => by
                rw [List.drop_eq_getElem_cons (by omega)] at hz
                rcases List.mem_cons.1 hz with e | hz
                · have := HY.out
                  rw [List.getElem?_eq_getElem (by omega)] at this
                  injection this with this
                  rw [e, this]
                  exact HLs.out
                · rw [show m - 1 + 1 = m by omega] at hz
                  exact HD.out z hz)
              have hwp : IntKind.i64.wrap ((m : Int) - 1) = (m : Int) - 1 := by simp [IntKind.wrap, IntKind.bits, IntKind.signed]; omega
              have i10 : (1 : Int) ≤ (m : Int) := by omega
              have htn : ((m : Int) - 1).toNat = m - 1 := by omega
              go_wp2_with fail
              refine wp_region_held_drew (S := fun _ => True) (by kernel_rfl) trivial (fun hHeld => ?_)
              refine wpAnyH_take (i := 0) (v := ?_) rfl (by kernel_rfl) (by kernel_rfl) (by kernel_rfl) (fun _ _ _ h => h) (Or.inl ⟨by rfl, ?_⟩) (by assumption) ?_
              rotate_left
              · (intro W hSw; (try dsimp only at hSw); go_simp; (try rw [hwp]); (try rw [if_pos i10]); (try rw [htn]); try with_reducible rfl)
              try simp only [Act.put, List.getElem_toArray, List.getElem_cons_zero, List.setIfInBounds_toArray, List.set_cons_zero, List.set_cons_succ]
              refine wpAnyH_take (i := 1) (v := ?_) rfl (by kernel_rfl) (by kernel_rfl) (by kernel_rfl) (fun _ _ _ h => h) (Or.inl ⟨by rfl, ?_⟩) (by assumption) ?_
              rotate_left
              · (intro W hSw; (try dsimp only at hSw); go_simp; (try rw [hwp]); (try rw [if_pos i10]); (try rw [htn]); try with_reducible rfl)
              try simp only [Act.put, List.getElem_toArray, List.getElem_cons_zero, List.getElem_cons_succ, List.setIfInBounds_toArray, List.set_cons_zero, List.set_cons_succ]
              refine wpAnyH_take (i := 2) (v := ?_) rfl (by kernel_rfl) (by kernel_rfl) (by kernel_rfl) (fun _ _ _ h => h) (Or.inl ⟨by rfl, ?_⟩) (by assumption) ?_
              rotate_left
              · (intro W hSw; (try dsimp only at hSw); go_simp; (try rw [hwp]); (try rw [if_pos i10]); (try rw [htn]); try with_reducible rfl)
              try simp only [Act.put, List.getElem_toArray, List.getElem_cons_zero, List.getElem_cons_succ, List.setIfInBounds_toArray, List.set_cons_zero, List.set_cons_succ]
              refine wpAnyH_take (i := 3) (v := ?_) rfl (by kernel_rfl) (by kernel_rfl) (by kernel_rfl) (fun _ _ _ h => h) (Or.inl ⟨by rfl, ?_⟩) (by assumption) ?_
              rotate_left
              · (intro W hSw; (try dsimp only at hSw); go_simp; (try rw [hwp]); (try rw [if_pos i10]); (try rw [htn]); try with_reducible rfl)
              try simp only [Act.put, List.getElem_toArray, List.getElem_cons_zero, List.getElem_cons_succ, List.setIfInBounds_toArray, List.set_cons_zero, List.set_cons_succ]
              refine wpAnyH_take (i := 4) (v := ?_) rfl (by kernel_rfl) (by kernel_rfl) (by kernel_rfl) (fun _ _ _ h => h) (Or.inl ⟨by rfl, ?_⟩) (by assumption) ?_
              rotate_left
              · (intro W hSw; (try dsimp only at hSw); go_simp; (try rw [hwp]); (try rw [if_pos i10]); (try rw [htn]); try with_reducible rfl)
              try simp only [Act.put, List.getElem_toArray, List.getElem_cons_zero, List.getElem_cons_succ, List.setIfInBounds_toArray, List.set_cons_zero, List.set_cons_succ]
              refine wpAnyH_take (i := 5) (v := ?_) rfl (by kernel_rfl) (by kernel_rfl) (by kernel_rfl) (fun _ _ _ h => h) (Or.inl ⟨by rfl, ?_⟩) (by assumption) ?_
              rotate_left
              · (intro W hSw; (try dsimp only at hSw); go_simp; (try rw [hwp]); (try rw [if_pos i10]); (try rw [htn]); try with_reducible rfl)
              try simp only [Act.put, List.getElem_toArray, List.getElem_cons_zero, List.getElem_cons_succ, List.setIfInBounds_toArray, List.set_cons_zero, List.set_cons_succ]
              refine wpAnyH_take (i := 6) (v := ?_) rfl (by kernel_rfl) (by kernel_rfl) (by kernel_rfl) (fun _ _ _ h => h) (Or.inl ⟨by rfl, ?_⟩) (by assumption) ?_
              rotate_left
              · (intro W hSw; (try dsimp only at hSw); go_simp; (try rw [hwp]); (try rw [if_pos i10]); (try rw [htn]); try with_reducible rfl)
              try simp only [Act.put, List.getElem_toArray, List.getElem_cons_zero, List.getElem_cons_succ, List.setIfInBounds_toArray, List.set_cons_zero, List.set_cons_succ]
              refine wpAnyH_take (i := 7) (v := ?_) rfl (by kernel_rfl) (by kernel_rfl) (by kernel_rfl) (fun _ _ _ h => h) (Or.inl ⟨by rfl, ?_⟩) (by assumption) ?_
              rotate_left
              · (intro W hSw; (try dsimp only at hSw); go_simp; (try rw [hwp]); (try rw [if_pos i10]); (try rw [htn]); try with_reducible rfl)
              try simp only [Act.put, List.getElem_toArray, List.getElem_cons_zero, List.getElem_cons_succ, List.setIfInBounds_toArray, List.set_cons_zero, List.set_cons_succ]
              refine wpAnyH_take (i := 8) (v := ?_) rfl (by kernel_rfl) (by kernel_rfl) (by kernel_rfl) (fun _ _ _ h => h) (Or.inl ⟨by rfl, ?_⟩) (by assumption) ?_
              rotate_left
              · (intro W hSw; (try dsimp only at hSw); go_simp; (try rw [hwp]); (try rw [if_pos i10]); (try rw [htn]); try with_reducible rfl)
              try simp only [Act.put, List.getElem_toArray, List.getElem_cons_zero, List.getElem_cons_succ, List.setIfInBounds_toArray, List.set_cons_zero, List.set_cons_succ]
              refine wpAnyH_take (i := 10) (v := ?_) rfl (by kernel_rfl) (by kernel_rfl) (by kernel_rfl) (fun _ _ _ h => h) (Or.inl ⟨by rfl, ?_⟩) (by assumption) ?_
              rotate_left
              · (intro W hSw; (try dsimp only at hSw); go_simp; (try rw [hwp]); (try rw [if_pos i10]); (try rw [htn]); try with_reducible rfl)
              try simp only [Act.put, List.getElem_toArray, List.getElem_cons_zero, List.getElem_cons_succ, List.setIfInBounds_toArray, List.set_cons_zero, List.set_cons_succ]
              refine wpAnyH_take (i := 11) (v := ?_) rfl (by kernel_rfl) (by kernel_rfl) (by kernel_rfl) (fun _ _ _ h => h) (Or.inl ⟨by rfl, ?_⟩) (by assumption) ?_
              rotate_left
              · (intro W hSw; (try dsimp only at hSw); go_simp; (try rw [hwp]); (try rw [if_pos i10]); (try rw [htn]); try with_reducible rfl)
              try simp only [Act.put, List.getElem_toArray, List.getElem_cons_zero, List.getElem_cons_succ, List.setIfInBounds_toArray, List.set_cons_zero, List.set_cons_succ]
              refine wpAnyH_take (i := 12) (v := ?_) rfl (by kernel_rfl) (by kernel_rfl) (by kernel_rfl) (fun _ _ _ h => h) (Or.inl ⟨by rfl, ?_⟩) (by assumption) ?_
              rotate_left
              · (intro W hSw; (try dsimp only at hSw); go_simp; (try rw [hwp]); (try rw [if_pos i10]); (try rw [htn]); try with_reducible rfl)
              try simp only [Act.put, List.getElem_toArray, List.getElem_cons_zero, List.getElem_cons_succ, List.setIfInBounds_toArray, List.set_cons_zero, List.set_cons_succ]
              refine wpAnyH_ready (rs := [9, 13]) (by kernel_rfl) (by simp) ?_
              refine AllReadyH.cons rfl (fun K hK => ?_) (AllReadyH.cons rfl (fun K hK => ?_) AllReadyH.nil)
              · skip
                go_simp
                try go_wp2_with fail
                refine hK.out _ _ trivial (fun hHeld => ?_)
                clear hK K
                try simp only [Act.put, List.getElem_toArray, List.getElem_cons_zero, List.getElem_cons_succ, List.setIfInBounds_toArray, List.set_cons_zero, List.set_cons_succ]
                refine wpAnyH_ready (rs := [13]) (by kernel_rfl) (by simp) ?_
                refine AllReadyH.cons rfl (fun K hK => ?_) AllReadyH.nil
                go_simp
                try go_wp2_with fail
                refine hK.out _ _ trivial (fun hHeld => ?_)
                clear hK K
                try simp only [Act.put, List.getElem_toArray, List.getElem_cons_zero, List.getElem_cons_succ, List.setIfInBounds_toArray, List.set_cons_zero, List.set_cons_succ]
                refine wpAnyH_take (i := 14) (v := ?_) rfl (by kernel_rfl) (by kernel_rfl) (by kernel_rfl) (fun _ _ _ h => h) (Or.inl ⟨by rfl, ?_⟩) (by assumption) ?_
                rotate_left
                · (intro W hSw; (try dsimp only at hSw); go_simp; (try rw [hwp]); (try rw [if_pos i10]); (try rw [htn]); try with_reducible rfl)
                try simp only [Act.put, List.getElem_toArray, List.getElem_cons_zero, List.getElem_cons_succ, List.setIfInBounds_toArray, List.set_cons_zero, List.set_cons_succ]
                refine wpAnyH_ready (rs := [15]) (by kernel_rfl) (by simp) ?_
                refine AllReadyH.cons rfl (fun K hK => ?_) AllReadyH.nil
                go_simp
                try go_wp2_with fail
                refine hK.out _ _ trivial (fun hHeld => ?_)
                clear hK K
                try simp only [Act.put, List.getElem_toArray, List.getElem_cons_zero, List.getElem_cons_succ, List.setIfInBounds_toArray, List.set_cons_zero, List.set_cons_succ]
                clear s0 s1 t0 t1 f0 f1 e0 e1
                obtain ⟨W3, hW3⟩ : ∃ W3, (W2.setCell ⟨g5, m * 2, none⟩ (.string (txt y.1))).setCell ⟨g5, m * 2 + 1, none⟩ (.string (txt y.2)) = W3 := ⟨_, rfl⟩
                rw [hW3]
                have HW3 := toHid hW3
                have HS3 := toHid (show W3.ownsRow D 74 2 (.slice (some ⟨g5, 0, none⟩) (L.length + 1) c5) (L.length + 1) (pcells ((insP L x m).set m y)) by subst hW3; exact own_setP HI2.out.row (by rw [insP_len]; omega) y)
                clear hW3
                obtain ⟨s0, s1⟩ := own_at HS3.out (i := m - 1) (y := y) (by rw [List.getElem?_set_ne (by omega)]; exact HXi.out)
                have f0 := row_free HS3.out ((m - 1) * 2)
                have f1 := row_free HS3.out ((m - 1) * 2 + 1)
                refine wpAnyH_take (i := 16) (v := ?_) rfl (by kernel_rfl) (by kernel_rfl) (by kernel_rfl) (fun _ _ _ h => h) (Or.inl ⟨by rfl, ?_⟩) (by assumption) ?_
                rotate_left
                · (intro W hSw; (try dsimp only at hSw); go_simp; (try rw [hwp]); (try rw [if_pos i10]); (try rw [htn]); try with_reducible rfl)
                try simp only [Act.put, List.getElem_toArray, List.getElem_cons_zero, List.getElem_cons_succ, List.setIfInBounds_toArray, List.set_cons_zero, List.set_cons_succ]
                refine wpAnyH_ready (rs := [17]) (by kernel_rfl) (by simp) ?_
                refine AllReadyH.cons rfl (fun K hK => ?_) AllReadyH.nil
                go_simp
                try go_wp2_with fail
                refine hK.out _ _ trivial (fun hHeld => ?_)
                clear hK K
                try simp only [Act.put, List.getElem_toArray, List.getElem_cons_zero, List.getElem_cons_succ, List.setIfInBounds_toArray, List.set_cons_zero, List.set_cons_succ]
                refine wpAnyH_done (by kernel_rfl) ?_ _
                clear hHeld
                have HI9 := toHid (show In17 w0 D g5 c5 Bc L x (m - 1) ((W3.setCell ⟨g5, (m - 1) * 2, none⟩ (.string (txt x.1))).setCell ⟨g5, (m - 1) * 2 + 1, none⟩ (.string (txt x.2))) by have h := HW3.out; subst h; exact In17.swap hmp hm HI2.out HY.out)
                go_wp2_with fail
                go_roundw
                case rel => exact ⟨m - 1, by omega, by first | go_num | (congr 1; omega), HI9.out.drew, HD9.out⟩
                case measure => simp [intOf]; omega
              · skip
                go_simp
                try go_wp2_with fail
                refine hK.out _ _ trivial (fun hHeld => ?_)
                clear hK K
                try simp only [Act.put, List.getElem_toArray, List.getElem_cons_zero, List.getElem_cons_succ, List.setIfInBounds_toArray, List.set_cons_zero, List.set_cons_succ]
                refine wpAnyH_ready (rs := [9]) (by kernel_rfl) (by simp) ?_
                refine AllReadyH.cons rfl (fun K hK => ?_) AllReadyH.nil
                go_simp
                try go_wp2_with fail
                refine hK.out _ _ trivial (fun hHeld => ?_)
                clear hK K
                try simp only [Act.put, List.getElem_toArray, List.getElem_cons_zero, List.getElem_cons_succ, List.setIfInBounds_toArray, List.set_cons_zero, List.set_cons_succ]
                refine wpAnyH_take (i := 14) (v := ?_) rfl (by kernel_rfl) (by kernel_rfl) (by kernel_rfl) (fun _ _ _ h => h) (Or.inl ⟨by rfl, ?_⟩) (by assumption) ?_
                rotate_left
                · (intro W hSw; (try dsimp only at hSw); go_simp; (try rw [hwp]); (try rw [if_pos i10]); (try rw [htn]); try with_reducible rfl)
                try simp only [Act.put, List.getElem_toArray, List.getElem_cons_zero, List.getElem_cons_succ, List.setIfInBounds_toArray, List.set_cons_zero, List.set_cons_succ]
                refine wpAnyH_ready (rs := [15]) (by kernel_rfl) (by simp) ?_
                refine AllReadyH.cons rfl (fun K hK => ?_) AllReadyH.nil
                go_simp
                try go_wp2_with fail
                refine hK.out _ _ trivial (fun hHeld => ?_)
                clear hK K
                try simp only [Act.put, List.getElem_toArray, List.getElem_cons_zero, List.getElem_cons_succ, List.setIfInBounds_toArray, List.set_cons_zero, List.set_cons_succ]
                clear s0 s1 t0 t1 f0 f1 e0 e1
                obtain ⟨W3, hW3⟩ : ∃ W3, (W2.setCell ⟨g5, m * 2, none⟩ (.string (txt y.1))).setCell ⟨g5, m * 2 + 1, none⟩ (.string (txt y.2)) = W3 := ⟨_, rfl⟩
                rw [hW3]
                have HW3 := toHid hW3
                have HS3 := toHid (show W3.ownsRow D 74 2 (.slice (some ⟨g5, 0, none⟩) (L.length + 1) c5) (L.length + 1) (pcells ((insP L x m).set m y)) by subst hW3; exact own_setP HI2.out.row (by rw [insP_len]; omega) y)
                clear hW3
                obtain ⟨s0, s1⟩ := own_at HS3.out (i := m - 1) (y := y) (by rw [List.getElem?_set_ne (by omega)]; exact HXi.out)
                have f0 := row_free HS3.out ((m - 1) * 2)
                have f1 := row_free HS3.out ((m - 1) * 2 + 1)
                refine wpAnyH_take (i := 16) (v := ?_) rfl (by kernel_rfl) (by kernel_rfl) (by kernel_rfl) (fun _ _ _ h => h) (Or.inl ⟨by rfl, ?_⟩) (by assumption) ?_
                rotate_left
                · (intro W hSw; (try dsimp only at hSw); go_simp; (try rw [hwp]); (try rw [if_pos i10]); (try rw [htn]); try with_reducible rfl)
                try simp only [Act.put, List.getElem_toArray, List.getElem_cons_zero, List.getElem_cons_succ, List.setIfInBounds_toArray, List.set_cons_zero, List.set_cons_succ]
                refine wpAnyH_ready (rs := [17]) (by kernel_rfl) (by simp) ?_
                refine AllReadyH.cons rfl (fun K hK => ?_) AllReadyH.nil
                go_simp
                try go_wp2_with fail
                refine hK.out _ _ trivial (fun hHeld => ?_)
                clear hK K
                try simp only [Act.put, List.getElem_toArray, List.getElem_cons_zero, List.getElem_cons_succ, List.setIfInBounds_toArray, List.set_cons_zero, List.set_cons_succ]
                refine wpAnyH_done (by kernel_rfl) ?_ _
                clear hHeld
                have HI9 := toHid (show In17 w0 D g5 c5 Bc L x (m - 1) ((W3.setCell ⟨g5, (m - 1) * 2, none⟩ (.string (txt x.1))).setCell ⟨g5, (m - 1) * 2 + 1, none⟩ (.string (txt x.2))) by have h := HW3.out; subst h; exact In17.swap hmp hm HI2.out HY.out)
                go_wp2_with fail
                go_roundw
                case rel => exact ⟨m - 1, by omega, by first | go_num | (congr 1; omega), HI9.out.drew, HD9.out⟩
                case measure => simp [intOf]; omega
    · obtain rfl : k = l.length := by omega
      have e1 : ¬ (l.length : Int) < (l.length : Int) := by omega
      clear hbx
      go_wp2_with fail
      go_ret
      refine ⟨a3, c3, L, rfl, ?_, HSt.out, row_low HRow.out (by rw [HDe.out]; exact Nat.le_of_lt HLt.out), HB0.out.trans (HBr.out.mono (by rw [HDe.out]; exact Nat.le_of_lt HLt.out))⟩
      have := HPm.out
      rw [List.take_length] at this
      exact this

end Go.Proofs.YtebchgoaelamcaaDoor

namespace Go.Proofs.YtebchgoaelamcaaDoor
open Go.RowKit Go.Sort
set_option maxRecDepth 100000

structure Dp where
  id : Int
  lsn : Nat
  a : Option Addr
  c : Nat
  l : List Cl
/-- A row of the document's pages that can be read. -/
structure SlD (W : World) (a : Option Addr) (ds : List Dp) : Prop where
  get : ∀ i (hi : i < ds.length), ∃ b o, a = some ⟨b, o, none⟩ ∧ b < W.heap.size ∧ W.cell? ⟨b, o + i * 3, none⟩ = some (.int .i64 ds[i].id) ∧ W.cell? ⟨b, o + i * 3 + 1, none⟩ = some (.int .u64 (ds[i].lsn : Int)) ∧ W.cell? ⟨b, o + i * 3 + 2, none⟩ = some (.slice ds[i].a ds[i].l.length ds[i].c)
  pg : ∀ i (hi : i < ds.length), SlC W ds[i].a ds[i].l ∧ ds[i].l.length ≤ 64
theorem SlD.below {W W' : World} {a : Option Addr} {ds : List Dp} (h : SlD W a ds) (hb : Below W.heap.size W W') : SlD W' a ds :=
  ⟨fun i hi => by
    obtain ⟨b, o, e, hl, h1, h2, h3⟩ := h.get i hi
    exact ⟨b, o, e, Nat.lt_of_lt_of_le hl hb.size, by rw [cell_kept hb hl]; exact h1, by rw [cell_kept hb hl]; exact h2, by rw [cell_kept hb hl]; exact h3⟩, fun i hi => ⟨(h.pg i hi).1.below hb, (h.pg i hi).2⟩⟩

/-- While one goes down. -/
structure In18 (w0 : World) (D g c : Nat) (aL : Option Addr) (Li L : List Pq) (x : Pq) (m : Nat) (W : World) : Prop where
  row : W.ownsRow D 74 2 (.slice (some ⟨g, 0, none⟩) (L.length + 1) c) (L.length + 1) (pcells (insP L x m))
  bel : Below D w0 W
  src : SlQ W aL Li
  ne : ∀ y, aL = some y → y.block ≠ g
section
variable {w0 W : World} {D g c m : Nat} {aL : Option Addr} {Li L : List Pq} {x y : Pq}
theorem In18.drew (h : In18 w0 D g c aL Li L x m W) : In18 w0 D g c aL Li L x m W.drew := ⟨h.row, h.bel.drew, h.src.below (Below.refl _ _).drew, h.ne⟩
theorem In18.drewN (h : In18 w0 D g c aL Li L x m W) (n : Nat) : In18 w0 D g c aL Li L x m (W.drewN n) := ⟨h.row, ⟨h.bel.os, h.bel.tape, h.bel.output, h.bel.size, h.bel.block⟩, h.src.below (below_drewN (Below.refl _ _) n), h.ne⟩
theorem In18.swap (hp : 0 < m) (hm : m ≤ L.length) (h : In18 w0 D g c aL Li L x m W) (hy : L[m - 1]? = some y) :
    In18 w0 D g c aL Li L x (m - 1) ((((W.setCell ⟨g, m * 2, none⟩ (.string (txt y.1))).setCell ⟨g, m * 2 + 1, none⟩ (.string (txt y.2))).setCell ⟨g, (m - 1) * 2, none⟩ (.string (txt x.1))).setCell ⟨g, (m - 1) * 2 + 1, none⟩ (.string (txt x.2))) := by
  have hD : D ≤ g := by
    rcases own_addr h.row with ⟨e, _⟩ | ⟨g', cur, e, h1, h2, _⟩
    · simp at e
    · simp at e
      subst e
      exact h1
  refine ⟨?_, (((h.bel.setCell (p := ⟨g, m * 2, none⟩) hD _).setCell (p := ⟨g, m * 2 + 1, none⟩) hD _).setCell (p := ⟨g, (m - 1) * 2, none⟩) hD _).setCell (p := ⟨g, (m - 1) * 2 + 1, none⟩) hD _, ⟨h.src.nonil, fun z hz i t ht => ?_⟩, h.ne⟩
  · have h1 := own_setP h.row (i := m) (by rw [insP_len]; omega) y
    have h2 := own_setP h1 (i := m - 1) (by rw [List.length_set, insP_len]; omega) x
    have e : ((insP L x m).set m y).set (m - 1) x = insP L x (m - 1) := by
      obtain ⟨k, rfl⟩ : ∃ k, m = k + 1 := ⟨m - 1, by omega⟩
      rw [Nat.add_sub_cancel] at hy ⊢
      have hk : k < L.length := by omega
      rw [List.getElem?_eq_getElem hk] at hy
      simp at hy
      rw [← hy]
      exact insP_swap hk
    rw [e] at h2
    exact h2
  · obtain ⟨s1, s2, s3⟩ := h.src.cells z hz i t ht
    have hne := h.ne z hz
    have e : ∀ q, ((((W.setCell ⟨g, m * 2, none⟩ (.string (txt y.1))).setCell ⟨g, m * 2 + 1, none⟩ (.string (txt y.2))).setCell ⟨g, (m - 1) * 2, none⟩ (.string (txt x.1))).setCell ⟨g, (m - 1) * 2 + 1, none⟩ (.string (txt x.2))).cell? ⟨z.block, q, none⟩ = W.cell? ⟨z.block, q, none⟩ := fun q => World.cell?_of_block (a := ⟨z.block, q, none⟩) (by
      show _ = W.heap[z.block]?
      rw [heap_setCell_other _ _ _ _ hne, heap_setCell_other _ _ _ _ hne, heap_setCell_other _ _ _ _ hne, heap_setCell_other _ _ _ _ hne])
    exact ⟨s1, by rw [e]; exact s2, by rw [e]; exact s3⟩
end

set_option maxHeartbeats 8000000 in
theorem refrange_any (a0 : Option Addr) (c0 : Nat) (ds : List Dp) (f t : List UInt8) (w : World) (h : SlD w a0 ds) (hl : ds.length ≤ 1000) :
    Calls Tryd.prog 29 #[.slice a0 ds.length c0, .string (txt f), .string (txt t)] w fun e w' => ∃ a c, ∃ L X : List Pq, e = .returned (.slice a L.length c) ∧ Cat f t (ds.map (·.l)) X ∧ Rise L ∧ Stb X L ∧ L.length ≤ 64 * ds.length ∧ w'.ownsRow w.heap.size 74 2 (.slice a L.length c) L.length (pcells L) ∧ Below w.heap.size w w' := by
  obtain ⟨i0, hi, hz0, hz1, hz2⟩ := info_parts Tryd.info74
  have HS := toHid h
  clear h
  go_enter Tryd.func29, Tryd.ntmps29
  go_wp2_with fail
  go_loopw [7, 8] (fun s vi wr => ∃ i : Nat, ∃ a c, ∃ L X : List Pq, i ≤ ds.length ∧ vi = .int .i64 i ∧ s = .slice a L.length c ∧ L.length ≤ 64 * i ∧ Hid (Cat f t ((ds.take i).map (·.l)) X) ∧ Hid (Rise L) ∧ Hid (Stb X L) ∧ Hid (wr.ownsRow w.heap.size 74 2 (.slice a L.length c) L.length (pcells L)) ∧ Hid (Below w.heap.size w wr)) (fun _ vi _ => ds.length - (intOf vi).toNat)
  case atStart => exact ⟨0, none, 0, [], [], Nat.zero_le _, rfl, rfl, by simp, Cat.nil f t, List.Pairwise.nil, fun _ => rfl, World.ownsRow_nil _ _ _ _, Below.refl _ _⟩
  case round =>
    obtain ⟨i, a, c, L0, X, hin, rfl, rfl, hXl, HCa, HR0, HS0, HO, HB⟩ := hrel
    by_cases hlt : i < ds.length
    · obtain ⟨b, o, rfl, hbl, c1, c2, c3⟩ := (HS.out.below HB.out).get i hlt
      obtain ⟨hpg, hp64⟩ := (HS.out.below HB.out).pg i hlt
      have HCt : Hid ((ds.take (i + 1)).map (·.l) = (ds.take i).map (·.l) ++ [ds[i].l]) := by
        unfold Hid
        rw [List.take_succ_eq_append_getElem hlt, List.map_append]
        rfl
      generalize hpi : ds[i] = pi at *
      obtain ⟨pid, plsn, pa, pc, pl⟩ := pi
      simp only at c1 c2 c3 hpg hp64 HCt
      have HRp := toHid (refpairs_any pid plsn pa pc pl wr hpg hp64)
      clear hpg
      have z0 : (i : Int) < (ds.length : Int) := by omega
      go_wp2_with fail
      refine Calls.mono HRp.out ?_
      rintro e w2 ⟨aL, cL, Li, rfl, hPm, hSt, hOwn, hb2⟩
      have hLi : Li.length ≤ 64 := by have h1 := hPm.length_eq; have h2 := prs_le pl; omega
      have HPS : Hid (PS pl Li) := ⟨hPm, hSt⟩
      have HQ := toHid (slQ_of_own hOwn)
      have HB2 := toHid (HB.out.trans (hb2.mono HB.out.size))
      have HO2 := toHid (ownsRow_below HO.out hb2 (fun k hk => ownsRow_lt HO.out k hk))
      have HAp : Hid (∀ j y, (Value.slice a L0.length c).ownBlock = some j → aL = some y → y.block ≠ j) := fun j y hj hy => by
        have h1 := ownsRow_lt HO.out j hj
        have h2 := (World.ownsRow.lt hOwn y.block (by rw [hy]; rfl)).1
        omega
      clear hPm hSt hOwn hb2 HO HB c1 c2 c3 hbl HRp
      go_wp2_with fail
      go_loopw [7, 10] (fun s vk wr => ∃ k : Nat, ∃ a c, ∃ L : List Pq, k ≤ Li.length ∧ vk = .int .i64 k ∧ s = .slice a L.length c ∧ L.length ≤ L0.length + k ∧ Hid (Rise L) ∧ Hid (Stb (X ++ btw f t (Li.take k)) L) ∧ Hid (wr.ownsRow w.heap.size 74 2 (.slice a L.length c) L.length (pcells L)) ∧ Hid (∀ j y, (Value.slice a L.length c).ownBlock = some j → aL = some y → y.block ≠ j) ∧ Hid (SlQ wr aL Li) ∧ Hid (Below w.heap.size w wr)) (fun _ vk _ => Li.length - (intOf vk).toNat)
      case atStart => exact ⟨0, a, c, L0, Nat.zero_le _, rfl, rfl, by omega, HR0, by simpa [btw, Hid] using HS0, HO2, HAp, HQ, HB2⟩
      case round =>
        clear HQ HB2 HO2 HAp
        obtain ⟨k, a3, c3, L, hkn, rfl, rfl, hYl, HRi, HSb, HO, HAp, HQ, HB⟩ := hrel
        by_cases hlk : k < Li.length
        · obtain ⟨b', o', rfl, hbl, c1, c2⟩ := HQ.out.at k hlk
          have HT := toHid (btw_take f t Li k hlk)
          generalize hx : Li[k] = x at *
          have hsw := HB.out.size
          have z1 : (k : Int) < (Li.length : Int) := by omega
          have HFk : Hid (Op.bytesLess (txt x.1).toList (txt f).toList = decide (x.1 < f)) := by unfold Hid; rw [toList_txt, toList_txt, bytesLess_eq]
          have HTk : Hid ((!Op.bytesLess (txt x.1).toList (txt t).toList && !(txt x.1).toList == (txt t).toList) = decide (t < x.1)) := gtr_of x.1 t
          obtain ⟨p1, hp1⟩ : ∃ p1, Op.bytesLess (txt x.1).toList (txt f).toList = p1 := ⟨_, rfl⟩
          obtain ⟨q1, hq1⟩ : ∃ q1, (!Op.bytesLess (txt x.1).toList (txt t).toList && !(txt x.1).toList == (txt t).toList) = q1 := ⟨_, rfl⟩
          rw [hp1] at HFk
          rw [hq1] at HTk
          rw [← HFk.out, ← HTk.out] at HT
          cases p1
          case true =>
            simp only [Bool.not_true, Bool.false_and, Bool.false_eq_true, if_false, List.append_nil] at HT
            have HY2 : Hid (Stb (X ++ btw f t (Li.take (k + 1))) L) := by unfold Hid; rw [HT.out]; exact HSb.out
            go_wp2_with fail
            go_roundw
            case rel => exact ⟨k + 1, a3, c3, L, by omega, by simp, rfl, by omega, HRi, HY2, HO, HAp, HQ, HB⟩
            case measure => simp only [intOf]; omega
          case false =>
            cases q1
            case true =>
              simp only [Bool.not_true, Bool.and_false, Bool.false_eq_true, if_false, List.append_nil] at HT
              have HY2 : Hid (Stb (X ++ btw f t (Li.take (k + 1))) L) := by unfold Hid; rw [HT.out]; exact HSb.out
              go_wp2_with fail
              go_roundw
              case rel => exact ⟨k + 1, a3, c3, L, by omega, by simp, rfl, by omega, HRi, HY2, HO, HAp, HQ, HB⟩
              case measure => simp only [intOf]; omega
            case false =>
              simp only [Bool.not_false, Bool.and_self, if_true] at HT
              have hBa := (Below.refl wr.heap.size wr).alloc (Nat.le_refl _) (.cells #[.string (txt x.1), .string (txt x.2)] 74)
              have HO1 := toHid (HO.out.alloc (.cells #[.string (txt x.1), .string (txt x.2)] 74))
              have HBa := toHid hBa
              have hs1 := size_alloc wr (.cells #[.string (txt x.1), .string (txt x.2)] 74)
              have HN2 : Hid (w.heap.size ≤ (wr.alloc (.cells #[.string (txt x.1), .string (txt x.2)] 74)).heap.size) := by unfold Hid; omega
              clear hBa hs1
              go_wp2_with (at_builtin; refine wpList_append_fresh _ rfl _ _ 33 rfl w.heap.size 74 i0 _ 2 32 Tryd.underlying33 hi hz0 hz1 hz2 rfl (by decide) (.slice a3 L.length c3) L.length (pcells L) rfl HO1.out ⟨wr.heap.size, 0, none⟩ 1 1 [.string (txt x.1), .string (txt x.2)] rfl rfl (cells_two (heap_alloc_new _ _)) (by intro u hu; simp at hu; rcases hu with rfl | rfl <;> rfl) (by unfold maxLen; omega) (by omega) HN2.out ?_; intro v' w1 hown hgrow hfr; obtain ⟨a5, c5, rfl⟩ := ownsRow_shape hown)
              obtain ⟨g5, rfl⟩ : ∃ g, a5 = some ⟨g, 0, none⟩ := by
                rcases own_addr hown with ⟨_, e, _⟩ | ⟨g, cur, e, _⟩
                · omega
                · exact ⟨g, e⟩
              have HI0 : Hid (In18 w w.heap.size g5 c5 (some ⟨b', o', none⟩) Li L x L.length w1) := by
                have hq := HQ.out.below HBa.out
                refine ⟨by rw [insP_end, pcells_append]; simpa [pcells, encP] using hown, (HB.out.trans (HBa.out.mono HB.out.size)).grown hgrow HN2.out (fun j hj => (World.ownsRow.lt HO1.out j hj).1), ⟨hq.nonil, fun y hy j u hju => ?_⟩, fun y hy => ?_⟩
                · obtain ⟨s1, s2, s3⟩ := hq.cells y hy j u hju
                  have hlt2 := World.block_lt_of_cell? _ _ s2
                  have hne : some y.block ≠ (Value.slice a3 L.length c3).ownBlock := fun e => HAp.out y.block y e.symm hy rfl
                  have e : ∀ q, w1.cell? ⟨y.block, q, none⟩ = (wr.alloc (.cells #[.string (txt x.1), .string (txt x.2)] 74)).cell? ⟨y.block, q, none⟩ := fun q => World.cell?_of_block (a := ⟨y.block, q, none⟩) (hgrow.block _ hlt2 hne)
                  exact ⟨s1, by rw [e]; exact s2, by rw [e]; exact s3⟩
                · rcases hfr g5 rfl with e | e
                  · exact HAp.out g5 y e hy
                  · have : y.block < wr.heap.size := by cases hy; exact hbl
                    have h9 := size_alloc wr (.cells #[.string (txt x.1), .string (txt x.2)] 74)
                    omega
              clear hown hgrow hfr HBa HO1 HN2 HO HAp HQ HB c1 c2 hp1 hq1 HFk HTk
              go_wp2_with fail
              go_loopw [11] (fun s W => ∃ m : Nat, m ≤ L.length ∧ s = .int .i64 m ∧ In18 w w.heap.size g5 c5 (some ⟨b', o', none⟩) Li L x m W ∧ ∀ y, y ∈ L.drop m → x.1 < y.1) (fun s _ => (intOf s).toNat)
              case atStart => exact ⟨L.length, Nat.le_refl _, rfl, HI0.out, by simp⟩
              case round =>
                clear HI0
                obtain ⟨m, hm, rfl, hin, hd⟩ := hrel
                have HI := toHid hin
                have HD := toHid hd
                clear hin hd
                obtain ⟨b2, o2, he2, _, b0, b1⟩ := HI.out.src.at k hlk
                simp only [Option.some.injEq, Addr.mk.injEq, and_true] at he2
                obtain ⟨rfl, rfl⟩ := he2
                rw [hx] at b0 b1
                by_cases h0 : m = 0
                · subst h0
                  have g1 : ¬ (0 : Int) < ((0 : Nat) : Int) := by omega
                  go_wp2_with fail
                  go_quiet (fail)
                  obtain ⟨W2, hW2⟩ : ∃ W2, W2 = wr.drewN nq := ⟨_, rfl⟩
                  have HI2 := toHid (show In18 w w.heap.size g5 c5 (some ⟨b', o', none⟩) Li L x 0 W2 from hW2 ▸ HI.out.drewN nq)
                  rw [← hW2]
                  clear hW2 b0 b1
                  have HRn := toHid (insP_rise HRi.out (Nat.zero_le _) (fun y _ h => by omega) HD.out)
                  have HFin : Hid (Stb (X ++ btw f t (Li.take (k + 1))) (insP L x 0)) := by unfold Hid; rw [HT.out, ← List.append_assoc]; exact insP_stb HSb.out HD.out
                  go_wp2_with fail
                  go_roundw
                  case rel => exact ⟨k + 1, some ⟨g5, 0, none⟩, c5, insP L x 0, by omega, by first | go_num | simp, by rw [insP_len], by rw [insP_len]; omega, HRn, HFin, by unfold Hid; rw [insP_len]; exact HI2.out.row, toHid (fun j y hj hy => by simp [Value.ownBlock] at hj; subst hj; exact HI2.out.ne y hy), toHid HI2.out.src, toHid HI2.out.bel⟩
                  case measure => simp [intOf]; omega
                · obtain ⟨y, hy⟩ : ∃ y, L[m - 1]? = some y := ⟨_, List.getElem?_eq_getElem (by omega)⟩
                  have HY := toHid hy
                  have HXi := toHid (show (insP L x m)[m - 1]? = some y by rw [show m = (m - 1) + 1 by omega, Nat.add_sub_cancel, insP_prev (by omega)]; rw [← hy, List.getElem?_eq_getElem (by omega)])
                  obtain ⟨s0, s1⟩ := own_at HI.out.row (i := m - 1) (y := y) HXi.out
                  clear hy
                  have hmp : 0 < m := by omega
                  have g3 : decide (0 < m) = true := by simp; omega
                  have i1 : (0 : Int) < (m : Int) := by omega
                  have i2 : 0 ≤ (m : Int) - 1 := by omega
                  have i3 : (m : Int) - 1 < (L.length : Int) + 1 := by omega
                  have i4 : (m : Int) < (L.length : Int) + 1 := by omega
                  have i5 : 0 ≤ (m : Int) := by omega
                  obtain ⟨bb, hbb⟩ : ∃ b, (!Op.bytesLess (txt y.1).toList (txt x.1).toList && !(txt y.1).toList == (txt x.1).toList) = b := ⟨_, rfl⟩
                  have HBB : Hid (bb = decide (x.1 < y.1)) := by show _ = _; rw [← hbb, toList_txt, toList_txt, bytesLess_eq]; exact gt_dec _ _
                  cases bb
                  · have HNl : Hid (¬ x.1 < y.1) := by show ¬ _; have := HBB.out; simpa using this
                    go_wp2_with fail
                    go_quiet (fail)
                    obtain ⟨W2, hW2⟩ : ∃ W2, W2 = wr.drewN nq := ⟨_, rfl⟩
                    have HI2 := toHid (show In18 w w.heap.size g5 c5 (some ⟨b', o', none⟩) Li L x m W2 from hW2 ▸ HI.out.drewN nq)
                    rw [← hW2]
                    clear hW2 b0 b1 s0 s1
                    have HRn := toHid (show Rise (insP L x m) from insP_rise HRi.out hm (fun z hz _ => by rw [HY.out] at hz; injection hz with hz; subst hz; exact HNl.out) HD.out)
                    have HFin : Hid (Stb (X ++ btw f t (Li.take (k + 1))) (insP L x m)) := by unfold Hid; rw [HT.out, ← List.append_assoc]; exact insP_stb HSb.out HD.out
                    go_wp2_with fail
                    go_roundw
                    case rel => exact ⟨k + 1, some ⟨g5, 0, none⟩, c5, insP L x m, by omega, by first | go_num | simp, by rw [insP_len], by rw [insP_len]; omega, HRn, HFin, by unfold Hid; rw [insP_len]; exact HI2.out.row, toHid (fun j y hj hy => by simp [Value.ownBlock] at hj; subst hj; exact HI2.out.ne y hy), toHid HI2.out.src, toHid HI2.out.bel⟩
                    case measure => simp [intOf]; omega
                  · have HLs : Hid (x.1 < y.1) := by show _ < _; have := HBB.out; simpa using this
                    go_wp2_with fail
                    go_quiet (fail)
                    obtain ⟨W2, hW2⟩ : ∃ W2, W2 = wr.drewN nq := ⟨_, rfl⟩
                    have HI2 := toHid (show In18 w w.heap.size g5 c5 (some ⟨b', o', none⟩) Li L x m W2 from hW2 ▸ HI.out.drewN nq)
                    rw [← hW2]
                    clear hW2 b0 b1 s0 s1
                    obtain ⟨s0, s1⟩ := own_at HI2.out.row (i := m - 1) (y := y) HXi.out
                    obtain ⟨t0, t1⟩ := own_at HI2.out.row (i := m) (y := x) (insP_self hm)
                    have f0 := row_free HI2.out.row (m * 2)
                    have f1 := row_free HI2.out.row (m * 2 + 1)
                    have e0 := row_free HI2.out.row ((m - 1) * 2)
                    have e1 := row_free HI2.out.row ((m - 1) * 2 + 1)
                    have HD9 := toHid (show ∀ z, z ∈ L.drop (m - 1) → x.1 < z.1 from fun z hz => by
                      rw [List.drop_eq_getElem_cons (by omega)] at hz
                      rcases List.mem_cons.1 hz with e | hz
                      · have := HY.out
                        rw [List.getElem?_eq_getElem (by omega)] at this
                        injection this with this
                        rw [e, this]
                        exact HLs.out
                      · rw [show m - 1 + 1 = m by omega] at hz
                        exact HD.out z hz)
                    have hwp : IntKind.i64.wrap ((m : Int) - 1) = (m : Int) - 1 := by simp [IntKind.wrap, IntKind.bits, IntKind.signed]; omega
                    have i10 : (1 : Int) ≤ (m : Int) := by omega
                    have htn : ((m : Int) - 1).toNat = m - 1 := by omega
                    go_wp2_with fail
                    refine wp_region_held_drew (S := fun _ => True) (by kernel_rfl) trivial (fun hHeld => ?_)
                    refine wpAnyH_take (i := 0) (v := ?_) rfl (by kernel_rfl) (by kernel_rfl) (by kernel_rfl) (fun _ _ _ h => h) (Or.inl ⟨by rfl, ?_⟩) (by assumption) ?_
                    rotate_left
                    · (intro W hSw; (try dsimp only at hSw); go_simp; (try rw [hwp]); (try rw [if_pos i10]); (try rw [htn]); try with_reducible rfl)
                    try simp only [Act.put, List.getElem_toArray, List.getElem_cons_zero, List.setIfInBounds_toArray, List.set_cons_zero, List.set_cons_succ]
                    refine wpAnyH_take (i := 1) (v := ?_) rfl (by kernel_rfl) (by kernel_rfl) (by kernel_rfl) (fun _ _ _ h => h) (Or.inl ⟨by rfl, ?_⟩) (by assumption) ?_
                    rotate_left
                    · (intro W hSw; (try dsimp only at hSw); go_simp; (try rw [hwp]); (try rw [if_pos i10]); (try rw [htn]); try with_reducible rfl)
                    try simp only [Act.put, List.getElem_toArray, List.getElem_cons_zero, List.getElem_cons_succ, List.setIfInBounds_toArray, List.set_cons_zero, List.set_cons_succ]
                    refine wpAnyH_take (i := 2) (v := ?_) rfl (by kernel_rfl) (by kernel_rfl) (by kernel_rfl) (fun _ _ _ h => h) (Or.inl ⟨by rfl, ?_⟩) (by assumption) ?_
                    rotate_left
                    · (intro W hSw; (try dsimp only at hSw); go_simp; (try rw [hwp]); (try rw [if_pos i10]); (try rw [htn]); try with_reducible rfl)
                    try simp only [Act.put, List.getElem_toArray, List.getElem_cons_zero, List.getElem_cons_succ, List.setIfInBounds_toArray, List.set_cons_zero, List.set_cons_succ]
                    refine wpAnyH_take (i := 3) (v := ?_) rfl (by kernel_rfl) (by kernel_rfl) (by kernel_rfl) (fun _ _ _ h => h) (Or.inl ⟨by rfl, ?_⟩) (by assumption) ?_
                    rotate_left
                    · (intro W hSw; (try dsimp only at hSw); go_simp; (try rw [hwp]); (try rw [if_pos i10]); (try rw [htn]); try with_reducible rfl)
                    try simp only [Act.put, List.getElem_toArray, List.getElem_cons_zero, List.getElem_cons_succ, List.setIfInBounds_toArray, List.set_cons_zero, List.set_cons_succ]
                    refine wpAnyH_take (i := 4) (v := ?_) rfl (by kernel_rfl) (by kernel_rfl) (by kernel_rfl) (fun _ _ _ h => h) (Or.inl ⟨by rfl, ?_⟩) (by assumption) ?_
                    rotate_left
                    · (intro W hSw; (try dsimp only at hSw); go_simp; (try rw [hwp]); (try rw [if_pos i10]); (try rw [htn]); try with_reducible rfl)
                    try simp only [Act.put, List.getElem_toArray, List.getElem_cons_zero, List.getElem_cons_succ, List.setIfInBounds_toArray, List.set_cons_zero, List.set_cons_succ]
                    refine wpAnyH_take (i := 5) (v := ?_) rfl (by kernel_rfl) (by kernel_rfl) (by kernel_rfl) (fun _ _ _ h => h) (Or.inl ⟨by rfl, ?_⟩) (by assumption) ?_
                    rotate_left
                    · (intro W hSw; (try dsimp only at hSw); go_simp; (try rw [hwp]); (try rw [if_pos i10]); (try rw [htn]); try with_reducible rfl)
                    try simp only [Act.put, List.getElem_toArray, List.getElem_cons_zero, List.getElem_cons_succ, List.setIfInBounds_toArray, List.set_cons_zero, List.set_cons_succ]
                    refine wpAnyH_take (i := 6) (v := ?_) rfl (by kernel_rfl) (by kernel_rfl) (by kernel_rfl) (fun _ _ _ h => h) (Or.inl ⟨by rfl, ?_⟩) (by assumption) ?_
                    rotate_left
                    · (intro W hSw; (try dsimp only at hSw); go_simp; (try rw [hwp]); (try rw [if_pos i10]); (try rw [htn]); try with_reducible rfl)
                    try simp only [Act.put, List.getElem_toArray, List.getElem_cons_zero, List.getElem_cons_succ, List.setIfInBounds_toArray, List.set_cons_zero, List.set_cons_succ]
                    refine wpAnyH_take (i := 7) (v := ?_) rfl (by kernel_rfl) (by kernel_rfl) (by kernel_rfl) (fun _ _ _ h => h) (Or.inl ⟨by rfl, ?_⟩) (by assumption) ?_
                    rotate_left
                    · (intro W hSw; (try dsimp only at hSw); go_simp; (try rw [hwp]); (try rw [if_pos i10]); (try rw [htn]); try with_reducible rfl)
                    try simp only [Act.put, List.getElem_toArray, List.getElem_cons_zero, List.getElem_cons_succ, List.setIfInBounds_toArray, List.set_cons_zero, List.set_cons_succ]
                    refine wpAnyH_take (i := 8) (v := ?_) rfl (by kernel_rfl) (by kernel_rfl) (by kernel_rfl) (fun _ _ _ h => h) (Or.inl ⟨by rfl, ?_⟩) (by assumption) ?_
                    rotate_left
                    · (intro W hSw; (try dsimp only at hSw); go_simp; (try rw [hwp]); (try rw [if_pos i10]); (try rw [htn]); try with_reducible rfl)
                    try simp only [Act.put, List.getElem_toArray, List.getElem_cons_zero, List.getElem_cons_succ, List.setIfInBounds_toArray, List.set_cons_zero, List.set_cons_succ]
                    refine wpAnyH_take (i := 10) (v := ?_) rfl (by kernel_rfl) (by kernel_rfl) (by kernel_rfl) (fun _ _ _ h => h) (Or.inl ⟨by rfl, ?_⟩) (by assumption) ?_
                    rotate_left
                    · (intro W hSw; (try dsimp only at hSw); go_simp; (try rw [hwp]); (try rw [if_pos i10]); (try rw [htn]); try with_reducible rfl)
                    try simp only [Act.put, List.getElem_toArray, List.getElem_cons_zero, List.getElem_cons_succ, List.setIfInBounds_toArray, List.set_cons_zero, List.set_cons_succ]
                    refine wpAnyH_take (i := 11) (v := ?_) rfl (by kernel_rfl) (by kernel_rfl) (by kernel_rfl) (fun _ _ _ h => h) (Or.inl ⟨by rfl, ?_⟩) (by assumption) ?_
                    rotate_left
                    · (intro W hSw; (try dsimp only at hSw); go_simp; (try rw [hwp]); (try rw [if_pos i10]); (try rw [htn]); try with_reducible rfl)
                    try simp only [Act.put, List.getElem_toArray, List.getElem_cons_zero, List.getElem_cons_succ, List.setIfInBounds_toArray, List.set_cons_zero, List.set_cons_succ]
                    refine wpAnyH_take (i := 12) (v := ?_) rfl (by kernel_rfl) (by kernel_rfl) (by kernel_rfl) (fun _ _ _ h => h) (Or.inl ⟨by rfl, ?_⟩) (by assumption) ?_
                    rotate_left
                    · (intro W hSw; (try dsimp only at hSw); go_simp; (try rw [hwp]); (try rw [if_pos i10]); (try rw [htn]); try with_reducible rfl)
                    try simp only [Act.put, List.getElem_toArray, List.getElem_cons_zero, List.getElem_cons_succ, List.setIfInBounds_toArray, List.set_cons_zero, List.set_cons_succ]
                    refine wpAnyH_ready (rs := [9, 13]) (by kernel_rfl) (by simp) ?_
                    refine AllReadyH.cons rfl (fun K hK => ?_) (AllReadyH.cons rfl (fun K hK => ?_) AllReadyH.nil)
                    · skip
                      go_simp
                      try go_wp2_with fail
                      refine hK.out _ _ trivial (fun hHeld => ?_)
                      clear hK K
                      try simp only [Act.put, List.getElem_toArray, List.getElem_cons_zero, List.getElem_cons_succ, List.setIfInBounds_toArray, List.set_cons_zero, List.set_cons_succ]
                      refine wpAnyH_ready (rs := [13]) (by kernel_rfl) (by simp) ?_
                      refine AllReadyH.cons rfl (fun K hK => ?_) AllReadyH.nil
                      go_simp
                      try go_wp2_with fail
                      refine hK.out _ _ trivial (fun hHeld => ?_)
                      clear hK K
                      try simp only [Act.put, List.getElem_toArray, List.getElem_cons_zero, List.getElem_cons_succ, List.setIfInBounds_toArray, List.set_cons_zero, List.set_cons_succ]
                      refine wpAnyH_take (i := 14) (v := ?_) rfl (by kernel_rfl) (by kernel_rfl) (by kernel_rfl) (fun _ _ _ h => h) (Or.inl ⟨by rfl, ?_⟩) (by assumption) ?_
                      rotate_left
                      · (intro W hSw; (try dsimp only at hSw); go_simp; (try rw [hwp]); (try rw [if_pos i10]); (try rw [htn]); try with_reducible rfl)
                      try simp only [Act.put, List.getElem_toArray, List.getElem_cons_zero, List.getElem_cons_succ, List.setIfInBounds_toArray, List.set_cons_zero, List.set_cons_succ]
                      refine wpAnyH_ready (rs := [15]) (by kernel_rfl) (by simp) ?_
                      refine AllReadyH.cons rfl (fun K hK => ?_) AllReadyH.nil
                      go_simp
                      try go_wp2_with fail
                      refine hK.out _ _ trivial (fun hHeld => ?_)
                      clear hK K
                      try simp only [Act.put, List.getElem_toArray, List.getElem_cons_zero, List.getElem_cons_succ, List.setIfInBounds_toArray, List.set_cons_zero, List.set_cons_succ]
                      clear s0 s1 t0 t1 f0 f1 e0 e1
                      obtain ⟨W3, hW3⟩ : ∃ W3, (W2.setCell ⟨g5, m * 2, none⟩ (.string (txt y.1))).setCell ⟨g5, m * 2 + 1, none⟩ (.string (txt y.2)) = W3 := ⟨_, rfl⟩
                      rw [hW3]
                      have HW3 := toHid hW3
                      have HS3 := toHid (show W3.ownsRow w.heap.size 74 2 (.slice (some ⟨g5, 0, none⟩) (L.length + 1) c5) (L.length + 1) (pcells ((insP L x m).set m y)) by subst hW3; exact own_setP HI2.out.row (by rw [insP_len]; omega) y)
                      clear hW3
                      obtain ⟨s0, s1⟩ := own_at HS3.out (i := m - 1) (y := y) (by rw [List.getElem?_set_ne (by omega)]; exact HXi.out)
                      have f0 := row_free HS3.out ((m - 1) * 2)
                      have f1 := row_free HS3.out ((m - 1) * 2 + 1)
                      refine wpAnyH_take (i := 16) (v := ?_) rfl (by kernel_rfl) (by kernel_rfl) (by kernel_rfl) (fun _ _ _ h => h) (Or.inl ⟨by rfl, ?_⟩) (by assumption) ?_
                      rotate_left
                      · (intro W hSw; (try dsimp only at hSw); go_simp; (try rw [hwp]); (try rw [if_pos i10]); (try rw [htn]); try with_reducible rfl)
                      try simp only [Act.put, List.getElem_toArray, List.getElem_cons_zero, List.getElem_cons_succ, List.setIfInBounds_toArray, List.set_cons_zero, List.set_cons_succ]
                      refine wpAnyH_ready (rs := [17]) (by kernel_rfl) (by simp) ?_
                      refine AllReadyH.cons rfl (fun K hK => ?_) AllReadyH.nil
                      go_simp
                      try go_wp2_with fail
                      refine hK.out _ _ trivial (fun hHeld => ?_)
                      clear hK K
                      try simp only [Act.put, List.getElem_toArray, List.getElem_cons_zero, List.getElem_cons_succ, List.setIfInBounds_toArray, List.set_cons_zero, List.set_cons_succ]
                      refine wpAnyH_done (by kernel_rfl) ?_ _
                      clear hHeld
                      have HI9 := toHid (show In18 w w.heap.size g5 c5 (some ⟨b', o', none⟩) Li L x (m - 1) ((W3.setCell ⟨g5, (m - 1) * 2, none⟩ (.string (txt x.1))).setCell ⟨g5, (m - 1) * 2 + 1, none⟩ (.string (txt x.2))) by have h := HW3.out; subst h; exact In18.swap hmp hm HI2.out HY.out)
                      go_wp2_with fail
                      go_roundw
                      case rel => exact ⟨m - 1, by omega, by first | go_num | (congr 1; omega), HI9.out.drew, HD9.out⟩
                      case measure => simp [intOf]; omega
                    · skip
                      go_simp
                      try go_wp2_with fail
                      refine hK.out _ _ trivial (fun hHeld => ?_)
                      clear hK K
                      try simp only [Act.put, List.getElem_toArray, List.getElem_cons_zero, List.getElem_cons_succ, List.setIfInBounds_toArray, List.set_cons_zero, List.set_cons_succ]
                      refine wpAnyH_ready (rs := [9]) (by kernel_rfl) (by simp) ?_
                      refine AllReadyH.cons rfl (fun K hK => ?_) AllReadyH.nil
                      go_simp
                      try go_wp2_with fail
                      refine hK.out _ _ trivial (fun hHeld => ?_)
                      clear hK K
                      try simp only [Act.put, List.getElem_toArray, List.getElem_cons_zero, List.getElem_cons_succ, List.setIfInBounds_toArray, List.set_cons_zero, List.set_cons_succ]
                      refine wpAnyH_take (i := 14) (v := ?_) rfl (by kernel_rfl) (by kernel_rfl) (by kernel_rfl) (fun _ _ _ h => h) (Or.inl ⟨by rfl, ?_⟩) (by assumption) ?_
                      rotate_left
                      · (intro W hSw; (try dsimp only at hSw); go_simp; (try rw [hwp]); (try rw [if_pos i10]); (try rw [htn]); try with_reducible rfl)
                      try simp only [Act.put, List.getElem_toArray, List.getElem_cons_zero, List.getElem_cons_succ, List.setIfInBounds_toArray, List.set_cons_zero, List.set_cons_succ]
                      refine wpAnyH_ready (rs := [15]) (by kernel_rfl) (by simp) ?_
                      refine AllReadyH.cons rfl (fun K hK => ?_) AllReadyH.nil
                      go_simp
                      try go_wp2_with fail
                      refine hK.out _ _ trivial (fun hHeld => ?_)
                      clear hK K
                      try simp only [Act.put, List.getElem_toArray, List.getElem_cons_zero, List.getElem_cons_succ, List.setIfInBounds_toArray, List.set_cons_zero, List.set_cons_succ]
                      clear s0 s1 t0 t1 f0 f1 e0 e1
                      obtain ⟨W3, hW3⟩ : ∃ W3, (W2.setCell ⟨g5, m * 2, none⟩ (.string (txt y.1))).setCell ⟨g5, m * 2 + 1, none⟩ (.string (txt y.2)) = W3 := ⟨_, rfl⟩
                      rw [hW3]
                      have HW3 := toHid hW3
                      have HS3 := toHid (show W3.ownsRow w.heap.size 74 2 (.slice (some ⟨g5, 0, none⟩) (L.length + 1) c5) (L.length + 1) (pcells ((insP L x m).set m y)) by subst hW3; exact own_setP HI2.out.row (by rw [insP_len]; omega) y)
                      clear hW3
                      obtain ⟨s0, s1⟩ := own_at HS3.out (i := m - 1) (y := y) (by rw [List.getElem?_set_ne (by omega)]; exact HXi.out)
                      have f0 := row_free HS3.out ((m - 1) * 2)
                      have f1 := row_free HS3.out ((m - 1) * 2 + 1)
                      refine wpAnyH_take (i := 16) (v := ?_) rfl (by kernel_rfl) (by kernel_rfl) (by kernel_rfl) (fun _ _ _ h => h) (Or.inl ⟨by rfl, ?_⟩) (by assumption) ?_
                      rotate_left
                      · (intro W hSw; (try dsimp only at hSw); go_simp; (try rw [hwp]); (try rw [if_pos i10]); (try rw [htn]); try with_reducible rfl)
                      try simp only [Act.put, List.getElem_toArray, List.getElem_cons_zero, List.getElem_cons_succ, List.setIfInBounds_toArray, List.set_cons_zero, List.set_cons_succ]
                      refine wpAnyH_ready (rs := [17]) (by kernel_rfl) (by simp) ?_
                      refine AllReadyH.cons rfl (fun K hK => ?_) AllReadyH.nil
                      go_simp
                      try go_wp2_with fail
                      refine hK.out _ _ trivial (fun hHeld => ?_)
                      clear hK K
                      try simp only [Act.put, List.getElem_toArray, List.getElem_cons_zero, List.getElem_cons_succ, List.setIfInBounds_toArray, List.set_cons_zero, List.set_cons_succ]
                      refine wpAnyH_done (by kernel_rfl) ?_ _
                      clear hHeld
                      have HI9 := toHid (show In18 w w.heap.size g5 c5 (some ⟨b', o', none⟩) Li L x (m - 1) ((W3.setCell ⟨g5, (m - 1) * 2, none⟩ (.string (txt x.1))).setCell ⟨g5, (m - 1) * 2 + 1, none⟩ (.string (txt x.2))) by have h := HW3.out; subst h; exact In18.swap hmp hm HI2.out HY.out)
                      go_wp2_with fail
                      go_roundw
                      case rel => exact ⟨m - 1, by omega, by first | go_num | (congr 1; omega), HI9.out.drew, HD9.out⟩
                      case measure => simp [intOf]; omega
        · obtain rfl : k = Li.length := by omega
          have HCn : Hid (Cat f t ((ds.take (i + 1)).map (·.l)) (X ++ btw f t Li)) := by
            unfold Hid
            rw [HCt.out]
            exact HCa.out.snoc HPS.out
          have HSn : Hid (Stb (X ++ btw f t Li) L) := by have := HSb.out; rwa [List.take_length] at this
          go_wp2_with fail
          go_roundw
          case rel => exact ⟨i + 1, a3, c3, L, X ++ btw f t Li, by omega, by simp, rfl, by omega, HCn, HRi, HSn, HO, HB⟩
          case measure => simp only [intOf]; omega
    · obtain rfl : i = ds.length := by omega
      have HC2 : Hid (Cat f t (ds.map (·.l)) X) := by have := HCa.out; rwa [List.take_length] at this
      go_wp2_with fail
      go_ret
      exact ⟨a, c, L0, X, rfl, HC2.out, HR0.out, HS0.out, by omega, HO.out, HB.out⟩
end Go.Proofs.YtebchgoaelamcaaDoor

namespace Go.Proofs.YtebchgoaelamcaaDoor
open Go.RowKit
set_option maxRecDepth 100000

theorem Tryd.info34 : (Tryd.prog.info? 34).map (fun i => (i.zero, i.size, i.bytes)) = some (some (.pointer none), 1, 8) := by kernel_rfl
/-- A page, and the document's beside it. -/
structure Eo where
  p : Nat
  v : Value
  l : List Cl
  a : Option Addr
  c : Nat
/-- What lies behind the two rows rp and rd. -/
structure Ko (W : World) (rp rd : Value) (es : List Eo) : Prop where
  pg : ∀ e ∈ es, (∃ B, PgOk W B e.p 0 0 e.v e.l) ∧ GoodL e.l
  sl : ∀ e ∈ es, SlC W e.a e.l
  sep : ∀ e ∈ es, ∀ y, e.a = some y → e.l ≠ [] → rp.ownBlock ≠ some y.block ∧ rd.ownBlock ≠ some y.block
theorem Ko.below {W W' : World} {rp rd : Value} {es : List Eo} (h : Ko W rp rd es) (hb : Below W.heap.size W W') : Ko W' rp rd es :=
  ⟨fun e he => by
    obtain ⟨⟨B, hp⟩, hg⟩ := h.pg e he
    exact ⟨⟨B, hp.below hb (Nat.le_refl _)⟩, hg⟩, fun e he => (h.sl e he).below hb, h.sep⟩
theorem SlC.lt {W : World} {a : Option Addr} {l : List Cl} (h : SlC W a l) (y : Addr) (hy : a = some y) (hl : l ≠ []) : y.block < W.heap.size := by
  obtain ⟨t, r, rfl⟩ := List.exists_cons_of_ne_nil hl
  have h1 := (h.cells y hy 0 t rfl).2.1
  have h2 := World.block_lt_of_cell? _ _ h1
  exact h2
theorem SlC.same {W W' : World} {a : Option Addr} {l : List Cl} (h : SlC W a l) (hs : ∀ y, a = some y → l ≠ [] → W'.heap[y.block]? = W.heap[y.block]?) : SlC W' a l :=
  ⟨h.nonil, fun x hx i t hti => by
    obtain ⟨h0, h1, h2, h3⟩ := h.cells x hx i t hti
    have hb := hs x hx (by rintro rfl; simp at hti)
    have e : ∀ q, W'.cell? ⟨x.block, q, none⟩ = W.cell? ⟨x.block, q, none⟩ := fun q => World.cell?_of_block (a := ⟨x.block, q, none⟩) hb
    exact ⟨h0, by rw [e]; exact h1, by rw [e]; exact h2, by rw [e]; exact h3⟩⟩
theorem pg_grown {W W' : World} {B p : Nat} {v : Value} {l : List Cl} (hp : PgOk W B p 0 0 v l) {row : Option Nat} (hg : W.grownBy W' row) {t : TypeId} (h1 : t ≠ 88) (h2 : t ≠ 55) (ht : ∀ k, row = some k → ∃ cur, W.heap[k]? = some (.cells cur t (0, 0))) : PgOk W' B p 0 0 v l := by
  refine hp.same (hg.block _ (lt_of_blk hp.blk) (fun e => ?_)) (fun k hk => hg.block _ (ownsRow_lt hp.own k hk) (fun e => ?_))
  · obtain ⟨cur, hc⟩ := ht _ e.symm
    rw [hp.blk] at hc
    injection hc with hc
    injection hc with _ hc _
    exact h1 hc.symm
  · obtain ⟨cur, hc⟩ := ht _ e.symm
    obtain ⟨cur', hc'⟩ := own_kind hp.own k hk
    rw [hc'] at hc
    injection hc with hc
    injection hc with _ hc _
    exact h2 hc.symm
/-- The row of pages grows. -/
theorem Ko.growP {W W' : World} {rp rd rp' : Value} {es : List Eo} (h : Ko W rp rd es) (hg : W.grownBy W' rp.ownBlock) (hf : Fresh W rp rp') (ht : ∀ k, rp.ownBlock = some k → ∃ cur, W.heap[k]? = some (.cells cur 34 (0, 0))) : Ko W' rp' rd es :=
  ⟨fun e he => by
    obtain ⟨⟨B, hp⟩, hgd⟩ := h.pg e he
    exact ⟨⟨B, pg_grown hp hg (by decide) (by decide) ht⟩, hgd⟩,
   fun e he => (h.sl e he).same fun y hy hl => hg.block _ ((h.sl e he).lt y hy hl) (fun e1 => (h.sep e he y hy hl).1 e1.symm),
   fun e he y hy hl => ⟨fun e1 => by
    rcases hf y.block e1 with e2 | e2
    · exact (h.sep e he y hy hl).1 e2
    · have := (h.sl e he).lt y hy hl
      omega, (h.sep e he y hy hl).2⟩⟩
/-- The row of the document's pages grows. -/
theorem Ko.growD {W W' : World} {rp rd rd' : Value} {es : List Eo} (h : Ko W rp rd es) (hg : W.grownBy W' rd.ownBlock) (hf : Fresh W rd rd') (ht : ∀ k, rd.ownBlock = some k → ∃ cur, W.heap[k]? = some (.cells cur 39 (0, 0))) : Ko W' rp rd' es :=
  ⟨fun e he => by
    obtain ⟨⟨B, hp⟩, hgd⟩ := h.pg e he
    exact ⟨⟨B, pg_grown hp hg (by decide) (by decide) ht⟩, hgd⟩,
   fun e he => (h.sl e he).same fun y hy hl => hg.block _ ((h.sl e he).lt y hy hl) (fun e1 => (h.sep e he y hy hl).2 e1.symm),
   fun e he y hy hl => ⟨(h.sep e he y hy hl).1, fun e1 => by
    rcases hf y.block e1 with e2 | e2
    · exact (h.sep e he y hy hl).2 e2
    · have := (h.sl e he).lt y hy hl
      omega⟩⟩
/-- A new page, and the document's. -/
theorem Ko.snoc {W W' : World} {rp rd : Value} {es : List Eo} (h : Ko W rp rd es) (hb : Below W.heap.size W W') {n q : Nat} (hn : W.heap.size ≤ q) {p : Nat} {L : List Cl} {v : Value} {a : Option Addr} {c : Nat} (hp : PairOk W' n p q 0 L v a c)
    (h1 : ∀ k, rp.ownBlock = some k → k < W.heap.size) (h2 : ∀ k, rd.ownBlock = some k → k < W.heap.size) : Ko W' rp rd (es ++ [⟨p, v, L, a, c⟩]) := by
  have hk := h.below hb
  refine ⟨fun e he => ?_, fun e he => ?_, fun e he y hy hl => ?_⟩ <;> rcases List.mem_append.1 he with he | he
  · exact hk.pg e he
  · simp at he
    subst he
    exact ⟨⟨_, hp.pg⟩, hp.good⟩
  · exact hk.sl e he
  · simp at he
    subst he
    exact hp.sl
  · exact hk.sep e he y hy hl
  · simp at he
    subst he
    have := (hp.sep y hy hl).2.2
    refine ⟨fun e => ?_, fun e => ?_⟩
    · have := h1 _ e
      omega
    · have := h2 _ e
      omega
/-- A row keeps, where a row of another kind grows. -/
theorem own_apart {W W' : World} {B B' : Nat} {t t' : TypeId} {s s' n n' : Nat} {v v' : Value} {xs xs' : List Value} (h : W.ownsRow B t s v n xs) (h' : W.ownsRow B' t' s' v' n' xs') (hne : t ≠ t') (hg : W.grownBy W' v'.ownBlock) : W'.ownsRow B t s v n xs :=
  own_same h fun k hk => hg.block _ (ownsRow_lt h k hk) (fun e => by
    obtain ⟨cur, hc⟩ := own_kind h k hk
    obtain ⟨cur', hc'⟩ := own_kind h' k e.symm
    rw [hc] at hc'
    injection hc' with hc'
    injection hc' with _ hc' _
    exact hne hc')
/-- The pages' row with nil between, and what a range takes of it. -/
def withNil (es : List Eo) : List (Option Addr × List Cl) := es.flatMap fun e => [(some ⟨e.p, 0, none⟩, e.l), (none, [])]
def docs (es : List Eo) : List Dp := es.map fun e => ⟨0, 0, e.a, e.c, e.l⟩
theorem All.cons' {l : List Cl} {ls : List (List Cl)} {U : List Pq} (h : All (l :: ls) U) : ∃ L U', PS l L ∧ All ls U' ∧ U = L ++ U' := by
  obtain ⟨Ls, h1, h2, rfl⟩ := h
  cases Ls with
  | nil => simp at h1
  | cons L Ls => exact ⟨L, Ls.flatten, h2 0 (by simp) (by simp), ⟨Ls, by simpa using h1, fun i a b => h2 (i + 1) (by simp; omega) (by simp; omega), rfl⟩, by simp⟩
theorem All.cons {l : List Cl} {ls : List (List Cl)} {L U : List Pq} (h : PS l L) (h' : All ls U) : All (l :: ls) (L ++ U) := by
  obtain ⟨Ls, h1, h2, rfl⟩ := h'
  refine ⟨L :: Ls, by simp [h1], fun i a b => ?_, by simp⟩
  cases i with
  | zero => exact h
  | succ i => exact h2 i (by simpa using a) (by simpa using b)
theorem all_nils : ∀ (es : List Eo) (U : List Pq), All ((withNil es).map (·.2)) U → All (es.map (·.l)) U
  | [], _, h => h
  | e :: es, U, h => by
    have e1 : (withNil (e :: es)).map (·.2) = e.l :: [] :: (withNil es).map (·.2) := by simp [withNil]
    rw [e1] at h
    obtain ⟨L, U1, p1, h1, rfl⟩ := h.cons'
    obtain ⟨L2, U2, p2, h2, rfl⟩ := h1.cons'
    have e2 : L2 = [] := by
      have := p2.1.length_eq
      simp [prsL] at this
      exact this
    subst e2
    exact All.cons p1 (all_nils es U2 h2)
theorem same_range {es : List Eo} {L M X Y : List Pq} {f t : List UInt8} (hg : ∀ e ∈ es, GoodL e.l) (h1 : Cat f t ((withNil es).map (·.2)) X) (h2 : Rise L) (h3 : Stb X L) (h4 : Cat f t ((docs es).map (·.l)) Y) (h5 : Rise M) (h6 : Stb Y M) : L = M := by
  obtain ⟨U, hU, rfl⟩ := h1.all
  obtain ⟨V, hV, rfl⟩ := h4.all
  have e1 : (docs es).map (·.l) = es.map (·.l) := by simp [docs]
  rw [e1] at hV
  obtain rfl := All.uniq (fun l hl => by obtain ⟨e, he, rfl⟩ := List.mem_map.1 hl; exact hg e he) (all_nils es U hU) hV
  exact stb_uniq L M (fun k => (h3 k).symm.trans (h6 k)) h2 h5
/-- A cell of a row of one's own. -/
theorem own_cell {W : World} {B : Nat} {t : TypeId} {s n c : Nat} {a : Option Addr} {xs : List Value} (h : W.ownsRow B t s (.slice a n c) n xs) (h0 : 0 < n) : ∃ b, a = some ⟨b, 0, none⟩ ∧ b < W.heap.size ∧ ∀ j u, xs[j]? = some u → W.cell? ⟨b, j, none⟩ = some u := by
  rcases h.2 with ⟨h1, h2⟩ | ⟨g, cap, cur, h1, hB, hh, hc, hm, hs, ht⟩
  · omega
  · injection h1 with e1 e2 e3
    refine ⟨g, e1, lt_of_blk hh, fun j u hj => ?_⟩
    refine cell_of hh j ?_
    rw [← ht, List.getElem?_take] at hj
    split at hj
    · simpa using hj
    · cases hj
def ptr2 (es : List Eo) : List Value := (withNil es).map fun x => .pointer x.1
def docC (es : List Eo) : List Value := es.flatMap fun e => [.int .i64 0, .int .u64 ((0 : Nat) : Int), .slice e.a e.l.length e.c]
theorem withNil_len (es : List Eo) : (withNil es).length = es.length * 2 := by
  induction es with
  | nil => rfl
  | cons e es ih => simp [withNil] at *; omega
theorem withNil_mem {es : List Eo} {x : Option Addr × List Cl} (h : x ∈ withNil es) : x = (none, []) ∨ ∃ e ∈ es, x = (some ⟨e.p, 0, none⟩, e.l) := by
  unfold withNil at h
  obtain ⟨e, he, hx⟩ := List.mem_flatMap.1 h
  simp at hx
  rcases hx with hx | hx
  · exact .inr ⟨e, he, hx⟩
  · exact .inl hx
theorem Ko.slG {W : World} {B n c : Nat} {a : Option Addr} {rd : Value} {es : List Eo} (h : Ko W (.slice a n c) rd es) (hr : W.ownsRow B 34 1 (.slice a n c) n (ptr2 es)) (hn : n = es.length * 2) : SlG W a (withNil es) := by
  have hl := withNil_len es
  refine ⟨fun i hi => ?_, fun i hi => ?_⟩
  · obtain ⟨b, e, hb, hc⟩ := own_cell hr (by omega)
    refine ⟨b, 0, e, hb, ?_⟩
    rw [Nat.zero_add]
    exact hc i _ (by simp [ptr2, hi])
  · rcases withNil_mem (List.getElem_mem hi) with e | ⟨e, he, e1⟩
    · rw [e]
      exact .inl ⟨rfl, rfl⟩
    · rw [e1]
      obtain ⟨⟨B', hp⟩, hg⟩ := h.pg e he
      exact .inr ⟨B', e.p, 0, 0, e.v, rfl, hp, hg⟩
theorem docC_at : ∀ (es : List Eo) (i : Nat) (hi : i < es.length), (docC es)[i * 3]? = some (.int .i64 0) ∧ (docC es)[i * 3 + 1]? = some (.int .u64 ((0 : Nat) : Int)) ∧ (docC es)[i * 3 + 2]? = some (.slice es[i].a es[i].l.length es[i].c)
  | e :: es, 0, _ => by simp [docC]
  | e :: es, i + 1, hi => by
    have := docC_at es i (by simpa using hi)
    have e1 : ∀ r, (docC (e :: es))[(i + 1) * 3 + r]? = (docC es)[i * 3 + r]? := fun r => by
      have : docC (e :: es) = [.int .i64 0, .int .u64 ((0 : Nat) : Int), .slice e.a e.l.length e.c] ++ docC es := by simp [docC]
      rw [this, List.getElem?_append_right (by simp; omega)]
      congr 1
      simp
      omega
    have e0 := e1 0
    simp only [Nat.add_zero] at e0
    rw [e0, e1, e1]
    simpa using this
theorem Ko.slD {W : World} {B n c : Nat} {a : Option Addr} {rp : Value} {es : List Eo} (h : Ko W rp (.slice a n c) es) (hr : W.ownsRow B 39 3 (.slice a n c) n (docC es)) (hn : n = es.length) : SlD W a (docs es) := by
  have hl : (docs es).length = es.length := by simp [docs]
  refine ⟨fun i hi => ?_, fun i hi => ?_⟩
  · obtain ⟨b, e, hb, hc⟩ := own_cell hr (by omega)
    obtain ⟨d0, d1, d2⟩ := docC_at es i (by omega)
    refine ⟨b, 0, e, hb, ?_, ?_, ?_⟩
    · rw [Nat.zero_add]
      simpa [docs] using hc _ _ d0
    · rw [Nat.zero_add]
      simpa [docs] using hc _ _ d1
    · rw [Nat.zero_add]
      simpa [docs] using hc _ _ d2
  · have he : es[i]'(by omega) ∈ es := List.getElem_mem _
    have e1 : (docs es)[i].a = (es[i]'(by omega)).a ∧ (docs es)[i].l = (es[i]'(by omega)).l := by simp [docs]
    rw [e1.1, e1.2]
    exact ⟨h.sl _ he, (h.pg _ he).2.few⟩
end Go.Proofs.YtebchgoaelamcaaDoor

namespace Go.Proofs.YtebchgoaelamcaaDoor
open Go.RowKit
set_option maxRecDepth 100000

theorem Tryd.info39 : (Tryd.prog.info? 39).map (fun i => (i.zero, i.size, i.bytes)) = some (some (.agg #[.int .i64 0, .int .u64 0, .slice none 0 0]), 3, 40) := by kernel_rfl
theorem new_at (w : World) (xs : Array Value) (t : TypeId) (b : Nat) (hb : b = w.heap.size) : ∀ j u, xs.toList[j]? = some u → (w.alloc (.cells xs t)).cell? ((⟨b, 0, none⟩ : Addr).add j) = some u := by
  subst hb
  intro j u hj
  have e : (⟨w.heap.size, 0, none⟩ : Addr).add j = ⟨w.heap.size, j, none⟩ := by simp [Addr.add]; omega
  rw [e]
  exact cell_of (heap_alloc_new w _) j (by simpa using hj)

set_option maxHeartbeats 16000000 in
theorem ranges_walk (a0 : Option Addr) (c0 : Nat) (l0 : List PL) (s1 s2 : ByteArray) (w : World) (hs0 : SlL w a0 l0) (hl0 : l0.length ≤ maxLen) (ht : Tb w) :
    Calls Tryd.prog 6 #[.slice a0 l0.length c0, .string s1, .string s2] w fun e w' => e = .returned (.bool true) ∧ Below w.heap.size w w' := by
  obtain ⟨x1, rfl⟩ : ∃ x, s1 = txt x := ⟨s1.data.toList, (txt_of s1).symm⟩
  obtain ⟨x2, rfl⟩ : ∃ x, s2 = txt x := ⟨s2.data.toList, (txt_of s2).symm⟩
  obtain ⟨i0, hi, hz0, hz1, hz2⟩ := info_parts Tryd.info34
  obtain ⟨k0, hk, hy0, hy1, hy2⟩ := info_parts Tryd.info39
  have HL := toHid hs0
  have HLv : Hid (∀ W, Below w.heap.size w W → Calls Tryd.prog 10 #[] W fun e w' => e = .returned (.bool true) ∧ Below w.heap.size w w') := fun W hW => by
    refine Calls.mono (lives_any W (ht.below hW)) ?_
    rintro e w' ⟨rfl, b⟩
    exact ⟨rfl, hW.trans (b.mono hW.size)⟩
  unfold maxLen at hl0
  clear hs0 ht
  go_enter Tryd.func6, Tryd.ntmps6
  go_wp2_with fail
  go_loopw [7, 8, 9] (fun s d vi wr => ∃ i : Nat, ∃ a c a2 c2, i ≤ l0.length ∧ i ≤ 20 ∧ vi = .int .i64 i ∧ s = .slice a (i * 2) c ∧ d = .slice a2 i c2 ∧ Hid (∃ es : List Eo, es.length = i ∧ Ko wr (.slice a (i * 2) c) (.slice a2 i c2) es ∧ wr.ownsRow w.heap.size 34 1 (.slice a (i * 2) c) (i * 2) (ptr2 es) ∧ wr.ownsRow w.heap.size 39 3 (.slice a2 i c2) i (docC es)) ∧ Hid (Below w.heap.size w wr)) (fun _ _ vi _ => l0.length - (intOf vi).toNat)
  case atStart => exact ⟨0, none, 0, none, 0, Nat.zero_le _, Nat.zero_le _, rfl, rfl, rfl, ⟨[], rfl, ⟨fun e h => by simp at h, fun e h => by simp at h, fun e h => by simp at h⟩, World.ownsRow_nil _ _ _ _, World.ownsRow_nil _ _ _ _⟩, Below.refl _ _⟩
  case round =>
    obtain ⟨i, a, c, a2, c2, hil, hi20, rfl, rfl, rfl, HE, HB⟩ := hrel
    by_cases hlt : i < l0.length
    · by_cases h20 : i < 20
      · obtain ⟨b, o, rfl, hbl, d0⟩ := (HL.out.on HB.out).at i hlt
        obtain ⟨hsp, hsl⟩ := (HL.out.on HB.out).each l0[i] (List.getElem_mem hlt)
        have HPr := toHid (pair_any l0[i].a l0[i].c l0[i].l wr hsp hsl)
        generalize l0[i] = pl at *
        obtain ⟨pa, pc, pl⟩ := pl
        simp only at d0 HPr hsl
        have z0 : (i : Int) < (l0.length : Int) := by omega
        have z1 : (i : Int) < 20 := by omega
        have hsw := HB.out.size
        go_wp2_with fail
        refine Calls.mono HPr.out ?_
        rintro e w1 ⟨L0, v0, a', c', rfl, hp1, hb1⟩
        obtain ⟨es, hes, hko, hrp, hrd⟩ := HE.out
        have hkn := hko.snoc hb1 (Nat.le_add_right _ 2) hp1 (fun k hk => ownsRow_lt hrp k hk) (fun k hk => ownsRow_lt hrd k hk)
        have hrp1 := ownsRow_below hrp hb1 (fun k hk => ownsRow_lt hrp k hk)
        have hrd1 := ownsRow_below hrd hb1 (fun k hk => ownsRow_lt hrd k hk)
        have hB1 := HB.out.trans (hb1.mono HB.out.size)
        have hs1 := hb1.size
        clear hp1 hb1 hko hrp hrd HE HB HPr hbl d0 hsp
        obtain ⟨pz, hpz⟩ : ∃ pz, pz = wr.heap.size + 1 := ⟨_, rfl⟩
        rw [← hpz] at hkn ⊢
        clear hpz
        simp only [refP]
        have hsA := size_alloc w1 (.cells #[.int .i64 0, .int .u64 ((0 : Nat) : Int), .slice a' L0.length c'] 39)
        have hsB := size_alloc (w1.alloc (.cells #[.int .i64 0, .int .u64 ((0 : Nat) : Int), .slice a' L0.length c'] 39)) (.cells #[.pointer (some ⟨pz, 0, none⟩), .pointer none] 34)
        have hbA : Below w1.heap.size w1 ((w1.alloc (.cells #[.int .i64 0, .int .u64 ((0 : Nat) : Int), .slice a' L0.length c'] 39)).alloc (.cells #[.pointer (some ⟨pz, 0, none⟩), .pointer none] 34)) := ((Below.refl _ _).alloc (Nat.le_refl _) _).alloc (by omega) _
        have HK2 := toHid (hkn.below hbA)
        have HP2 := toHid (ownsRow_below hrp1 hbA (fun k hk => ownsRow_lt hrp1 k hk))
        have HD2 := toHid (ownsRow_below hrd1 hbA (fun k hk => ownsRow_lt hrd1 k hk))
        have HB2 := toHid (hB1.trans (hbA.mono hB1.size))
        have HX2 : Hid (((w1.alloc (.cells #[.int .i64 0, .int .u64 ((0 : Nat) : Int), .slice a' L0.length c'] 39)).alloc (.cells #[.pointer (some ⟨pz, 0, none⟩), .pointer none] 34)).heap[w1.heap.size]? = some (.cells #[.int .i64 0, .int .u64 ((0 : Nat) : Int), .slice a' L0.length c'] 39)) := heap_alloc2_old w1 _ _
        have HN2 : Hid (w.heap.size ≤ ((w1.alloc (.cells #[.int .i64 0, .int .u64 ((0 : Nat) : Int), .slice a' L0.length c'] 39)).alloc (.cells #[.pointer (some ⟨pz, 0, none⟩), .pointer none] 34)).heap.size) := by unfold Hid; omega
        have HRl := toHid (fun k hk => ownsRow_lt hrp1 k hk)
        have HAt := toHid (new_at (w1.alloc (.cells #[.int .i64 0, .int .u64 ((0 : Nat) : Int), .slice a' L0.length c'] 39)) #[.pointer (some ⟨pz, 0, none⟩), .pointer none] 34 (w1.heap.size + 1) (by rw [World.alloc, Array.size_push]))
        have HSz : Hid (w1.heap.size < ((w1.alloc (.cells #[.int .i64 0, .int .u64 ((0 : Nat) : Int), .slice a' L0.length c'] 39)).alloc (.cells #[.pointer (some ⟨pz, 0, none⟩), .pointer none] 34)).heap.size) := by unfold Hid; omega
        have HEs := toHid hes
        clear hkn hrp1 hrd1 hB1 hbA hsA hsB hes
        go_wp2_with (at_builtin; first
          | (refine wpList_append_fresh _ rfl _ _ 65 rfl w.heap.size 34 i0 _ 1 8 Tryd.underlying65 hi hz0 hz1 hz2 rfl (by decide) (.slice a (i * 2) c) (i * 2) (ptr2 es) rfl HP2.out ⟨w1.heap.size + 1, 0, none⟩ 2 2 [.pointer (some ⟨pz, 0, none⟩), .pointer none] rfl rfl HAt.out (by intro u hu; simp at hu; rcases hu with rfl | rfl <;> rfl) (by unfold maxLen; omega) (by omega) HN2.out ?_; intro v' w3 hown hgrow hfr; obtain ⟨a5, c5, rfl⟩ := ownsRow_shape hown; have HK3 := toHid (HK2.out.growP hgrow hfr (fun k hk => own_kind HP2.out k hk)); have HP3 := toHid hown; have HD3 := toHid (own_apart HD2.out HP2.out (by decide) hgrow); have HB3 := toHid (HB2.out.grown hgrow HN2.out (fun k hk => (World.ownsRow.lt HP2.out k hk).1)); have hx3 : w3.heap[w1.heap.size]? = some (.cells #[.int .i64 0, .int .u64 ((0 : Nat) : Int), .slice a' L0.length c'] 39) := (hgrow.block _ HSz.out (fun e => by have := HRl.out w1.heap.size e.symm; omega)).trans HX2.out; obtain ⟨r0, r1, r2, _⟩ := cell3 hx3; have hbD := (Below.refl w3.heap.size w3).alloc (Nat.le_refl _) (.cells #[.int .i64 0, .int .u64 ((0 : Nat) : Int), .slice a' L0.length c'] 39); have HK4 := toHid (HK3.out.below hbD); have HP4 := toHid (ownsRow_below HP3.out hbD (fun k hk => ownsRow_lt HP3.out k hk)); have HD4 := toHid (ownsRow_below HD3.out hbD (fun k hk => ownsRow_lt HD3.out k hk)); have HB4 := toHid (HB3.out.trans (hbD.mono HB3.out.size)); have HN4 := toHid HB4.out.size; have HAt4 := toHid (new_at w3 #[.int .i64 0, .int .u64 ((0 : Nat) : Int), .slice a' L0.length c'] 39 w3.heap.size rfl); clear hown hgrow hfr hx3 hbD)
          | (refine wpList_append_fresh _ rfl _ _ 66 rfl w.heap.size 39 k0 _ 3 40 Tryd.underlying66 hk hy0 hy1 hy2 rfl (by decide) (.slice a2 i c2) i (docC es) rfl HD4.out ⟨w3.heap.size, 0, none⟩ 1 1 [.int .i64 0, .int .u64 ((0 : Nat) : Int), .slice a' L0.length c'] rfl rfl HAt4.out (by intro u hu; simp at hu; rcases hu with rfl | rfl | rfl <;> rfl) (by unfold maxLen; omega) (by omega) HN4.out ?_; intro v' w5 hown hgrow hfr; obtain ⟨a6, c6, rfl⟩ := ownsRow_shape hown; have HK5 := toHid (HK4.out.growD hgrow hfr (fun k hk => own_kind HD4.out k hk)); have HD5 := toHid hown; have HP5 := toHid (own_apart HP4.out HD4.out (by decide) hgrow); have HB5 := toHid (HB4.out.grown hgrow HN4.out (fun k hk => (World.ownsRow.lt HD4.out k hk).1)); clear hown hgrow hfr))
        have HE5 : Hid (∃ es : List Eo, es.length = i + 1 ∧ Ko w5 (.slice a5 ((i + 1) * 2) c5) (.slice a6 (i + 1) c6) es ∧ w5.ownsRow w.heap.size 34 1 (.slice a5 ((i + 1) * 2) c5) ((i + 1) * 2) (ptr2 es) ∧ w5.ownsRow w.heap.size 39 3 (.slice a6 (i + 1) c6) (i + 1) (docC es)) := by
          refine ⟨es ++ [⟨pz, v0, L0, a', c'⟩], by simp [HEs.out], by rw [Nat.succ_mul]; exact HK5.out, ?_, ?_⟩
          · have e1 : ptr2 (es ++ [⟨pz, v0, L0, a', c'⟩]) = ptr2 es ++ [.pointer (some ⟨pz, 0, none⟩), .pointer none] := by simp [ptr2, withNil]
            rw [e1, Nat.succ_mul]
            exact HP5.out
          · have e1 : docC (es ++ [⟨pz, v0, L0, a', c'⟩]) = docC es ++ [.int .i64 0, .int .u64 ((0 : Nat) : Int), .slice a' L0.length c'] := by simp [docC]
            rw [e1]
            exact HD5.out
        refine ⟨?rel, ?measure⟩
        case rel => exact ⟨i + 1, a5, c5, a6, c6, by omega, by omega, by simp, by first | rfl | simp [Nat.succ_mul], by first | rfl | simp, HE5, HB5⟩
        case measure => first | omega | (simp only [intOf]; omega) | (simp [intOf]; omega)
      · have z20 : ¬ (i : Int) < 20 := by omega
        have z0 : (i : Int) < (l0.length : Int) := by omega
        obtain ⟨es, hes, hko, hrp, hrd⟩ := HE.out
        have HRg : Hid (∀ W, Below wr.heap.size wr W → Calls Tryd.prog 28 #[.slice a (i * 2) c, .string (txt x1), .string (txt x2)] W fun e w' => ∃ aL cL, ∃ L X : List Pq, e = .returned (.slice aL L.length cL) ∧ Cat x1 x2 ((withNil es).map (·.2)) X ∧ Rise L ∧ Stb X L ∧ L.length ≤ 64 * 40 ∧ SlQ w' aL L ∧ Below W.heap.size W w') := fun W hW => by
          have hr := ownsRow_below hrp hW (fun k hk => ownsRow_lt hrp k hk)
          have h := range_any a c (withNil es) x1 x2 W ((hko.below hW).slG hr (by omega)) (by rw [withNil_len]; omega)
          rw [withNil_len, hes] at h
          refine Calls.mono h ?_
          rintro e w' ⟨aL, cL, L, X, rfl, h1, h2, h3, h4, h5, h6⟩
          exact ⟨aL, cL, L, X, rfl, h1, h2, h3, by omega, slQ_of_own h5, h6⟩
        have HRd : Hid (∀ W, Below wr.heap.size wr W → Calls Tryd.prog 29 #[.slice a2 i c2, .string (txt x1), .string (txt x2)] W fun e w' => ∃ aL cL, ∃ L X : List Pq, e = .returned (.slice aL L.length cL) ∧ Cat x1 x2 ((docs es).map (·.l)) X ∧ Rise L ∧ Stb X L ∧ L.length ≤ 64 * 40 ∧ SlQ w' aL L ∧ Below W.heap.size W w') := fun W hW => by
          have hr := ownsRow_below hrd hW (fun k hk => ownsRow_lt hrd k hk)
          have hdl : (docs es).length = i := by simp [docs, hes]
          have h := refrange_any a2 c2 (docs es) x1 x2 W ((hko.below hW).slD hr (by omega)) (by omega)
          rw [hdl] at h
          refine Calls.mono h ?_
          rintro e w' ⟨aL, cL, L, X, rfl, h1, h2, h3, h4, h5, h6⟩
          exact ⟨aL, cL, L, X, rfl, h1, h2, h3, by omega, slQ_of_own h5, h6⟩
        have HGd := toHid (fun e he => (hko.pg e he).2)
        clear hko hrp hrd HE hes
        by_cases hsum : 2000 < RowKit.wrap64 (((txt x1).size : Int) + ((txt x2).size : Int))
        · go_wp2_with fail
          refine Calls.mono (HLv.out _ HB.out) ?_
          rintro e wz ⟨rfl, bz⟩
          have BZ := toHid bz
          clear bz
          go_wp2_with fail
          go_ret
          exact ⟨rfl, BZ.out⟩
        · go_wp2_with fail
          refine Calls.mono (HRg.out _ (Below.refl _ _)) ?_
          rintro e wa ⟨aL, cL, L, X, rfl, g1, g2, g3, g4, g5, g6⟩
          have G := toHid (And.intro g1 (And.intro g2 g3))
          have G5 := toHid g5
          have G6 := toHid g6
          clear g1 g2 g3 g5 g6
          go_wp2_with fail
          refine Calls.mono (HRd.out _ G6.out) ?_
          rintro e wb ⟨aM, cM, M, Y, rfl, m1, m2, m3, m4, m5, m6⟩
          have HLM : Hid (L = M) := same_range HGd.out G.out.1 G.out.2.1 G.out.2.2 m1 m2 m3
          have M5 := toHid m5
          have Q5 := toHid (G5.out.below m6)
          have B6 := toHid (HB.out.trans ((G6.out.trans (m6.mono G6.out.size)).mono HB.out.size))
          clear m1 m2 m3 m5 m6
          go_wp2_with fail
          refine Calls.mono (samepairs_any aL cL L aM cM M _ Q5.out M5.out (by omega) (by omega)) ?_
          rintro e w3 ⟨rfl, b3⟩
          have HB3 := toHid (B6.out.trans (b3.mono B6.out.size))
          clear b3
          rw [decide_eq_true HLM.out]
          go_wp2_with fail
          refine Calls.mono (HLv.out _ HB3.out) ?_
          rintro e wz ⟨rfl, bz⟩
          have BZ := toHid bz
          clear bz
          go_wp2_with fail
          go_ret
          exact ⟨rfl, BZ.out⟩
    · have z0 : ¬ (i : Int) < (l0.length : Int) := by omega
      obtain ⟨es, hes, hko, hrp, hrd⟩ := HE.out
      have HRg : Hid (∀ W, Below wr.heap.size wr W → Calls Tryd.prog 28 #[.slice a (i * 2) c, .string (txt x1), .string (txt x2)] W fun e w' => ∃ aL cL, ∃ L X : List Pq, e = .returned (.slice aL L.length cL) ∧ Cat x1 x2 ((withNil es).map (·.2)) X ∧ Rise L ∧ Stb X L ∧ L.length ≤ 64 * 40 ∧ SlQ w' aL L ∧ Below W.heap.size W w') := fun W hW => by
        have hr := ownsRow_below hrp hW (fun k hk => ownsRow_lt hrp k hk)
        have h := range_any a c (withNil es) x1 x2 W ((hko.below hW).slG hr (by omega)) (by rw [withNil_len]; omega)
        rw [withNil_len, hes] at h
        refine Calls.mono h ?_
        rintro e w' ⟨aL, cL, L, X, rfl, h1, h2, h3, h4, h5, h6⟩
        exact ⟨aL, cL, L, X, rfl, h1, h2, h3, by omega, slQ_of_own h5, h6⟩
      have HRd : Hid (∀ W, Below wr.heap.size wr W → Calls Tryd.prog 29 #[.slice a2 i c2, .string (txt x1), .string (txt x2)] W fun e w' => ∃ aL cL, ∃ L X : List Pq, e = .returned (.slice aL L.length cL) ∧ Cat x1 x2 ((docs es).map (·.l)) X ∧ Rise L ∧ Stb X L ∧ L.length ≤ 64 * 40 ∧ SlQ w' aL L ∧ Below W.heap.size W w') := fun W hW => by
        have hr := ownsRow_below hrd hW (fun k hk => ownsRow_lt hrd k hk)
        have hdl : (docs es).length = i := by simp [docs, hes]
        have h := refrange_any a2 c2 (docs es) x1 x2 W ((hko.below hW).slD hr (by omega)) (by omega)
        rw [hdl] at h
        refine Calls.mono h ?_
        rintro e w' ⟨aL, cL, L, X, rfl, h1, h2, h3, h4, h5, h6⟩
        exact ⟨aL, cL, L, X, rfl, h1, h2, h3, by omega, slQ_of_own h5, h6⟩
      have HGd := toHid (fun e he => (hko.pg e he).2)
      clear hko hrp hrd HE hes
      by_cases hsum : 2000 < RowKit.wrap64 (((txt x1).size : Int) + ((txt x2).size : Int))
      · go_wp2_with fail
        refine Calls.mono (HLv.out _ HB.out) ?_
        rintro e wz ⟨rfl, bz⟩
        have BZ := toHid bz
        clear bz
        go_wp2_with fail
        go_ret
        exact ⟨rfl, BZ.out⟩
      · go_wp2_with fail
        refine Calls.mono (HRg.out _ (Below.refl _ _)) ?_
        rintro e wa ⟨aL, cL, L, X, rfl, g1, g2, g3, g4, g5, g6⟩
        have G := toHid (And.intro g1 (And.intro g2 g3))
        have G5 := toHid g5
        have G6 := toHid g6
        clear g1 g2 g3 g5 g6
        go_wp2_with fail
        refine Calls.mono (HRd.out _ G6.out) ?_
        rintro e wb ⟨aM, cM, M, Y, rfl, m1, m2, m3, m4, m5, m6⟩
        have HLM : Hid (L = M) := same_range HGd.out G.out.1 G.out.2.1 G.out.2.2 m1 m2 m3
        have M5 := toHid m5
        have Q5 := toHid (G5.out.below m6)
        have B6 := toHid (HB.out.trans ((G6.out.trans (m6.mono G6.out.size)).mono HB.out.size))
        clear m1 m2 m3 m5 m6
        go_wp2_with fail
        refine Calls.mono (samepairs_any aL cL L aM cM M _ Q5.out M5.out (by omega) (by omega)) ?_
        rintro e w3 ⟨rfl, b3⟩
        have HB3 := toHid (B6.out.trans (b3.mono B6.out.size))
        clear b3
        rw [decide_eq_true HLM.out]
        go_wp2_with fail
        refine Calls.mono (HLv.out _ HB3.out) ?_
        rintro e wz ⟨rfl, bz⟩
        have BZ := toHid bz
        clear bz
        go_wp2_with fail
        go_ret
        exact ⟨rfl, BZ.out⟩
end Go.Proofs.YtebchgoaelamcaaDoor

