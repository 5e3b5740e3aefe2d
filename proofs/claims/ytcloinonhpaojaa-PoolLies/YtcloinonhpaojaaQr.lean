/-
  Pages and Dirty of a pool.
-/
import Derived.Test.YtcloinonhpaojaaQl
namespace Go.Proofs.Ytcloinonhpaojaa
open Go.RowKit

theorem info3 : (Try.prog.info? 3).map (fun i => (i.zero, i.size, i.bytes)) = some (some (.int .i64 0), 1, 8) := by kernel_rfl
theorem info66 : (Try.prog.info? 66).map (fun i => (i.zero, i.size, i.bytes)) = some (some (.agg #[.int .i64 0, .int .u64 0]), 2, 16) := by kernel_rfl

/-- Numbers as cells; dirty pages as cells. -/
def ints (xs : List Nat) : List Value := xs.map fun (j : Nat) => Value.int .i64 (j : Int)
def drs (ys : List (Nat × Nat)) : List Value := ys.flatMap fun y => [.int .i64 (y.1 : Int), .int .u64 (y.2 : Int)]
theorem ints_len (xs : List Nat) : (ints xs).length = xs.length := by simp [ints]
theorem drs_len (ys : List (Nat × Nat)) : (drs ys).length = ys.length * 2 := by
  induction ys with
  | nil => rfl
  | cons y l ih => simp [drs] at *; omega
theorem ints_snoc (xs : List Nat) (j : Nat) : ints (xs ++ [j]) = ints xs ++ [.int .i64 (j : Int)] := by simp [ints]
theorem drs_snoc (ys : List (Nat × Nat)) (y : Nat × Nat) : drs (ys ++ [y]) = drs ys ++ [.int .i64 (y.1 : Int), .int .u64 (y.2 : Int)] := by simp [drs]
theorem one_cell (w : World) (v : Value) (t : TypeId) : ∀ j u, [v][j]? = some u → (w.alloc (.cells #[v] t)).cell? ((⟨w.heap.size, 0, none⟩ : Addr).add j) = some u := by
  intro j u hu
  rw [addr_add]
  obtain ⟨q0, _⟩ := cell1 (heap_alloc_new w (.cells #[v] t))
  match j, hu with
  | 0, hu => simp at hu; subst hu; exact q0
theorem own_up {w w' : World} {B e k n : Nat} {v : Value} {xs : List Value} (h : w.ownsRow B e k v n xs) (hb : Below w.heap.size w w') : w'.ownsRow B e k v n xs :=
  own_kept h fun q hq => by
    obtain ⟨c, fz, hc⟩ := Lib.ownsRow_kind h q hq
    exact hb.block q (blk_lt hc)
theorem below_up {B : Nat} {w wr w1 : World} {o : Obj} {v : Value} {e k n : Nat} {xs : List Value} (hb : Below B w wr) (hB : B ≤ w.heap.size) (ho : wr.ownsRow B e k v n xs) (hg : (wr.alloc o).grownBy w1 v.ownBlock) : Below B w w1 :=
  (hb.alloc (by have := hb.size; omega) o).grown hg (by have := hb.size; simp; omega) (fun j hj => (ho.lt j hj).1)

/-- The pages that are there. -/
structure Pgs (s : Po) (k : Nat) (xs : List Nat) : Prop where
  mem : ∀ j : Nat, j ∈ xs ↔ j < k ∧ here s.r (j : Int)
  len : xs.length ≤ k

open Classical in
set_option maxRecDepth 20000 in
set_option maxHeartbeats 2000000 in
theorem pages_any (p : Nat) (st : Value) (s : Po) (w : World) (h : PoIn w p st s) : Calls Try.prog 17 #[.pointer (some ⟨p, 0, none⟩)] w fun e w' => ∃ a c xs, e = .returned (.slice a xs.length c) ∧ w'.ownsRow w.heap.size 3 1 (.slice a xs.length c) xs.length (ints xs) ∧ Pgs s 16 xs ∧ Below w.heap.size w w' := by
  obtain ⟨i0, hi, hz0, hz1, hz2⟩ := info_parts info3
  have HH := toHid h
  clear h
  go_enter Try.func17, Try.ntmps17
  go_wp2_with fail
  go_loopw [5, 3] (fun v5 v3 wr => ∃ (k : Nat) (xs : List Nat), k ≤ 16 ∧ v5 = .int .i64 (k : Int) ∧ wr.ownsRow w.heap.size 3 1 v3 xs.length (ints xs) ∧ Pgs s k xs ∧ Below w.heap.size w wr) (fun v _ _ => 16 - (intOf v).toNat)
  case atStart => exact ⟨0, [], by decide, rfl, World.ownsRow_nil _ _ _ _, ⟨fun j => by simp, by simp⟩, Below.refl _ _⟩
  case round =>
    obtain ⟨k, xs, hk, rfl, hown, hpg, hb⟩ := hrel
    obtain ⟨a, c, rfl⟩ := ownsRow_shape hown
    have HO := toHid hown
    have HP := toHid hpg
    have HB := toHid hb
    have hxl := hpg.len
    clear hown hpg hb
    by_cases hlt : k < 16
    · have kd : decide ((k : Int) < 16) = true := by simp; omega
      by_cases hx : here s.r (k : Int)
      · go_wp2_with fail
        refine Calls.mono (has_yes p st s k wr (HH.out.below HB.out) hlt hx) ?_
        rintro e w1 ⟨rfl, hb1⟩
        have HO1 := toHid (own_up HO.out hb1)
        have HB1 := toHid (HB.out.trans (hb1.mono HB.out.size))
        clear hb1
        go_wp2_with (at_builtin; go_must (refine wpList_append_own _ rfl _ _ 63 rfl w.heap.size 3 i0 _ 1 8 Try.underlying63 hi hz0 hz1 hz2 rfl (by decide) (.slice a xs.length c) xs.length (ints xs) rfl (HO1.out.alloc _) ⟨w1.heap.size, 0, none⟩ 1 1 [.int .i64 (k : Int)] rfl rfl (one_cell _ _ _) (by intro u hu; simp at hu; subst hu; rfl) (by unfold maxLen; omega) (by omega) (by have := HB1.out.size; simp; omega) ?_; intro v' w2 hown hgrow _; have HO2 := toHid hown; have HB2 := toHid (below_up HB1.out (Nat.le_refl _) HO1.out hgrow); clear hown hgrow))
        go_roundw
        case rel =>
          refine ⟨k + 1, xs ++ [k], by omega, by simp, ?_, ⟨fun j => ?_, by simp; omega⟩, HB2.out⟩
          · rw [ints_snoc]; simpa using HO2.out
          · rw [List.mem_append, HP.out.mem]
            simp
            constructor
            · rintro (⟨h1, h2⟩ | rfl)
              · exact ⟨by omega, h2⟩
              · exact ⟨by omega, hx⟩
            · rintro ⟨h1, h2⟩
              by_cases e : j = k
              · exact .inr e
              · exact .inl ⟨by omega, h2⟩
        case measure => first | omega | (simp only [intOf]; omega)
      · go_wp2_with fail
        refine Calls.mono (has_no p st s (k : Int) wr (HH.out.below HB.out) (fun y => hx y.2.2)) ?_
        rintro e w1 ⟨rfl, hb1⟩
        have HO1 := toHid (own_up HO.out hb1)
        have HB1 := toHid (HB.out.trans (hb1.mono HB.out.size))
        clear hb1
        go_wp2_with fail
        go_roundw
        case rel =>
          refine ⟨k + 1, xs, by omega, by simp, HO1.out, ⟨fun j => ?_, by omega⟩, HB1.out⟩
          rw [HP.out.mem]
          constructor
          · rintro ⟨h1, h2⟩; exact ⟨by omega, h2⟩
          · rintro ⟨h1, h2⟩
            refine ⟨?_, h2⟩
            by_cases e : j = k
            · subst e; exact absurd h2 hx
            · omega
        case measure => first | omega | (simp only [intOf]; omega)
    · have kd : decide ((k : Int) < 16) = false := by simp; omega
      go_wp2
      go_ret
      have e : k = 16 := by omega
      subst e
      exact ⟨a, c, xs, rfl, HO.out, HP.out, HB.out⟩

theorem two_cells (w : World) (a b : Value) (t : TypeId) (g : Nat) (hg : g = w.heap.size) : ∀ j u, [a, b][j]? = some u → (w.alloc (.cells #[a, b] t)).cell? ((⟨g, 0, none⟩ : Addr).add j) = some u := by
  intro j u hu
  subst hg
  rw [addr_add]
  obtain ⟨q0, q1, _⟩ := Ck.cell2 (heap_alloc_new w (.cells #[a, b] t))
  match j, hu with
  | 0, hu => simp at hu; subst hu; exact q0
  | 1, hu => simp at hu; subst hu; exact q1

theorem own_int {w : World} {B : Nat} {a : Option Addr} {c : Nat} {xs : List Nat} (h : w.ownsRow B 3 1 (.slice a xs.length c) xs.length (ints xs)) (k : Nat) (hk : k < xs.length) : ∃ g, a = some ⟨g, 0, none⟩ ∧ g < w.heap.size ∧ w.cell? ⟨g, k, none⟩ = some (.int .i64 (xs[k] : Int)) := by
  rcases h.2 with ⟨e, e2⟩ | ⟨g, cap, cur, e, hb, hg, _⟩
  · omega
  · simp at e
    obtain ⟨rfl, rfl⟩ := e
    refine ⟨g, rfl, blk_lt hg, ?_⟩
    have := h.cells (g := g) rfl k (.int .i64 (xs[k] : Int)) (by simp [ints, hk])
    rwa [addr_add] at this
theorem drs_at (ys : List (Nat × Nat)) : ∀ (k : Nat) (hk : k < ys.length), (drs ys)[k * 2]? = some (.int .i64 (ys[k].1 : Int)) := by
  induction ys with
  | nil => intro k hk; simp at hk
  | cons y l ih =>
    intro k hk
    have e : drs (y :: l) = [.int .i64 (y.1 : Int), .int .u64 (y.2 : Int)] ++ drs l := rfl
    cases k with
    | zero => simp [e]
    | succ k =>
      rw [e, show (k + 1) * 2 = k * 2 + 2 by omega]
      simpa using ih k (by simpa using hk)
theorem own_dr {w : World} {B : Nat} {a : Option Addr} {c : Nat} {ys : List (Nat × Nat)} (h : w.ownsRow B 66 2 (.slice a ys.length c) ys.length (drs ys)) (k : Nat) (hk : k < ys.length) : ∃ g, a = some ⟨g, 0, none⟩ ∧ g < w.heap.size ∧ w.cell? ⟨g, k * 2, none⟩ = some (.int .i64 (ys[k].1 : Int)) := by
  rcases h.2 with ⟨e, e2⟩ | ⟨g, cap, cur, e, hb, hg, _⟩
  · omega
  · simp at e
    obtain ⟨rfl, rfl⟩ := e
    refine ⟨g, rfl, blk_lt hg, ?_⟩
    have := h.cells (g := g) rfl (k * 2) _ (drs_at ys k hk)
    rwa [addr_add] at this

/-- The dirty pages among the first of those that are there. -/
structure Drs (s : Po) (xs : List Nat) (ys : List (Nat × Nat)) : Prop where
  mem : ∀ j : Nat, (∃ r, (j, r) ∈ ys) ↔ j ∈ xs ∧ s.D j = true
  len : ys.length ≤ xs.length

set_option maxRecDepth 20000 in
set_option maxHeartbeats 2000000 in
theorem dirty_any (p : Nat) (st : Value) (s : Po) (w : World) (h : PoIn w p st s) : Calls Try.prog 16 #[.pointer (some ⟨p, 0, none⟩)] w fun e w' => ∃ a c xs ys, e = .returned (.slice a ys.length c) ∧ w'.ownsRow w.heap.size 66 2 (.slice a ys.length c) ys.length (drs ys) ∧ Pgs s 16 xs ∧ Drs s xs ys ∧ Below w.heap.size w w' := by
  obtain ⟨i0, hi, hz0, hz1, hz2⟩ := info_parts info66
  have HPa := toHid (pages_any p st s w h)
  have HH := toHid h
  clear h
  go_enter Try.func16, Try.ntmps16
  go_wp2_with fail
  refine Calls.mono HPa.out ?_
  rintro e w1 ⟨a, c, xs, rfl, hown, hpg, hb⟩
  have HX := toHid hown
  have HP := toHid hpg
  have HB0 := toHid hb
  have hx16 := hpg.len
  clear hown hpg hb HPa
  go_wp2_with fail
  go_loopw [10, 3] (fun v10 v3 wr => ∃ (k : Nat) (ys : List (Nat × Nat)), k ≤ xs.length ∧ v10 = .int .i64 (k : Int) ∧ wr.ownsRow w1.heap.size 66 2 v3 ys.length (drs ys) ∧ Drs s (xs.take k) ys ∧ Below w1.heap.size w1 wr) (fun v _ _ => xs.length - (intOf v).toNat)
  case atStart => exact ⟨0, [], by simp, rfl, World.ownsRow_nil _ _ _ _, ⟨fun j => by simp, by simp⟩, Below.refl _ _⟩
  case round =>
    obtain ⟨k, ys, hk, rfl, hown, hdr, hb⟩ := hrel
    obtain ⟨da, dc, rfl⟩ := ownsRow_shape hown
    have HO := toHid hown
    have HD := toHid hdr
    have HB := toHid hb
    have hyl := hdr.len
    rw [List.length_take, Nat.min_eq_left hk] at hyl
    clear hown hdr hb
    by_cases hlt : k < xs.length
    · have kd : decide ((k : Int) < (xs.length : Int)) = true := by simp; omega
      obtain ⟨g, rfl, hgl, hg0⟩ := own_int (own_up HX.out HB.out) k hlt
      have hmem := (HP.out.mem xs[k]).1 (List.getElem_mem hlt)
      have HT : Hid (xs.take (k + 1) = xs.take k ++ [xs[k]]) := by show _ = _; rw [List.take_add_one, List.getElem?_eq_getElem hlt]; rfl
      generalize xs[k] = j at hg0 hmem HT
      obtain ⟨hj, hh⟩ := hmem
      have hpo := HH.out.below (HB0.out.trans (HB.out.mono HB0.out.size))
      obtain ⟨d0, d1, d2, -, -, -⟩ := hpo.held j hj
      have hpl := hpo.lt
      have hne : p ≠ wr.heap.size := by omega
      clear hpo
      cases hD : s.D j
      · rw [hD] at d1
        have HB2 := toHid (HB.out.alloc HB.out.size (.cells #[.pointer (s.P j), .bool false, .int .u64 (s.R j : Int)] 88))
        have HO2 := toHid (HO.out.alloc (.cells #[.pointer (s.P j), .bool false, .int .u64 (s.R j : Int)] 88))
        go_wp2_with fail
        go_roundw
        case rel =>
          refine ⟨k + 1, ys, by omega, by simp, HO2.out, ⟨fun x => ?_, by simp; omega⟩, HB2.out⟩
          rw [HD.out.mem, HT.out, List.mem_append]
          simp
          intro h1 h2
          subst h2
          rw [hD] at h1
          simp at h1
        case measure => first | omega | (simp only [intOf]; omega)
      · rw [hD] at d1
        have HB2 := toHid (HB.out.alloc HB.out.size (.cells #[.pointer (s.P j), .bool true, .int .u64 (s.R j : Int)] 88))
        have HO2 := toHid (HO.out.alloc (.cells #[.pointer (s.P j), .bool true, .int .u64 (s.R j : Int)] 88))
        go_wp2_with (at_builtin; go_must (refine wpList_append_own _ rfl _ _ 61 rfl w1.heap.size 66 i0 _ 2 16 Try.underlying61 hi hz0 hz1 hz2 rfl (by decide) (.slice da ys.length dc) ys.length (drs ys) rfl (HO2.out.alloc _) ⟨wr.heap.size + 1, 0, none⟩ 1 1 [.int .i64 (j : Int), .int .u64 (s.R j : Int)] rfl rfl (two_cells _ _ _ _ _ (by simp)) (by intro u hu; simp at hu; rcases hu with rfl | rfl <;> rfl) (by unfold maxLen; omega) (by omega) (by have := HB2.out.size; simp at this; simp; omega) ?_; intro v' w2 hown hgrow _; have HO3 := toHid hown; have HB3 := toHid (below_up HB2.out (Nat.le_refl _) HO2.out hgrow); clear hown hgrow))
        go_roundw
        case rel =>
          refine ⟨k + 1, ys ++ [(j, s.R j)], by omega, by simp, ?_, ⟨fun x => ?_, by simp; omega⟩, HB3.out⟩
          · rw [drs_snoc]; simpa using HO3.out
          · rw [HT.out, List.mem_append, List.mem_singleton]
            constructor
            · rintro ⟨r, hr⟩
              rw [List.mem_append, List.mem_singleton] at hr
              rcases hr with hr | hr
              · have := (HD.out.mem x).1 ⟨r, hr⟩
                exact ⟨.inl this.1, this.2⟩
              · simp at hr
                exact ⟨.inr hr.1, by rw [hr.1]; exact hD⟩
            · rintro ⟨h1 | h1, h2⟩
              · obtain ⟨r, hr⟩ := (HD.out.mem x).2 ⟨h1, h2⟩
                exact ⟨r, List.mem_append.2 (.inl hr)⟩
              · exact ⟨s.R j, List.mem_append.2 (.inr (by simp [h1]))⟩
        case measure => first | omega | (simp only [intOf]; omega)
    · have kd : decide ((k : Int) < (xs.length : Int)) = false := by simp; omega
      have e : k = xs.length := by omega
      have HE := toHid e
      clear e
      go_wp2
      go_ret
      refine ⟨da, dc, xs, ys, rfl, HO.out.mono HB0.out.size, HP.out, ?_, HB0.out.trans (HB.out.mono HB0.out.size)⟩
      have := HD.out
      rw [HE.out, List.take_length] at this
      exact this
end Go.Proofs.Ytcloinonhpaojaa
