/-
  The stable sort: a merge of one with many, and of many with one.
-/
import Derived.Test.YtebchgoaelamcaaDoorTc
namespace Go.Proofs.YtebchgoaelamcaaDoor
open Go.Shelf Go.RowKit Go.Lib Go.Sort
set_option maxRecDepth 1000000

theorem closure54 (x y : Pq) (W : World) : Calls Tryd.prog 54 #[.agg #[.string (txt x.1), .string (txt x.2)], .agg #[.string (txt y.1), .string (txt y.2)]] W fun e w' => e = .returned (.int .i64 (cfP x y)) ∧ ∃ q os', w' = grow (W.drewN q) os' := by
  have hcon := fun W' => cmp_any x y W'
  generalize cfP x y = r at hcon ⊢
  go_enter Tryd.func54, Tryd.ntmps54
  go_wp2_with (go_at_call 51; refine (hcon _).mono ?_; rintro e w' ⟨rfl, rfl⟩)
  go_ret
  exact ⟨rfl, 0, _, by rw [alloc_eq_grow, alloc_eq_grow, grow_grow]; rfl⟩
theorem cf_lt (x y : Pq) : decide (cfP x y < 0) = decide (x.1 < y.1) := ltP x y

section
variable {blk N : Nat} {w0 W : World} {L : List Pq}
theorem Rw.drew (h : Rw blk N w0 L W) : Rw blk N w0 L W.drew := ⟨h.1, h.2.drew⟩
theorem Rw.grown (h : Rw blk N w0 L W) (q : Nat) (os : Array Obj) : Rw blk N w0 L (grow (W.drewN q) os) := ⟨h.1, h.2.grown q os⟩
theorem Rw.cells (h : Rw blk N w0 L W) (F : Fam blk N w0) (p : Nat) (x : Pq) (ex : L[p]? = some x) :
    W.cell? ⟨blk, p * 2, none⟩ = some (.string (txt x.1)) ∧ W.cell? ⟨blk, p * 2 + 1, none⟩ = some (.string (txt x.2)) := by
  obtain ⟨d0, rfl, R⟩ := F.row
  have := row_cells R h.2 h.1 p x ex
  exact ⟨this.1, this.2.1⟩
/-- What an exchange wants, and leaves. -/
abbrev Ex (blk N : Nat) (w0 : World) (p q : Nat) (x y : Pq) (L' : List Pq) (W : World) : Prop :=
    (W.cell? ⟨blk, p * 2, none⟩ = some (.string (txt x.1)) ∧ W.cell? ⟨blk, p * 2 + 1, none⟩ = some (.string (txt x.2)) ∧ W.frozen? ⟨blk, p * 2, none⟩ = false ∧ W.frozen? ⟨blk, p * 2 + 1, none⟩ = false) ∧
    (W.cell? ⟨blk, q * 2, none⟩ = some (.string (txt y.1)) ∧ W.cell? ⟨blk, q * 2 + 1, none⟩ = some (.string (txt y.2)) ∧ W.frozen? ⟨blk, q * 2, none⟩ = false ∧ W.frozen? ⟨blk, q * 2 + 1, none⟩ = false) ∧
    (∃ u, (W.setCell ⟨blk, p * 2, none⟩ (.string (txt y.1))).cell? ⟨blk, p * 2 + 1, none⟩ = some u) ∧
    (∃ u, ((W.setCell ⟨blk, p * 2, none⟩ (.string (txt y.1))).setCell ⟨blk, p * 2 + 1, none⟩ (.string (txt y.2))).cell? ⟨blk, q * 2, none⟩ = some u) ∧
    (∃ u, ((W.setCell ⟨blk, p * 2, none⟩ (.string (txt y.1))).setCell ⟨blk, p * 2 + 1, none⟩ (.string (txt y.2))).cell? ⟨blk, q * 2 + 1, none⟩ = some u) ∧
    (∃ u, (((W.setCell ⟨blk, p * 2, none⟩ (.string (txt y.1))).setCell ⟨blk, p * 2 + 1, none⟩ (.string (txt y.2))).setCell ⟨blk, q * 2, none⟩ (.string (txt x.1))).cell? ⟨blk, q * 2 + 1, none⟩ = some u) ∧
    Rw blk N w0 L' ((((W.setCell ⟨blk, p * 2, none⟩ (.string (txt y.1))).setCell ⟨blk, p * 2 + 1, none⟩ (.string (txt y.2))).setCell ⟨blk, q * 2, none⟩ (.string (txt x.1))).setCell ⟨blk, q * 2 + 1, none⟩ (.string (txt x.2))).drew
theorem Rw.exch (h : Rw blk N w0 L W) (F : Fam blk N w0) (p q : Nat) (x y : Pq) (ex : L[p]? = some x) (ey : L[q]? = some y) (L' : List Pq) (hL : swp L.toArray p q = L'.toArray) : Ex blk N w0 p q x y L' W := by
  obtain ⟨d0, rfl, R⟩ := F.row
  obtain ⟨a, b, c, d, e, f, g⟩ := Go.Proofs.YtebchgoaelamcaaDoor.exch R h.2 h.1 p q x y ex ey L' hL
  refine ⟨a, b, c, d, e, f, ?_, g⟩
  have h1 := congrArg Array.size hL
  rw [size_swp] at h1
  simp at h1
  rw [← h1]
  exact h.1
theorem swp_adj (Q T : List Pq) (x y : Pq) : swp (Q ++ x :: y :: T).toArray Q.length (Q.length + 1) = (Q ++ y :: x :: T).toArray := by
  have := swp_list Q [] T x y
  simpa using this
theorem swp_comm (d : Array Pq) (i j : Nat) (h : i ≠ j) : swp d i j = swp d j i := by
  unfold swp
  exact Array.setIfInBounds_comm _ _ h
theorem Rw.adj {Q T : List Pq} {x y : Pq} (h : Rw blk N w0 (Q ++ x :: y :: T) W) (F : Fam blk N w0) (k : Nat) (hk : Q.length = k) : Ex blk N w0 k (k + 1) x y (Q ++ y :: x :: T) W :=
  h.exch F k (k + 1) x y (by rw [← hk]; simp) (by rw [show Q ++ x :: y :: T = (Q ++ [x]) ++ y :: T by simp, show k + 1 = (Q ++ [x]).length by simp [hk]]; simp) (Q ++ y :: x :: T) (by rw [← hk]; exact swp_adj Q T x y)
theorem Rw.adj' {Q T : List Pq} {x y : Pq} (h : Rw blk N w0 (Q ++ x :: y :: T) W) (F : Fam blk N w0) (k : Nat) (hk : Q.length = k) : Ex blk N w0 (k + 1) k y x (Q ++ y :: x :: T) W :=
  h.exch F (k + 1) k y x (by rw [show Q ++ x :: y :: T = (Q ++ [x]) ++ y :: T by simp, show k + 1 = (Q ++ [x]).length by simp [hk]]; simp) (by rw [← hk]; simp) (Q ++ y :: x :: T) (by rw [swp_comm _ _ _ (by omega), ← hk]; exact swp_adj Q T x y)
end

theorem mrg_one_left {x : Pq} {B : List Pq} (hB : Rise B) (t : Nat) (ht : t ≤ B.length) (h1 : ∀ (_ : 0 < t) (h : t - 1 < B.length), B[t - 1].1 < x.1) (h2 : ∀ h : t < B.length, ¬ B[t].1 < x.1) : Mrg [x] B (B.take t ++ x :: B.drop t) := by
  refine mrg_cut (A := [x]) (i := 0) (List.pairwise_singleton _ _) hB t (by simp) ht (fun _ h0 h => h1 h0 h) (fun h => by omega) (mrg_nil_left (rise_take hB t)) ⟨?_, Stb.refl _⟩
  rw [Rise, List.pairwise_cons]
  refine ⟨fun y hy => ?_, rise_drop hB t⟩
  have hl := List.length_pos_of_mem hy
  rw [List.length_drop] at hl
  exact not_lt_trans (h2 (by omega)) ((rise_last hB t (by omega)).2 y hy)
theorem mrg_one_right {y : Pq} {A : List Pq} (hA : Rise A) (t : Nat) (ht : t ≤ A.length) (h1 : ∀ (_ : 0 < t) (h : t - 1 < A.length), ¬ y.1 < A[t - 1].1) (h2 : ∀ h : t < A.length, y.1 < A[t].1) : Mrg A [y] (A.take t ++ y :: A.drop t) := by
  have := mrg_cut (A := A) (B := [y]) (R1 := A.take t ++ [y]) (R2 := A.drop t) hA (List.pairwise_singleton _ _) t 1 ht (by simp) (fun h _ _ => h2 h) (fun _ _ h => by simp at h) ⟨?_, by simp; exact Stb.refl _⟩ ⟨rise_drop hA t, by simp; exact Stb.refl _⟩
  · simpa using this
  · refine rise_append.2 ⟨rise_take hA t, List.pairwise_singleton _ _, fun u hu v hv => ?_⟩
    obtain rfl : v = y := by simpa using hv
    have hl := List.length_pos_of_mem hu
    rw [List.length_take] at hl
    have := (rise_last hA (t - 1) (by omega)).1 u (by rw [show t - 1 + 1 = t by omega]; exact hu)
    exact not_lt_trans this (h1 (by omega) (by omega))

set_option maxHeartbeats 2000000 in
theorem sym_left {blk N cap : Nat} {w0 w : World} (F : Fam blk N w0) (P B S : List Pq) (x : Pq) (hB : Rise B) (a m b : Nat) (ha : P.length = a) (hm : a + 1 = m) (hb : m + B.length = b) (hmb : m < b) (za zm zb : Int) (ea : za = a) (em : zm = m) (eb : zb = b) (h : Rw blk N w0 (P ++ [x] ++ B ++ S) w) :
    Calls Tryd.prog 98 #[.slice (some ⟨blk, 0, none⟩) N cap, .int .i64 za, .int .i64 zm, .int .i64 zb, .func (.func 54) #[] #[]] w fun e w' => e = .returned (.tuple #[]) ∧ ∃ R, Mrg [x] B R ∧ Rw blk N w0 (P ++ (R ++ S)) w' := by
  subst ea em eb
  have hN : b ≤ N := by have := h.1; simp at this; omega
  have hfew := F.few
  have HF := toHid' F
  have hd1 : ((m : Int) - (a : Int) == 1) = true := by simp; omega
  have H0 : Hid (Rw blk N w0 (P ++ [x] ++ B ++ S) w) := h
  have HG : Hid (∀ t, t < b - m → (P ++ [x] ++ B ++ S)[m + t]? = B[t]?) := fun t ht => by
    rw [List.getElem?_append_left (by simp; omega), List.getElem?_append_right (by simp; omega)]
    congr 1
    simp
    omega
  have HX : Hid ((P ++ [x] ++ B ++ S)[a]? = some x) := by
    unfold Hid
    rw [List.append_assoc, List.append_assoc, ← ha]
    simp
  have HP := toHid' (And.intro ha hb)
  clear h F ha hb
  go_enter Tryd.func98, Tryd.ntmps98
  go_wp2_with fail
  go_loopw [10, 11] (fun vi vj wr => ∃ i j : Nat, m ≤ i ∧ i ≤ j ∧ j ≤ b ∧ vi = .int .i64 i ∧ vj = .int .i64 j ∧ Hid ((∀ (_ : 0 < i - m) (h : i - m - 1 < B.length), B[i - m - 1].1 < x.1) ∧ ∀ h : j - m < B.length, ¬ B[j - m].1 < x.1) ∧ Hid (Rw blk N w0 (P ++ [x] ++ B ++ S) wr)) (fun vi vj _ => (intOf vj).toNat - (intOf vi).toNat)
  case atStart => exact ⟨m, b, by omega, by omega, by omega, rfl, rfl, ⟨fun h => by omega, fun h => by have := HP.out.2; omega⟩, H0⟩
  case round =>
    clear H0
    obtain ⟨i, j, hi, hij, hj, rfl, rfl, HI, HR⟩ := hrel
    by_cases hlt : i < j
    · skip
      obtain ⟨hh, hhe⟩ : ∃ h : Nat, ((i : Int) + (j : Int)) / 2 = (h : Int) := ⟨(i + j) / 2, by omega⟩
      have hh1 : i ≤ hh := by omega
      have hh2 : hh < j := by omega
      have hbl : hh - m < B.length := by have := HP.out.2; omega
      have ey := HG.out (hh - m) (by omega)
      rw [show m + (hh - m) = hh by omega, List.getElem?_eq_getElem hbl] at ey
      have HY := toHid' ey
      obtain ⟨y, hy⟩ : ∃ y, y = B[hh - m] := ⟨_, rfl⟩
      rw [← hy] at HY ey
      have HYe := toHid' hy
      clear hy ey
      have HRd := toHid' HR.out.drew
      obtain ⟨c0, c1⟩ := HR.out.cells HF.out hh y HY.out
      obtain ⟨d0, d1⟩ := HR.out.cells HF.out a x HX.out
      obtain ⟨e0, e1⟩ := HRd.out.cells HF.out hh y HY.out
      obtain ⟨f0, f1⟩ := HRd.out.cells HF.out a x HX.out
      have HC : Hid (∀ W, Calls Tryd.prog 54 #[.agg #[.string (txt y.1), .string (txt y.2)], .agg #[.string (txt x.1), .string (txt x.2)]] W fun e w' => e = .returned (.int .i64 (cfP y x)) ∧ ∃ q os', w' = grow (W.drewN q) os') := fun W => closure54 y x W
      have HLt := toHid' (cf_lt y x)
      generalize cfP y x = cv at HC HLt
      have n1 : hh < N := by omega
      have n2 : a < N := by omega
      have z1 : (hh : Int) < (N : Int) := by omega
      have z2 : (a : Int) < (N : Int) := by omega
      go_wp2_with fail
      go_region_held3 (fun W => W.cell? ⟨blk, hh * 2, none⟩ = some (.string (txt y.1)) ∧ W.cell? ⟨blk, hh * 2 + 1, none⟩ = some (.string (txt y.2)) ∧ W.cell? ⟨blk, a * 2, none⟩ = some (.string (txt x.1)) ∧ W.cell? ⟨blk, a * 2 + 1, none⟩ = some (.string (txt x.2))) (with_reducible exact ⟨by assumption, by assumption, by assumption, by assumption⟩) ((go_at_call 54; refine Calls.mono (HC.out _) ?_; rintro e wc ⟨rfl, q, os, hwc⟩; have HRc := toHid' (HRd.out.grown q os); rw [← hwc] at HRc; clear hwc; obtain ⟨g0, g1⟩ := HRc.out.cells HF.out hh y HY.out; obtain ⟨i0, i1⟩ := HRc.out.cells HF.out a x HX.out))
      clear c0 c1 d0 d1 e0 e1 f0 f1 HRd HR HC g0 g1 i0 i1
      have hlt' : cv < 0 ↔ y.1 < x.1 := by have := HLt.out; rwa [decide_eq_decide] at this
      have HLT := toHid' hlt'
      clear hlt' HLt
      by_cases hv : cv < 0
      · have HI2 : Hid ((∀ (_ : 0 < (hh + 1) - m) (h : (hh + 1) - m - 1 < B.length), B[(hh + 1) - m - 1].1 < x.1) ∧ ∀ h : j - m < B.length, ¬ B[j - m].1 < x.1) := ⟨fun _ h => by
          have e : (hh + 1) - m - 1 = hh - m := by omega
          simp only [e]
          rw [← HYe.out]
          exact HLT.out.1 hv, HI.out.2⟩
        clear HI HY HYe HLT
        go_wp2_with fail
        go_roundw
        case rel => exact ⟨hh + 1, j, by omega, by omega, by omega, by simp, rfl, HI2, HRc⟩
        case measure => simp only [intOf]; omega
      · have HI2 : Hid ((∀ (_ : 0 < i - m) (h : i - m - 1 < B.length), B[i - m - 1].1 < x.1) ∧ ∀ h : hh - m < B.length, ¬ B[hh - m].1 < x.1) := ⟨HI.out.1, fun h => by
          rw [← HYe.out]
          exact fun hc => hv (HLT.out.2 hc)⟩
        clear HI HY HYe HLT
        go_wp2_with fail
        go_roundw
        case rel => exact ⟨i, hh, by omega, by omega, by omega, rfl, rfl, HI2, HRc⟩
        case measure => simp only [intOf]; omega
    · obtain rfl : i = j := by omega
      have HM : Hid (Mrg [x] B (B.take (i - m) ++ x :: B.drop (i - m))) := mrg_one_left hB (i - m) (by have := HP.out.2; omega) (fun h0 h => HI.out.1 h0 h) HI.out.2
      have H1 : Hid (Rw blk N w0 (P ++ B.take (a - a) ++ x :: B.drop (a - a) ++ S) wr) := by
        have := HR.out
        unfold Hid
        rw [Nat.sub_self]
        simpa using this
      clear HI HR HG HX
      go_wp2_with fail
      go_loopw [13] (fun vk wk => ∃ k : Nat, a ≤ k ∧ k ≤ i - 1 ∧ vk = .int .i64 k ∧ Hid (Rw blk N w0 (P ++ B.take (k - a) ++ x :: B.drop (k - a) ++ S) wk)) (fun vk _ => i - 1 - (intOf vk).toNat)
      case atStart => exact ⟨a, Nat.le_refl _, by omega, rfl, H1⟩
      case round =>
        clear H1
        obtain ⟨k, hk1, hk2, rfl, HK⟩ := hrel
        by_cases hlk : k < i - 1
        · have hbk : k - a < B.length := by have := HP.out.2; omega
          obtain ⟨y, hy⟩ : ∃ y, y = B[k - a] := ⟨_, rfl⟩
          have hdr : B.drop (k - a) = y :: B.drop (k + 1 - a) := by rw [hy, show k + 1 - a = k - a + 1 by omega]; exact List.drop_eq_getElem_cons hbk
          have hpl : (P ++ B.take (k - a)).length = k := by have := HP.out.1; simp; omega
          have hcur : P ++ B.take (k - a) ++ x :: B.drop (k - a) ++ S = P ++ B.take (k - a) ++ x :: y :: (B.drop (k + 1 - a) ++ S) := by
            rw [hdr]
            simp only [List.append_assoc, List.cons_append]
          have hnx : P ++ B.take (k - a) ++ y :: x :: (B.drop (k + 1 - a) ++ S) = P ++ B.take (k + 1 - a) ++ x :: B.drop (k + 1 - a) ++ S := by
            rw [show k + 1 - a = k - a + 1 by omega, List.take_succ_eq_append_getElem hbk, ← hy]
            simp only [List.append_assoc, List.cons_append, List.nil_append]
          rw [hcur] at HK
          obtain ⟨⟨c0, c1, f0, f1⟩, ⟨d0', d1, g0', g1⟩, ⟨t1, ht1⟩, ⟨t2, ht2⟩, ⟨t3, ht3⟩, ⟨t4, ht4⟩, hS2⟩ := HK.out.adj HF.out k hpl
          rw [hnx] at hS2
          have S2 := toHid' hS2
          clear hS2 HK hcur hnx hdr hpl hy
          obtain ⟨ya, yb⟩ := y
          simp only at c0 c1 d0' d1 ht1 ht2 ht3 ht4 S2
          have n1 : k + 1 < N := by omega
          have z1 : (k : Int) + 1 < (N : Int) := by omega
          have z2 : (k : Int) < (N : Int) := by omega
          have z3 : (k : Int) < (i : Int) - 1 := by omega
          have mixed := Tryd.mixed
          go_wp2_with fail
          go_big_region_o
          clear c0 c1 f0 f1 d0' d1 g0' g1 ht1 ht2 ht3 ht4
          generalize (World.setCell _ _ _).drew = w2 at S2 ⊢
          go_wp2_with fail
          go_roundw
          case rel => exact ⟨k + 1, by omega, by omega, by simp, S2⟩
          case measure => simp only [intOf]; omega
        · obtain rfl : k = i - 1 := by omega
          have z3 : ¬ (((i - 1 : Nat) : Int) < (i : Int) - 1) := by omega
          have HE : Hid (∃ R, Mrg [x] B R ∧ Rw blk N w0 (P ++ (R ++ S)) wr) := ⟨_, HM.out, by
            have h := HK.out
            rw [show i - 1 - a = i - m by omega] at h
            simpa using h⟩
          go_wp2_with fail
          exact bodyPost_ret (v := .tuple #[]) (by simp [results, Tryd.results98, go_sem]) rfl ⟨rfl, HE.out⟩
end Go.Proofs.YtebchgoaelamcaaDoor
