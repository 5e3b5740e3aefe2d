/-
  The stable sort: rotate.
-/
import Derived.Test.YtebchgoaelamcaaDoorTb
namespace Go.Proofs.YtebchgoaelamcaaDoor
open Go.Shelf Go.RowKit Go.Lib Go.Sort
set_option maxRecDepth 1000000

/-- What the family is told, once: the row, its size, its closure. -/
structure Fam (blk N : Nat) (w0 : World) : Prop where
  row : ∃ d0 : Array Pq, d0.size = N ∧ RowK encP 2 w0 blk 0 d0
  few : N < 1000000
/-- The row is L in W. -/
def Rw (blk N : Nat) (w0 : World) (L : List Pq) (W : World) : Prop := L.length = N ∧ SWK encP 2 w0 blk 0 L.toArray W

theorem swapR {blk N cap g0 : Nat} {cb : Array Value} {w0 w : World} (F : Fam blk N w0) (P X M Y S : List Pq) (hn : X.length = Y.length) (za zb zn : Int) (ea : za = (P.length : Nat)) (eb : zb = ((P.length + X.length + M.length : Nat) : Int)) (en : zn = (X.length : Nat)) (h : Rw blk N w0 (P ++ X ++ M ++ Y ++ S) w) :
    Calls Tryd.prog 118 #[.slice (some ⟨blk, 0, none⟩) N cap, .int .i64 za, .int .i64 zb, .int .i64 zn, .func (.func g0) #[] cb] w fun e w' => e = .returned (.tuple #[]) ∧ Rw blk N w0 (P ++ Y ++ M ++ X ++ S) w' := by
  obtain ⟨d0, rfl, R⟩ := F.row
  subst ea eb en
  have hc := swapRange_any g0 cb blk cap d0 w0 w R P X M Y S hn h.1 h.2 F.few
  rw [show (P ++ X ++ M).length = P.length + X.length + M.length by simp; omega] at hc
  refine Calls.mono hc ?_
  rintro e w' ⟨rfl, hs⟩
  refine ⟨rfl, ?_, hs⟩
  have := h.1
  simp at this ⊢
  omega

set_option maxHeartbeats 1000000 in
theorem rotate_any {blk N cap g0 : Nat} {cb : Array Value} {w0 w : World} (F : Fam blk N w0) (P X Y S : List Pq) (a m b : Nat) (ha : P.length = a) (hm : a + X.length = m) (hb : m + Y.length = b) (hX : a < m) (hY : m < b) (za zm zb : Int) (ea : za = a) (em : zm = m) (eb : zb = b) (h : Rw blk N w0 (P ++ X ++ Y ++ S) w) :
    Calls Tryd.prog 112 #[.slice (some ⟨blk, 0, none⟩) N cap, .int .i64 za, .int .i64 zm, .int .i64 zb, .func (.func g0) #[] cb] w fun e w' => e = .returned (.tuple #[]) ∧ Rw blk N w0 (P ++ Y ++ X ++ S) w' := by
  subst ea em eb
  have hN : b ≤ N := by have := h.1; simp at this; omega
  have hfew := F.few
  have HF := toHid' F
  have H0 : Hid (∃ P1 X1 Y1 S1 : List Pq, P1.length + (m - a) = m ∧ X1.length = m - a ∧ Y1.length = b - m ∧ P1 ++ Y1 ++ X1 ++ S1 = P ++ Y ++ X ++ S ∧ Rw blk N w0 (P1 ++ X1 ++ Y1 ++ S1) w) := ⟨P, X, Y, S, by omega, by omega, by omega, rfl, h⟩
  generalize P ++ Y ++ X ++ S = T at *
  clear h F ha hm hb
  go_enter Tryd.func112, Tryd.ntmps112
  go_wp2_with fail
  go_loopw [10, 11] (fun vi vj wr => ∃ i j : Nat, 0 < i ∧ 0 < j ∧ i ≤ m ∧ m + j ≤ N ∧ vi = .int .i64 i ∧ vj = .int .i64 j ∧ Hid (∃ P1 X1 Y1 S1 : List Pq, P1.length + i = m ∧ X1.length = i ∧ Y1.length = j ∧ P1 ++ Y1 ++ X1 ++ S1 = T ∧ Rw blk N w0 (P1 ++ X1 ++ Y1 ++ S1) wr)) (fun vi vj _ => (intOf vi).toNat + (intOf vj).toNat)
  case atStart => exact ⟨m - a, b - m, by omega, by omega, by omega, by omega, by congr 1; omega, by congr 1; omega, H0⟩
  case round =>
    clear H0
    obtain ⟨i, j, i0, j0, him, hjN, rfl, rfl, HL⟩ := hrel
    by_cases hne : i = j
    · subst hne
      have HC : Hid (∀ za zb : Int, za = (m : Int) - i → zb = (m : Int) → Calls Tryd.prog 118 #[.slice (some ⟨blk, 0, none⟩) N cap, .int .i64 za, .int .i64 zb, .int .i64 i, .func (.func g0) #[] cb] wr fun e w' => e = .returned (.tuple #[]) ∧ Rw blk N w0 T w') := by
        intro za zb e1 e2
        obtain ⟨P1, X1, Y1, S1, l1, l2, l3, rfl, hr⟩ := HL.out
        have hc := swapR (cap := cap) (g0 := g0) (cb := cb) HF.out P1 X1 [] Y1 S1 (by omega) za zb i (by omega) (by simp; omega) (by omega) (by simpa using hr)
        simpa using hc
      clear HL
      go_wp2_with fail
      refine Calls.mono (HC.out _ _ (by omega) rfl) ?_
      rintro e w2 ⟨rfl, hS2⟩
      have S2 := toHid' hS2
      clear hS2 HC
      go_wp2_with fail
      go_end0
      exact ⟨rfl, S2.out⟩
    · by_cases hgt : j < i
      · have HC : Hid (∀ za zb : Int, za = (m : Int) - i → zb = (m : Int) → Calls Tryd.prog 118 #[.slice (some ⟨blk, 0, none⟩) N cap, .int .i64 za, .int .i64 zb, .int .i64 j, .func (.func g0) #[] cb] wr fun e w' => e = .returned (.tuple #[]) ∧ (∃ P1 X1 Y1 S1 : List Pq, P1.length + (i - j) = m ∧ X1.length = i - j ∧ Y1.length = j ∧ P1 ++ Y1 ++ X1 ++ S1 = T ∧ Rw blk N w0 (P1 ++ X1 ++ Y1 ++ S1) w')) := by
          intro za zb e1 e2
          obtain ⟨P1, X1, Y1, S1, l1, l2, l3, hT, hr⟩ := HL.out
          have hsp : X1 = X1.take j ++ X1.drop j := (List.take_append_drop _ _).symm
          have t1 : (X1.take j).length = j := by rw [List.length_take]; omega
          have t2 : (X1.drop j).length = i - j := by rw [List.length_drop]; omega
          have hr' : Rw blk N w0 (P1 ++ X1.take j ++ X1.drop j ++ Y1 ++ S1) wr := by
            rw [List.append_assoc P1, List.take_append_drop]
            exact hr
          have hc := swapR (cap := cap) (g0 := g0) (cb := cb) HF.out P1 (X1.take j) (X1.drop j) Y1 S1 (by omega) za zb j (by omega) (by omega) (by omega) hr'
          refine Calls.mono hc ?_
          rintro e w' ⟨rfl, hw⟩
          refine ⟨rfl, P1 ++ Y1, X1.drop j, X1.take j, S1, by simp; omega, t2, t1, ?_, hw⟩
          rw [← hT, List.append_assoc (P1 ++ Y1), List.take_append_drop]
        clear HL
        have hgt' : ((j : Int) < (i : Int)) := by omega
        have hne' : ¬ ((i : Int) = (j : Int)) := by omega
        go_wp2_with fail
        refine Calls.mono (HC.out _ _ (by omega) rfl) ?_
        rintro e w2 ⟨rfl, hS2⟩
        have S2 := toHid' hS2
        clear hS2 HC
        go_wp2_with fail
        go_roundw
        case rel => exact ⟨i - j, j, by omega, by omega, by omega, by omega, by congr 1; omega, rfl, S2⟩
        case measure => simp only [intOf]; omega
      · have HC : Hid (∀ za zb : Int, za = (m : Int) - i → zb = (m : Int) + j - i → Calls Tryd.prog 118 #[.slice (some ⟨blk, 0, none⟩) N cap, .int .i64 za, .int .i64 zb, .int .i64 i, .func (.func g0) #[] cb] wr fun e w' => e = .returned (.tuple #[]) ∧ (∃ P1 X1 Y1 S1 : List Pq, P1.length + i = m ∧ X1.length = i ∧ Y1.length = j - i ∧ P1 ++ Y1 ++ X1 ++ S1 = T ∧ Rw blk N w0 (P1 ++ X1 ++ Y1 ++ S1) w')) := by
          intro za zb e1 e2
          obtain ⟨P1, X1, Y1, S1, l1, l2, l3, hT, hr⟩ := HL.out
          have t1 : (Y1.take (j - i)).length = j - i := by rw [List.length_take]; omega
          have t2 : (Y1.drop (j - i)).length = i := by rw [List.length_drop]; omega
          have hr' : Rw blk N w0 (P1 ++ X1 ++ Y1.take (j - i) ++ Y1.drop (j - i) ++ S1) wr := by
            rw [List.append_assoc (P1 ++ X1), List.take_append_drop]
            exact hr
          have hc := swapR (cap := cap) (g0 := g0) (cb := cb) HF.out P1 X1 (Y1.take (j - i)) (Y1.drop (j - i)) S1 (by omega) za zb i (by omega) (by omega) (by omega) hr'
          refine Calls.mono hc ?_
          rintro e w' ⟨rfl, hw⟩
          refine ⟨rfl, P1, Y1.drop (j - i), Y1.take (j - i), X1 ++ S1, l1, t2, t1, ?_, by rw [← List.append_assoc]; exact hw⟩
          rw [← hT]
          conv => rhs; rw [← List.take_append_drop (j - i) Y1]
          simp only [List.append_assoc]
        clear HL
        have hgt' : ¬ ((j : Int) < (i : Int)) := by omega
        have hne' : ¬ ((i : Int) = (j : Int)) := by omega
        go_wp2_with fail
        refine Calls.mono (HC.out _ _ (by omega) (by omega)) ?_
        rintro e w2 ⟨rfl, hS2⟩
        have S2 := toHid' hS2
        clear hS2 HC
        go_wp2_with fail
        go_roundw
        case rel => exact ⟨i, j - i, by omega, by omega, by omega, by omega, rfl, by congr 1; omega, S2⟩
        case measure => simp only [intOf]; omega
end Go.Proofs.YtebchgoaelamcaaDoor
