/-
  The stable sort: exchanges.
-/
import Derived.Test.YtebchgoaelamcaaDoorTa
import Derived.Test.YtebchgoaelamcaaDoorSr
import Derived.Shelf.SlSortCmp.ReverseRangeK
namespace Go.Proofs.YtebchgoaelamcaaDoor
open Go.Shelf Go.RowKit Go.Lib Go.Sort
set_option maxRecDepth 1000000

theorem toHid' {p : Prop} (h : p) : Hid p := h
theorem swp_list (P Q S : List Pq) (x y : Pq) : swp (P ++ x :: Q ++ y :: S).toArray P.length (P.length + 1 + Q.length) = (P ++ y :: Q ++ x :: S).toArray := by
  have hl : (P ++ x :: Q ++ y :: S).toArray.size = P.length + 1 + Q.length + 1 + S.length := by simp; omega
  have e1 : (P ++ x :: Q ++ y :: S).toArray[P.length]! = x := by simp
  have e2 : (P ++ x :: Q ++ y :: S).toArray[P.length + 1 + Q.length]! = y := by
    have : P.length + 1 + Q.length = (P ++ x :: Q).length := by simp; omega
    rw [this]
    simp
  unfold swp
  rw [e1, e2]
  apply Array.ext'
  simp only [Array.toList_setIfInBounds]
  rw [show (P ++ x :: Q ++ y :: S).set P.length y = P ++ y :: Q ++ y :: S by simp]
  have : P.length + 1 + Q.length = (P ++ y :: Q).length := by simp; omega
  rw [this]
  simp

section
variable {blk : Nat} {d0 : Array Pq} {w0 : World}
theorem toE {w : World} {a : Addr} {u : Value} (h : w.cell? a = some u) : ∃ v, w.cell? a = some v := ⟨u, h⟩
theorem stE {w : World} {a : Addr} (h : ∃ v, w.cell? a = some v) (p : Addr) (x : Value) : ∃ v, (w.setCell p x).cell? a = some v := by
  obtain ⟨v, h⟩ := h
  exact cell?_setCell_some h
theorem row_cells (R : RowK encP 2 w0 blk 0 d0) {L : List Pq} {W : World} (S : SWK encP 2 w0 blk 0 L.toArray W) (hl : L.length = d0.size) (p : Nat) (x : Pq) (ex : L[p]? = some x) :
    W.cell? ⟨blk, p * 2, none⟩ = some (.string (txt x.1)) ∧ W.cell? ⟨blk, p * 2 + 1, none⟩ = some (.string (txt x.2)) ∧ W.frozen? ⟨blk, p * 2, none⟩ = false ∧ W.frozen? ⟨blk, p * 2 + 1, none⟩ = false := by
  have hp : p < L.toArray.size := by have := (List.getElem?_eq_some_iff.1 ex).1; simpa using this
  have hs : L.toArray.size = d0.size := by simpa using hl
  have e1 : L.toArray[p]! = x := by
    rw [getElem!_pos L.toArray p hp]
    simpa using (List.getElem?_eq_some_iff.1 ex).2
  have H := S.holds R.hblk R.hH hs
  have C := HoldsK.cells H R.hk hp
  rw [e1] at C
  have f0 := (H (p * 2) (by rw [size_flatK]; omega)).2
  have f1 := (H (p * 2 + 1) (by rw [size_flatK]; omega)).2
  have c0 := C 0 (.string (txt x.1)) rfl
  have c1 := C 1 (.string (txt x.2)) rfl
  simp only [Nat.zero_add, Addr.add] at c0 c1 f0 f1
  exact ⟨by simpa using c0, by simpa using c1, f0, f1⟩
/-- What an exchange wants of the row, and leaves. -/
theorem exch (R : RowK encP 2 w0 blk 0 d0) {L : List Pq} {W : World} (S : SWK encP 2 w0 blk 0 L.toArray W) (hl : L.length = d0.size) (p q : Nat) (x y : Pq) (ex : L[p]? = some x) (ey : L[q]? = some y) (L' : List Pq) (hL : swp L.toArray p q = L'.toArray) :
    (W.cell? ⟨blk, p * 2, none⟩ = some (.string (txt x.1)) ∧ W.cell? ⟨blk, p * 2 + 1, none⟩ = some (.string (txt x.2)) ∧ W.frozen? ⟨blk, p * 2, none⟩ = false ∧ W.frozen? ⟨blk, p * 2 + 1, none⟩ = false) ∧
    (W.cell? ⟨blk, q * 2, none⟩ = some (.string (txt y.1)) ∧ W.cell? ⟨blk, q * 2 + 1, none⟩ = some (.string (txt y.2)) ∧ W.frozen? ⟨blk, q * 2, none⟩ = false ∧ W.frozen? ⟨blk, q * 2 + 1, none⟩ = false) ∧
    (∃ u, (W.setCell ⟨blk, p * 2, none⟩ (.string (txt y.1))).cell? ⟨blk, p * 2 + 1, none⟩ = some u) ∧
    (∃ u, ((W.setCell ⟨blk, p * 2, none⟩ (.string (txt y.1))).setCell ⟨blk, p * 2 + 1, none⟩ (.string (txt y.2))).cell? ⟨blk, q * 2, none⟩ = some u) ∧
    (∃ u, ((W.setCell ⟨blk, p * 2, none⟩ (.string (txt y.1))).setCell ⟨blk, p * 2 + 1, none⟩ (.string (txt y.2))).cell? ⟨blk, q * 2 + 1, none⟩ = some u) ∧
    (∃ u, (((W.setCell ⟨blk, p * 2, none⟩ (.string (txt y.1))).setCell ⟨blk, p * 2 + 1, none⟩ (.string (txt y.2))).setCell ⟨blk, q * 2, none⟩ (.string (txt x.1))).cell? ⟨blk, q * 2 + 1, none⟩ = some u) ∧
    SWK encP 2 w0 blk 0 L'.toArray ((((W.setCell ⟨blk, p * 2, none⟩ (.string (txt y.1))).setCell ⟨blk, p * 2 + 1, none⟩ (.string (txt y.2))).setCell ⟨blk, q * 2, none⟩ (.string (txt x.1))).setCell ⟨blk, q * 2 + 1, none⟩ (.string (txt x.2))).drew := by
  have hp : p < L.toArray.size := by have := (List.getElem?_eq_some_iff.1 ex).1; simpa using this
  have hq : q < L.toArray.size := by have := (List.getElem?_eq_some_iff.1 ey).1; simpa using this
  have e1 : L.toArray[p]! = x := by
    rw [getElem!_pos L.toArray p hp]
    simpa using (List.getElem?_eq_some_iff.1 ex).2
  have e2 : L.toArray[q]! = y := by
    rw [getElem!_pos L.toArray q hq]
    simpa using (List.getElem?_eq_some_iff.1 ey).2
  have a := row_cells R S hl p x ex
  have b := row_cells R S hl q y ey
  have e := S.swapped R p q hp hq
  rw [e1, e2, hL] at e
  simp only [Nat.zero_add] at e
  exact ⟨a, b, stE (toE a.2.1) _ _, stE (stE (toE b.1) _ _) _ _, stE (stE (toE b.2.1) _ _) _ _, stE (stE (stE (toE b.2.1) _ _) _ _) _ _, e⟩
end

set_option maxHeartbeats 4000000 in
theorem swapRange_any (g0 : Nat) (cb : Array Value) (blk cap : Nat) (d0 : Array Pq) (w0 w : World) (R : RowK encP 2 w0 blk 0 d0) (P X M Y S : List Pq) (hn : X.length = Y.length) (hs : (P ++ X ++ M ++ Y ++ S).length = d0.size) (St : SWK encP 2 w0 blk 0 (P ++ X ++ M ++ Y ++ S).toArray w) (hsz : d0.size < 1000000) :
    Calls Tryd.prog 118 #[.slice (some ⟨blk, 0, none⟩) d0.size cap, .int .i64 (P.length : Nat), .int .i64 ((P ++ X ++ M).length : Nat), .int .i64 (X.length : Nat), .func (.func g0) #[] cb] w fun e w' => e = .returned (.tuple #[]) ∧ SWK encP 2 w0 blk 0 (P ++ Y ++ M ++ X ++ S).toArray w' := by
  have hP : ((P ++ X ++ M).length : Nat) = P.length + X.length + M.length := by simp; omega
  have hall : d0.size = P.length + X.length + M.length + Y.length + S.length := by rw [← hs]; simp; omega
  have HR : Aside _ := R
  have S0 : Aside (SWK encP 2 w0 blk 0 (P ++ (Y.take 0 ++ X.drop 0) ++ M ++ (X.take 0 ++ Y.drop 0) ++ S).toArray w) := by
    show SWK _ _ _ _ _ _ _
    simpa using St
  rw [hP]
  have HNn := toHid' hn
  rw [← hn] at hall
  clear hP St R hs hn
  go_enter Tryd.func118, Tryd.ntmps118
  go_wp2
  go_loopw [10] (fun vi wr => ∃ i : Nat, i ≤ X.length ∧ vi = .int .i64 i ∧ Aside (SWK encP 2 w0 blk 0 (P ++ (Y.take i ++ X.drop i) ++ M ++ (X.take i ++ Y.drop i) ++ S).toArray wr)) (fun vi _ => X.length - (intOf vi).toNat)
  case atStart => exact ⟨0, Nat.zero_le _, rfl, S0⟩
  case round =>
    clear S0
    obtain ⟨i, hi, rfl, S1⟩ := hrel
    by_cases hlt : i < X.length
    · have hY : i < Y.length := by have := HNn.out; omega
      obtain ⟨P1, hP1⟩ : ∃ P1, P1 = P ++ Y.take i := ⟨_, rfl⟩
      obtain ⟨Q, hQ⟩ : ∃ Q, Q = X.drop (i + 1) ++ M ++ X.take i := ⟨_, rfl⟩
      obtain ⟨T, hT⟩ : ∃ T, T = Y.drop (i + 1) ++ S := ⟨_, rfl⟩
      have hdk : P ++ (Y.take i ++ X.drop i) ++ M ++ (X.take i ++ Y.drop i) ++ S = P1 ++ X[i] :: Q ++ Y[i] :: T := by
        rw [List.drop_eq_getElem_cons hlt, List.drop_eq_getElem_cons hY, hP1, hQ, hT]
        simp only [List.append_assoc, List.cons_append]
      have hnx : P ++ (Y.take (i + 1) ++ X.drop (i + 1)) ++ M ++ (X.take (i + 1) ++ Y.drop (i + 1)) ++ S = P1 ++ Y[i] :: Q ++ X[i] :: T := by
        rw [List.take_succ_eq_append_getElem hlt, List.take_succ_eq_append_getElem hY, hP1, hQ, hT]
        simp only [List.append_assoc, List.cons_append, List.nil_append]
      have l1 : P1.length = P.length + i := by rw [hP1]; simp; omega
      have l2 : P1.length + 1 + Q.length = P.length + X.length + M.length + i := by rw [l1, hQ]; simp; omega
      have l4 : (P1 ++ X[i] :: Q ++ Y[i] :: T).length = d0.size := by rw [← hdk, hall]; have := HNn.out; simp; omega
      have hsw := swp_list P1 Q T X[i] Y[i]
      rw [l2, l1, ← hnx] at hsw
      rw [hdk] at S1
      obtain ⟨⟨c0, c1, f0, f1⟩, ⟨d0', d1, g0', g1⟩, ⟨t1, ht1⟩, ⟨t2, ht2⟩, ⟨t3, ht3⟩, ⟨t4, ht4⟩, hS2⟩ := exch HR.out S1.out l4 (P.length + i) (P.length + X.length + M.length + i) X[i] Y[i] (by rw [← l1]; simp) (by rw [← l2, show P1.length + 1 + Q.length = (P1 ++ X[i] :: Q).length by simp; omega]; simp) _ hsw
      have S2 : Aside _ := hS2
      generalize X[i] = x at *
      generalize Y[i] = y at *
      obtain ⟨xa, xb⟩ := x
      obtain ⟨ya, yb⟩ := y
      simp only at c0 c1 d0' d1 ht1 ht2 ht3 ht4 S2
      clear S1 hdk hnx hsw hS2 l1 l2 l4 hP1 hQ hT HR
      have ea : ((P.length : Int) + (i : Int)).toNat = P.length + i := by omega
      have pa : (0 : Int) ≤ (P.length : Int) + (i : Int) := by omega
      have ba : (P.length : Int) + (i : Int) < (d0.size : Int) := by omega
      have ra : IntKind.i64.wrap ((P.length : Int) + (i : Int)) = (P.length : Int) + (i : Int) := by rw [IntKind.wrap_i64]; omega
      have mixed := Tryd.mixed
      go_wp2_with fail
      go_big_region_o
      clear c0 c1 f0 f1 d0' d1 g0' g1 ht1 ht2 ht3 ht4
      generalize (World.setCell _ _ _).drew = w2 at S2 ⊢
      go_wp2
      go_roundw
      case rel => exact ⟨i + 1, by omega, by simp, S2⟩
      case measure => first | omega | (simp only [intOf]; omega)
    · go_wp2
      go_end0
      have e : i = X.length := by omega
      subst e
      refine ⟨rfl, ?_⟩
      have := S1.out
      rw [List.drop_length, List.take_length, HNn.out, List.drop_length, List.take_length] at this
      simpa using this
end Go.Proofs.YtebchgoaelamcaaDoor
