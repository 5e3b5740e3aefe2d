/-
  Package stable: has, Size, Read, Flying.
-/
import Derived.Test.YtbigclhfgcaccaaBb
namespace Go.Proofs.Ytbigclhfgcaccaa
open Go.RowKit

/-- A whole number of 64 bits. -/
abbrev I64 (n : Int) : Prop := -9223372036854775808 ≤ n ∧ n ≤ 9223372036854775807

theorem has_any (p G : Nat) (a n : Int) (d : Dv) (av : List Nat) (w : World) (h : Dev w av p G d) (ha : I64 a) (hn : I64 n) :
    Calls Try.prog 26 #[.pointer (some ⟨p, 0, none⟩), .int .i64 a, .int .i64 n] w fun e w' => e = .returned (.bool (decide (0 ≤ a ∧ 0 ≤ n ∧ a + n ≤ d.b.length))) ∧ w' = w := by
  obtain ⟨us, h1, h2, h3⟩ := h.us
  obtain ⟨c0, _, _⟩ := dev_cells h2
  have hs := h.good.small
  by_cases h0 : 0 ≤ a
  · by_cases h1 : 0 ≤ n
    · go_enter Try.func26, Try.ntmps26
      go_wp2_with fail
      go_ret
      refine ⟨?_, rfl⟩
      simp [h0, h1]
      omega
    · go_enter Try.func26, Try.ntmps26
      go_wp2_with fail
      go_ret
      refine ⟨?_, rfl⟩
      simp
      omega
  · go_enter Try.func26, Try.ntmps26
    go_wp2_with fail
    go_ret
    refine ⟨?_, rfl⟩
    simp
    omega

theorem size_nil (w : World) : Calls Try.prog 15 #[.pointer none] w fun e w' => e = .returned (.int .i64 0) ∧ w' = w := by
  go_enter Try.func15, Try.ntmps15
  go_wp2
  go_ret
  exact ⟨rfl, rfl⟩
theorem size_any (p G : Nat) (d : Dv) (av : List Nat) (w : World) (h : Dev w av p G d) : Calls Try.prog 15 #[.pointer (some ⟨p, 0, none⟩)] w fun e w' => e = .returned (.int .i64 (d.b.length : Int)) ∧ w' = w := by
  obtain ⟨us, h1, h2, h3⟩ := h.us
  obtain ⟨c0, _, _⟩ := dev_cells h2
  go_enter Try.func15, Try.ntmps15
  go_wp2
  go_ret
  exact ⟨rfl, rfl⟩

theorem read_nil (a n : Int) (w : World) : Calls Try.prog 12 #[.pointer none, .int .i64 a, .int .i64 n] w fun e w' => e = .returned (.tuple #[.slice none 0 0, .int .i64 1]) ∧ w' = w := by
  go_enter Try.func12, Try.ntmps12
  go_wp2
  exact bodyPost_ret (v := .tuple #[.slice none 0 0, .int .i64 1]) (by simp [results, Try.results12, go_sem]) rfl ⟨rfl, rfl⟩

theorem read_no (p G : Nat) (a n : Int) (d : Dv) (av : List Nat) (w : World) (h : Dev w av p G d) (ha : I64 a) (hn : I64 n) (hno : ¬ (0 ≤ a ∧ 0 ≤ n ∧ a + n ≤ d.b.length)) :
    Calls Try.prog 12 #[.pointer (some ⟨p, 0, none⟩), .int .i64 a, .int .i64 n] w fun e w' => e = .returned (.tuple #[.slice none 0 0, .int .i64 2]) ∧ w' = w := by
  have H := has_any p G a n d av w h ha hn
  rw [decide_eq_false hno] at H
  go_enter Try.func12, Try.ntmps12
  go_wp2_with fail
  refine H.mono ?_
  rintro e w' ⟨rfl, rfl⟩
  go_wp2
  exact bodyPost_ret (v := .tuple #[.slice none 0 0, .int .i64 2]) (by simp [results, Try.results12, go_sem]) rfl ⟨rfl, rfl⟩

theorem read_any (p G : Nat) (a n : Nat) (d : Dv) (av : List Nat) (w : World) (h : Dev w av p G d) (hn : a + n ≤ d.b.length) :
    Calls Try.prog 12 #[.pointer (some ⟨p, 0, none⟩), .int .i64 (a : Int), .int .i64 (n : Int)] w fun e w' => e = .returned (.tuple #[.slice (some ⟨w.heap.size, 0, none⟩) n n, .int .i64 0]) ∧
      Buf w' w.heap.size ((d.b.drop a).take n) ∧ w'.heap.size = w.heap.size + 1 ∧ Below w.heap.size w w' := by
  have hs := h.good.small
  have H := has_any p G a n d av w h (by omega) (by omega)
  rw [decide_eq_true (by omega)] at H
  obtain ⟨us, h1, h2, h3⟩ := h.us
  obtain ⟨c0, _, _⟩ := dev_cells h2
  go_enter Try.func12, Try.ntmps12
  go_wp2_with fail
  refine H.mono ?_
  rintro e w' ⟨rfl, rfl⟩
  have h' := h
  go_wp2_with fail
  · have e : (d.b.drop a).take n = [] := by simp; omega
    have hc := copied_any (some ⟨G, 0, none⟩) 0 ((d.b.drop a).take n) w' (by rw [e]; exact ⟨fun h => by simp at h, fun x _ j u hu => by simp [bcells] at hu⟩) (by simp; omega)
    rw [show ((d.b.drop a).take n).length = n by simp; omega] at hc
    refine hc.mono ?_
    rintro e w1 ⟨rfl, hb, hz, hB⟩
    go_wp2_with fail
    exact bodyPost_ret (v := .tuple #[.slice (some ⟨w'.heap.size, 0, none⟩) n n, .int .i64 0]) (by simp [results, Try.results12, go_sem]) rfl ⟨rfl, hb, hz, hB⟩
  · have hc := copied_any (some ⟨G, a, none⟩) (d.b.length - a) ((d.b.drop a).take n) w' ((h'.buf.slB a).take n) (by simp; omega)
    rw [show ((d.b.drop a).take n).length = n by simp; omega] at hc
    refine hc.mono ?_
    rintro e w1 ⟨rfl, hb, hz, hB⟩
    go_wp2_with fail
    exact bodyPost_ret (v := .tuple #[.slice (some ⟨w'.heap.size, 0, none⟩) n n, .int .i64 0]) (by simp [results, Try.results12, go_sem]) rfl ⟨rfl, hb, hz, hB⟩

theorem flying_nil (h : Int) (w : World) : Calls Try.prog 13 #[.pointer none, .int .i64 h] w fun e w' => e = .returned (.tuple #[.int .i64 0, .int .i64 0, .bool false]) ∧ w' = w := by
  go_enter Try.func13, Try.ntmps13
  go_wp2_with fail
  refine (handled_nil _ _).mono ?_
  rintro e w' ⟨rfl, rfl⟩
  go_wp2_with fail
  exact bodyPost_ret (v := .tuple #[.int .i64 0, .int .i64 0, .bool false]) (by simp [results, Try.results13, go_sem]) rfl ⟨rfl, rfl⟩

/-- What Flying tells. -/
def flyV (o : Option (Nat × List UInt8)) : Value := match o with
  | none => .tuple #[.int .i64 0, .int .i64 0, .bool false]
  | some (a, m) => .tuple #[.int .i64 (a : Int), .int .i64 (m.length : Int), .bool true]

theorem flying_no (p G : Nat) (h : Int) (d : Dv) (av : List Nat) (w : World) (hd : Dev w av p G d) (hh : ¬ (0 ≤ h ∧ h < 8)) :
    Calls Try.prog 13 #[.pointer (some ⟨p, 0, none⟩), .int .i64 h] w fun e w' => e = .returned (flyV none) ∧ w' = w := by
  have H := handled_any ⟨p, 0, none⟩ h w
  rw [decide_eq_false hh] at H
  go_enter Try.func13, Try.ntmps13
  go_wp2_with fail
  refine H.mono ?_
  rintro e w' ⟨rfl, rfl⟩
  go_wp2_with fail
  exact bodyPost_ret (v := .tuple #[.int .i64 0, .int .i64 0, .bool false]) (by simp [results, Try.results13, go_sem]) rfl ⟨rfl, rfl⟩

set_option maxHeartbeats 1000000 in
theorem flying_any (p G h : Nat) (d : Dv) (av : List Nat) (w : World) (hd : Dev w av p G d) (hh : h < 8) (x : Option (Nat × List UInt8)) (hx : d.u[h]? = some x) :
    Calls Try.prog 13 #[.pointer (some ⟨p, 0, none⟩), .int .i64 (h : Int)] w fun e w' => e = .returned (flyV x) ∧ Below w.heap.size w w' := by
  have H := handled_any ⟨p, 0, none⟩ h w
  rw [decide_eq_true (by omega)] at H
  obtain ⟨us, h1, h2, h3⟩ := hd.us
  obtain ⟨c0, cs, _⟩ := dev_cells h2
  rcases h3 h hh with ⟨e1, e2⟩ | ⟨q, a, m, e1, e2, e3⟩
  · have c1 := cs h _ e1
    rw [e2] at hx
    injection hx with hx
    subst hx
    simp only [flV, Option.map_none] at c1
    clear cs h3 h2 c0
    go_enter Try.func13, Try.ntmps13
    go_wp2_with fail
    refine H.mono ?_
    rintro e w' ⟨rfl, rfl⟩
    go_wp2_with fail
    exact bodyPost_ret (v := .tuple #[.int .i64 0, .int .i64 0, .bool false]) (by simp [results, Try.results13, go_sem]) rfl ⟨rfl, Below.refl _ _⟩
  · have c1 := cs h _ e1
    rw [e2] at hx
    injection hx with hx
    subst hx
    simp only [flV, Option.map_some] at c1
    obtain ⟨r, w1, w2, w3, w4⟩ := e3.out
    have q0 : w.cell? ⟨q, 0, none⟩ = some (.int .i64 (a : Int)) := by simp [World.cell?, w1]
    have q1 : w.cell? ⟨q, 1, none⟩ = some (.slice (some ⟨r, 0, none⟩) m.length m.length) := by simp [World.cell?, w1]
    clear cs h3 h2 c0 w1 w2 w3 w4 e3
    have hm := (hd.good.fits h a m e2).2.2.2
    have hs := hd.good.small
    go_enter Try.func13, Try.ntmps13
    go_wp2_with fail
    refine H.mono ?_
    rintro e w' ⟨rfl, rfl⟩
    go_wp2_with fail
    go_region
    go_wp2_with fail
    exact bodyPost_ret (v := .tuple #[.int .i64 (a : Int), .int .i64 (m.length : Int), .bool true]) (by simp [results, Try.results13, go_sem]) rfl ⟨rfl, (Below.refl _ _).drew⟩

end Go.Proofs.Ytbigclhfgcaccaa
