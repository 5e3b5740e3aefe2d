/-
  Has, at, Get, Take of a pool, and how a page is put into one.
-/
import Derived.Test.YtcloinonhpaojaaQa
import Derived.BigQuiet
namespace Go.Proofs.Ytcloinonhpaojaa
open Go.RowKit

theorem has_yes (p : Nat) (st : Value) (s : Po) (i : Nat) (w : World) (h : PoIn w p st s) (hi : i < 16) (hh : here s.r (i : Int)) :
    Calls Try.prog 23 #[.pointer (some ⟨p, 0, none⟩), .int .i64 (i : Int)] w fun e w' => e = .returned (.bool true) ∧ Below w.heap.size w w' := by
  obtain ⟨-, c1, c2, -, -, hlt⟩ := h.cells
  have HA := toHid (Ck.at_any s.a s.c s.r (i : Int) w h.ring h.len)
  have ha := at_here h.may (by omega) (by omega) hh
  clear h hh
  generalize Ck.atR s.r (i : Int) = x at HA ha
  go_enter Try.func23, Try.ntmps23
  go_wp2_with fail
  refine Calls.mono HA.out ?_
  rintro e w1 ⟨rfl, hb⟩
  clear HA
  go_wp2
  go_ret
  exact ⟨by simp, hb⟩
theorem has_no (p : Nat) (st : Value) (s : Po) (id : Int) (w : World) (h : PoIn w p st s) (hh : ¬ (0 ≤ id ∧ id < 16 ∧ here s.r id)) :
    Calls Try.prog 23 #[.pointer (some ⟨p, 0, none⟩), .int .i64 id] w fun e w' => e = .returned (.bool false) ∧ Below w.heap.size w w' := by
  obtain ⟨-, c1, c2, -, -, hlt⟩ := h.cells
  have HA := toHid (Ck.at_any s.a s.c s.r id w h.ring h.len)
  have ha := at_gone h.may hh
  clear h hh
  rw [ha] at HA
  clear ha
  go_enter Try.func23, Try.ntmps23
  go_wp2_with fail
  refine Calls.mono HA.out ?_
  rintro e w1 ⟨rfl, hb⟩
  clear HA
  go_wp2
  go_ret
  exact ⟨by simp, hb⟩
theorem has_nil (id : Int) (w : World) : Calls Try.prog 23 #[.pointer none, .int .i64 id] w fun e w' => e = .returned (.bool false) ∧ w' = w := by
  go_enter Try.func23, Try.ntmps23
  go_wp2
  go_ret
  exact ⟨rfl, rfl⟩

theorem at_yes (p : Nat) (st : Value) (s : Po) (i : Nat) (w : World) (h : PoIn w p st s) (hi : i < 16) (hh : here s.r (i : Int)) :
    Calls Try.prog 37 #[.pointer (some ⟨p, 0, none⟩), .int .i64 (i : Int)] w fun e w' => e = .returned (.tuple #[.pointer (some ⟨p, 3 + i * 3, none⟩), .int .i64 0]) ∧ Below w.heap.size w w' := by
  have HA := toHid (has_yes p st s i w h hi hh)
  clear h hh
  go_enter Try.func37, Try.ntmps37
  go_wp2_with fail
  refine Calls.mono HA.out ?_
  rintro e w1 ⟨rfl, hb⟩
  clear HA
  go_wp2
  exact bodyPost_ret (v := .tuple #[.pointer (some ⟨p, 3 + i * 3, none⟩), .int .i64 0]) (by simp [results, Try.results37, go_sem]) rfl ⟨rfl, hb⟩
theorem at_no (p : Nat) (st : Value) (s : Po) (id : Int) (w : World) (h : PoIn w p st s) (hh : ¬ (0 ≤ id ∧ id < 16 ∧ here s.r id)) :
    Calls Try.prog 37 #[.pointer (some ⟨p, 0, none⟩), .int .i64 id] w fun e w' => e = .returned (.tuple #[.pointer none, .int .i64 8]) ∧ Below w.heap.size w w' := by
  have HA := toHid (has_no p st s id w h hh)
  clear h hh
  go_enter Try.func37, Try.ntmps37
  go_wp2_with fail
  refine Calls.mono HA.out ?_
  rintro e w1 ⟨rfl, hb⟩
  clear HA
  go_wp2
  exact bodyPost_ret (v := .tuple #[.pointer none, .int .i64 8]) (by simp [results, Try.results37, go_sem]) rfl ⟨rfl, hb⟩
theorem at_nil (id : Int) (w : World) : Calls Try.prog 37 #[.pointer none, .int .i64 id] w fun e w' => e = .returned (.tuple #[.pointer none, .int .i64 1]) ∧ w' = w := by
  go_enter Try.func37, Try.ntmps37
  go_wp2
  exact bodyPost_ret (v := .tuple #[.pointer none, .int .i64 1]) (by simp [results, Try.results37, go_sem]) rfl ⟨rfl, rfl⟩

theorem get_no (p : Nat) (st : Value) (s : Po) (id : Int) (w : World) (h : PoIn w p st s) (hh : ¬ (0 ≤ id ∧ id < 16 ∧ here s.r id)) :
    Calls Try.prog 10 #[.pointer (some ⟨p, 0, none⟩), .int .i64 id] w fun e w' => e = .returned (.pointer none) ∧ Below w.heap.size w w' := by
  obtain ⟨-, c1, c2, -, -, hlt⟩ := h.cells
  have HA := toHid (Ck.touch_any s.a s.c s.r id w h.ring h.len)
  rw [touch_no h.may hh] at HA
  clear h hh
  go_enter Try.func10, Try.ntmps10
  go_wp2_with fail
  refine Calls.mono HA.out ?_
  rintro e w1 ⟨a, c, rfl, -, hb, -⟩
  clear HA
  have hb2 := hb.alloc hb.size (.cells #[.slice a (0 : Nat) c, .int .i64 0] 36)
  go_wp2
  go_ret
  exact ⟨rfl, hb2⟩
theorem get_nil (id : Int) (w : World) : Calls Try.prog 10 #[.pointer none, .int .i64 id] w fun e w' => e = .returned (.pointer none) ∧ w' = w := by
  go_enter Try.func10, Try.ntmps10
  go_wp2
  go_ret
  exact ⟨rfl, rfl⟩

set_option maxHeartbeats 1000000 in
theorem get_yes (p : Nat) (st : Value) (s : Po) (i : Nat) (w : World) (h : PoIn w p st s) (hi : i < 16) (hh : here s.r (i : Int)) :
    Calls Try.prog 10 #[.pointer (some ⟨p, 0, none⟩), .int .i64 (i : Int)] w fun e w' => e = .returned (.pointer (s.P i)) ∧ One p w w' ∧ ∃ r a c, PoIn w' p st { s with r := r, a := a, c := c } ∧ (∀ j, here r j ↔ here s.r j) ∧ ∀ x, a = some x → w.heap.size ≤ x.block := by
  obtain ⟨-, c1, c2, -, -, hlt⟩ := h.cells
  have HA := toHid (Ck.touch_any s.a s.c s.r (i : Int) w h.ring h.len)
  obtain ⟨t0, t1, t2, t3⟩ := touch_ok h.may h.np (by omega) (by omega) hh
  generalize hR : Ck.pinR s.r (i : Int) 0 true = R at *
  obtain ⟨r, x⟩ := R
  simp only at t0 t1 t2 t3
  subst t0
  have HH := toHid h
  clear h hh hR
  go_enter Try.func10, Try.ntmps10
  go_wp2_with fail
  refine Calls.mono HA.out ?_
  rintro e w1 ⟨a, c, rfl, hs, hb, hnew⟩
  clear HA c1 c2
  simp only at hs
  have hb2 := hb.alloc hb.size (.cells #[.slice a r.fr.length c, .int .i64 r.hand] 36)
  have h1 := HH.out.below hb
  obtain ⟨-, c1, c2, f1, f2, hlt1⟩ := h1.cells
  obtain ⟨d0, d1, d2, e0, e1, e2⟩ := h1.held i hi
  have hne : p ≠ w1.heap.size := by omega
  have HX := toHid ((h1.set r a c t1 t2 hs (fun x hx => by have := hnew x hx; omega)).below ((Below.refl _ _).alloc (Nat.le_refl _) (.cells #[.slice a r.fr.length c, .int .i64 r.hand] 36)))
  have HB := toHid ((((One.of hb).set (p := p) 1 (.slice a r.fr.length c)).set 2 (.int .i64 r.hand)).trans (One.of ((Below.refl _ _).alloc (Nat.le_refl _) (.cells #[.slice a r.fr.length c, .int .i64 r.hand] 36))))
  clear hs h1 hb hb2
  go_wp2
  go_ret
  exact ⟨rfl, HB.out, r, a, c, HX.out, t3, hnew⟩
end Go.Proofs.Ytcloinonhpaojaa
