/-
  Take of a pool; how a page is put into one.
-/
import Derived.Test.YtcloinonhpaojaaQb
namespace Go.Proofs.Ytcloinonhpaojaa
open Go.RowKit

theorem _root_.Go.RowKit.Below.dn {B : Nat} {a w : World} (h : Below B a w) (n : Nat) : Below B a (w.drewN n) := h.trans ⟨rfl, rfl, rfl, Nat.le_refl _, fun _ _ => rfl⟩

theorem take_no (p : Nat) (st : Value) (s : Po) (id : Int) (w : World) (h : PoIn w p st s) (hh : ¬ (0 ≤ id ∧ id < 16 ∧ here s.r id)) :
    Calls Try.prog 15 #[.pointer (some ⟨p, 0, none⟩), .int .i64 id] w fun e w' => e = .returned (.tuple #[.pointer none, .int .u64 0, .int .i64 8]) ∧ Below w.heap.size w w' := by
  obtain ⟨-, c1, c2, -, -, hlt⟩ := h.cells
  have HA := toHid (Ck.drop_any s.a s.c s.r id w h.ring h.len)
  rw [drop_no h.may hh] at HA
  clear h hh
  go_enter Try.func15, Try.ntmps15
  go_wp2_with fail
  refine Calls.mono HA.out ?_
  rintro e w1 ⟨a, c, rfl, -, hb, -⟩
  clear HA
  have hb2 := hb.alloc hb.size (.cells #[.slice a (0 : Nat) c, .int .i64 0] 36)
  go_wp2
  exact bodyPost_ret (v := .tuple #[.pointer none, .int .u64 0, .int .i64 8]) (by simp [results, Try.results15, go_sem]) rfl ⟨rfl, hb2⟩
theorem take_nil (id : Int) (w : World) : Calls Try.prog 15 #[.pointer none, .int .i64 id] w fun e w' => e = .returned (.tuple #[.pointer none, .int .u64 0, .int .i64 1]) ∧ w' = w := by
  go_enter Try.func15, Try.ntmps15
  go_wp2
  exact bodyPost_ret (v := .tuple #[.pointer none, .int .u64 0, .int .i64 1]) (by simp [results, Try.results15, go_sem]) rfl ⟨rfl, rfl⟩

set_option maxHeartbeats 1000000 in
theorem take_yes (p : Nat) (st : Value) (s : Po) (i : Nat) (w : World) (h : PoIn w p st s) (hi : i < 16) (hh : here s.r (i : Int)) :
    Calls Try.prog 15 #[.pointer (some ⟨p, 0, none⟩), .int .i64 (i : Int)] w fun e w' => e = .returned (.tuple #[.pointer (s.P i), .int .u64 (s.R i : Int), .int .i64 0]) ∧ One p w w' ∧ ∃ r a c, PoIn w' p st ⟨r, a, c, upd s.P i none, upd s.D i false, upd s.R i 0⟩ ∧ here r (-1) ∧ (∀ j : Int, 0 ≤ j → (here r j ↔ j ≠ i ∧ here s.r j)) ∧ ∀ x, a = some x → w.heap.size ≤ x.block := by
  obtain ⟨-, c1, c2, -, -, hlt⟩ := h.cells
  have HA := toHid (Ck.drop_any s.a s.c s.r (i : Int) w h.ring h.len)
  obtain ⟨t0, t1, t2, t3, t4⟩ := drop_ok h.may h.np (by omega) (by omega) hh
  generalize hR : Ck.dropR s.r (i : Int) = R at *
  obtain ⟨r, x⟩ := R
  simp only at t0 t1 t2 t3 t4
  subst t0
  have HH := toHid h
  clear h hh hR
  go_enter Try.func15, Try.ntmps15
  go_wp2_with fail
  refine Calls.mono HA.out ?_
  rintro e w1 ⟨a, c, rfl, hs, hb, hnew⟩
  clear HA c1 c2
  simp only at hs
  have h1 := HH.out.below hb
  have hne0 : ∀ x, s.a = some x → x.block < w.heap.size := fun x hx => by obtain ⟨y, h2, h3⟩ := HH.out.at; rw [hx] at h2; simp at h2; subst h2; exact h3
  obtain ⟨-, c1, c2, f1, f2, hlt1⟩ := h1.cells
  obtain ⟨d0, d1, d2, e0, e1, e2⟩ := h1.held i hi
  have hne : p ≠ w1.heap.size := by omega
  have hne2 : p ≠ w1.heap.size + 1 := by omega
  have HS := toHid hs
  have HB := toHid hb
  clear hs h1 hb
  go_wp2_with fail
  go_region
  generalize hW : World.drew (World.alloc _ _) = W
  have h1 := HH.out.below HB.out
  have HX : Hid (PoIn W p st ⟨r, a, c, upd s.P i none, upd s.D i false, upd s.R i 0⟩) := by
    rw [← hW]
    have q := ((h1.set r a c t1 t2 HS.out (fun x hx => by have := hnew x hx; omega)).setH (fun x hx => by have := hnew x hx; omega) i hi none false 0)
    exact (q.below ((Below.refl _ _).alloc (Nat.le_refl _) _)).below (((Below.refl _ _).alloc (Nat.le_refl _) _).drew)
  have HO : Hid (One p w W) := by
    rw [← hW]
    refine One.drew ?_
    refine One.trans ?_ (One.of ((Below.refl _ _).alloc (Nat.le_refl _) _))
    refine One.trans ?_ (One.of ((Below.refl _ _).alloc (Nat.le_refl _) _))
    exact (((((One.of HB.out).set 1 _).set 2 _).set _ _).set _ _).set _ _
  have hz : W.heap[w1.heap.size + 1]? = some (.cells #[.pointer (s.P i), .bool (s.D i), .int .u64 (s.R i : Int)] 88) := by
    rw [← hW]
    show (World.alloc _ _).heap[w1.heap.size + 1]? = _
    have := heap_alloc_new ((((((w1.setCell ⟨p, 1, none⟩ (.slice a r.fr.length c)).setCell ⟨p, 2, none⟩ (.int .i64 r.hand)).setCell ⟨p, 3 + i * 3, none⟩ (.pointer none)).setCell ⟨p, 3 + i * 3 + 1, none⟩ (.bool false)).setCell ⟨p, 3 + i * 3 + 2, none⟩ (.int .u64 0)).alloc (.cells #[.slice a r.fr.length c, .int .i64 r.hand] 36)) (.cells #[.pointer (s.P i), .bool (s.D i), .int .u64 (s.R i : Int)] 88)
    simpa using this
  clear hW h1 HB HS c1 c2 f1 f2 d0 d1 d2 e0 e1 e2
  obtain ⟨q0, q1, q2, -⟩ := Ck.cell3 hz
  clear hz
  go_wp2_with fail
  go_quiet (fail)
  go_wp2
  exact bodyPost_ret (v := .tuple #[.pointer (s.P i), .int .u64 (s.R i : Int), .int .i64 0]) (by simp [results, Try.results15, go_sem]) rfl ⟨rfl, HO.out.trans (One.of ((Below.refl _ _).dn _)), r, a, c, HX.out.below ((Below.refl _ _).dn _), t3, t4, hnew⟩
end Go.Proofs.Ytcloinonhpaojaa
