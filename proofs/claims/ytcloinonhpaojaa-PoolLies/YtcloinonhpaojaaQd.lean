/-
  A page is put into a pool; Soil.
-/
import Derived.Test.YtcloinonhpaojaaQb
namespace Go.Proofs.Ytcloinonhpaojaa
open Go.RowKit

theorem put_err (p : Nat) (st : Value) (s : Po) (id : Int) (q : Option Addr) (b : Bool) (n : Nat) (w : World) (h : PoIn w p st s) (x : Int) (hx : (Ck.putR s.r id).2 = x) (h0 : x ≠ 0) :
    Calls Try.prog 29 #[.pointer (some ⟨p, 0, none⟩), .int .i64 id, .agg #[.pointer q, .bool b, .int .u64 (n : Int)]] w fun e w' => e = .returned (.int .i64 x) ∧ Below w.heap.size w w' := by
  have hb0 := (Below.refl w.heap.size w).alloc (Nat.le_refl _) (.cells #[.pointer q, .bool b, .int .u64 (n : Int)] 88)
  have h1 := h.below hb0
  obtain ⟨-, c1, c2, -, -, hlt⟩ := h.cells
  have HA := toHid (Ck.put_any s.a s.c s.r id _ h1.ring h1.len)
  rw [show Ck.putR s.r id = ((Ck.putR s.r id).1, x) by rw [← hx]] at HA
  have hne : (x != 0) = true := by simpa using h0
  have hlt' : p ≠ w.heap.size := by omega
  clear h h1 hx
  generalize (Ck.putR s.r id).1 = r at HA
  go_enter Try.func29, Try.ntmps29
  go_wp2_with fail
  refine Calls.mono HA.out ?_
  rintro e w1 ⟨a, c, rfl, -, hb, -⟩
  clear HA
  have hb1 := hb0.trans (hb.mono (by simp))
  have hb2 := hb1.alloc hb1.size (.cells #[.slice a r.fr.length c, .int .i64 r.hand] 36)
  clear hb hb1 hb0
  go_wp2
  go_ret
  exact ⟨rfl, hb2⟩

set_option maxHeartbeats 1000000 in
theorem put_yes (p : Nat) (st : Value) (s : Po) (i : Nat) (q : Option Addr) (b : Bool) (n : Nat) (w : World) (h : PoIn w p st s) (hi : i < 16) (h0 : (Ck.putR s.r (i : Int)).2 = 0) :
    Calls Try.prog 29 #[.pointer (some ⟨p, 0, none⟩), .int .i64 (i : Int), .agg #[.pointer q, .bool b, .int .u64 (n : Int)]] w fun e w' => e = .returned (.int .i64 0) ∧ One p w w' ∧ ∃ r a c, PoIn w' p st ⟨r, a, c, upd s.P i q, upd s.D i b, upd s.R i n⟩ ∧ r.fr.length = s.r.fr.length ∧ (∀ j : Int, 0 ≤ j → (here r j ↔ j = i ∨ here s.r j)) ∧ ∀ x, a = some x → w.heap.size ≤ x.block := by
  have hb0 := (Below.refl w.heap.size w).alloc (Nat.le_refl _) (.cells #[.pointer q, .bool b, .int .u64 (n : Int)] 88)
  have hg0 := heap_alloc_new w (.cells #[.pointer q, .bool b, .int .u64 (n : Int)] 88)
  have hz0 : (w.alloc (.cells #[.pointer q, .bool b, .int .u64 (n : Int)] 88)).heap.size = w.heap.size + 1 := by simp
  have h1 := h.below hb0
  obtain ⟨-, c1, c2, -, -, hlt⟩ := h.cells
  have HA := toHid (Ck.put_any s.a s.c s.r (i : Int) _ h1.ring h1.len)
  obtain ⟨-, -, -, -, t1, t2, t5, t3⟩ := put_ok h.may h.np h0
  generalize hR : Ck.putR s.r (i : Int) = R at *
  obtain ⟨r, x⟩ := R
  simp only at h0 t1 t2 t3 t5
  have H5 := toHid t5
  clear t5
  subst h0
  have HH := toHid h
  have HH1 := toHid h1
  have hlt' : p ≠ w.heap.size := by omega
  clear h h1 hR
  go_enter Try.func29, Try.ntmps29
  go_wp2_with fail
  refine Calls.mono HA.out ?_
  rintro e w1 ⟨a, c, rfl, hs, hb, hnew⟩
  clear HA c1 c2
  simp only at hs
  have hb1 := hb0.trans (hb.mono (by simp))
  have h1 := HH1.out.below hb
  have hg1 : w1.heap[w.heap.size]? = some (.cells #[.pointer q, .bool b, .int .u64 (n : Int)] 88) := by rw [hb.block _ (by simp)]; exact hg0
  obtain ⟨g0, g1, g2, -⟩ := Ck.cell3 hg1
  obtain ⟨-, c1, c2, f1, f2, hlt1⟩ := h1.cells
  obtain ⟨d0, d1, d2, e0, e1, e2⟩ := h1.held i hi
  have hsz : w.heap.size < w1.heap.size := by have := hb.size; simp at this; omega
  have hne : p ≠ w1.heap.size := by omega
  have hne3 : w.heap.size ≠ w1.heap.size := by omega
  have HS := toHid hs
  have HB := toHid hb1
  have hnew' : ∀ x, a = some x → w.heap.size ≤ x.block := fun x hx => by have := hnew x hx; rw [hz0] at this; omega
  have hnp : ∀ x, a = some x → x.block ≠ p := fun x hx => by have := hnew x hx; rw [hz0] at this; omega
  clear hs h1 hb hb0 hb1 hg0 hg1 hz0 hnew
  go_wp2_with fail
  go_region
  generalize hW : World.drew (World.alloc _ _) = W
  have h1 := HH.out.below HB.out
  have HX : Hid (PoIn W p st ⟨r, a, c, upd s.P i q, upd s.D i b, upd s.R i n⟩) := by
    rw [← hW]
    have q := ((h1.set r a c t1 t2 HS.out hnp).setH hnp i hi q b n)
    exact q.below (((Below.refl _ _).alloc (Nat.le_refl _) _).drew)
  have HO : Hid (One p w W) := by
    rw [← hW]
    refine One.drew ?_
    refine One.trans ?_ (One.of ((Below.refl _ _).alloc (Nat.le_refl _) _))
    exact (((((One.of HB.out).set 1 _).set 2 _).set _ _).set _ _).set _ _
  clear hW h1 HB HS c1 c2 f1 f2 d0 d1 d2 e0 e1 e2 g0 g1 g2
  go_wp2
  go_ret
  exact ⟨rfl, HO.out, r, a, c, HX.out, H5.out, t3, hnew'⟩

theorem soil_no (p : Nat) (st : Value) (s : Po) (id l : Int) (w : World) (h : PoIn w p st s) (hh : ¬ (0 ≤ id ∧ id < 16 ∧ here s.r id)) :
    Calls Try.prog 13 #[.pointer (some ⟨p, 0, none⟩), .int .i64 id, .int .u64 l] w fun e w' => e = .returned (.int .i64 8) ∧ Below w.heap.size w w' := by
  have HA := toHid (at_no p st s id w h hh)
  clear h hh
  go_enter Try.func13, Try.ntmps13
  go_wp2_with fail
  refine Calls.mono HA.out ?_
  rintro e w1 ⟨rfl, hb⟩
  clear HA
  go_wp2
  go_ret
  exact ⟨rfl, hb⟩
theorem soil_nil (id l : Int) (w : World) : Calls Try.prog 13 #[.pointer none, .int .i64 id, .int .u64 l] w fun e w' => e = .returned (.int .i64 1) ∧ w' = w := by
  have HA := toHid (at_nil id w)
  go_enter Try.func13, Try.ntmps13
  go_wp2_with fail
  refine Calls.mono HA.out ?_
  rintro e w1 ⟨rfl, hw⟩
  obtain rfl := hw.symm
  clear HA
  go_wp2
  go_ret
  exact ⟨rfl, rfl⟩
theorem soil_yes (p : Nat) (st : Value) (s : Po) (i l : Nat) (w : World) (h : PoIn w p st s) (hi : i < 16) (hh : here s.r (i : Int)) (hp : ∀ x, s.a = some x → x.block ≠ p) :
    Calls Try.prog 13 #[.pointer (some ⟨p, 0, none⟩), .int .i64 (i : Int), .int .u64 (l : Int)] w fun e w' => e = .returned (.int .i64 0) ∧ One p w w' ∧ ∃ m, PoIn w' p st { s with D := upd s.D i true, R := upd s.R i m } := by
  have HA := toHid (at_yes p st s i w h hi hh)
  have HH := toHid h
  clear h hh
  go_enter Try.func13, Try.ntmps13
  go_wp2_with fail
  refine Calls.mono HA.out ?_
  rintro e w1 ⟨rfl, hb⟩
  clear HA
  have h1 := HH.out.below hb
  obtain ⟨d0, d1, d2, e0, e1, e2⟩ := h1.held i hi
  have hlt := h1.lt
  have HX := toHid h1
  clear h1
  cases hD : s.D i
  · rw [hD] at d1
    go_wp2
    go_ret
    exact ⟨rfl, ((One.of hb).set _ _).set _ _, l, HX.out.setD hp i hi true l⟩
  · rw [hD] at d1
    go_wp2
    go_ret
    refine ⟨rfl, One.of hb, s.R i, ?_⟩
    have e1 : upd s.D i true = s.D := by funext j; unfold upd; split <;> simp_all
    have e2 : upd s.R i (s.R i) = s.R := by funext j; unfold upd; split <;> simp_all
    rw [e1, e2]
    exact HX.out
end Go.Proofs.Ytcloinonhpaojaa
