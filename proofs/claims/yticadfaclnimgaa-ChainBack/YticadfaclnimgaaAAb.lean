/-
  A change turned round: the program's, and the document's.
-/
import Derived.Test.YticadfaclnimgaaAAa
namespace Go.Proofs.Yticadfaclnimgaa.Ak
open Go.RowKit

theorem cell4 {w : World} {g : Nat} {a b c d : Value} {t : TypeId} (h : w.heap[g]? = some (.cells #[a, b, c, d] t)) :
    w.cell? ⟨g, 0, none⟩ = some a ∧ w.cell? ⟨g, 1, none⟩ = some b ∧ w.cell? ⟨g, 2, none⟩ = some c ∧ w.cell? ⟨g, 3, none⟩ = some d ∧ w.frozen? ⟨g, 0, none⟩ = false ∧ w.frozen? ⟨g, 1, none⟩ = false ∧ w.frozen? ⟨g, 2, none⟩ = false ∧ w.frozen? ⟨g, 3, none⟩ = false ∧ g < w.heap.size := by
  have hg := (Array.getElem?_eq_some_iff.mp h).1
  refine ⟨?_, ?_, ?_, ?_, ?_, ?_, ?_, ?_, hg⟩ <;> simp [World.cell?, World.frozen?, h]

theorem two_kept {w w' : World} {A B : Obj} (hb : Below ((w.alloc A).alloc B).heap.size ((w.alloc A).alloc B) w') : w'.heap[w.heap.size]? = some A ∧ w'.heap[w.heap.size + 1]? = some B := by
  constructor
  · rw [hb.block _ (by simp; omega), Below.heap_alloc _ _ _ (by simp)]
    exact heap_alloc_new w A
  · rw [hb.block _ (by simp)]
    have := heap_alloc_new (w.alloc A) B
    simpa using this

/-- The cells of a block that is written over. -/
theorem put4 {w : World} {g : Nat} {a b c d a' b' c' d' : Value} {t : TypeId} (h : w.heap[g]? = some (.cells #[a, b, c, d] t)) :
    ((((w.setCell ⟨g, 0, none⟩ a').setCell ⟨g, 1, none⟩ b').setCell ⟨g, 2, none⟩ c').setCell ⟨g, 3, none⟩ d').heap[g]? = some (.cells #[a', b', c', d'] t) :=
  heap_setCell_same _ _ 3 _ t _ (heap_setCell_same _ _ 2 _ t _ (heap_setCell_same _ _ 1 _ t _ (heap_setCell_same _ _ 0 _ t _ h)))

theorem below_put4 {w w' : World} {D g : Nat} (h : Below D w w') (hg : D ≤ g) (a b c d : Value) : Below D w ((((w'.setCell ⟨g, 0, none⟩ a).setCell ⟨g, 1, none⟩ b).setCell ⟨g, 2, none⟩ c).setCell ⟨g, 3, none⟩ d) :=
  (((h.setCell hg _).setCell hg _).setCell hg _).setCell hg _

set_option maxRecDepth 20000 in
set_option maxHeartbeats 1000000 in
theorem turn_any (a : Ac) (w : World) : Calls Try.prog 30 #[actV a] w fun e w' => e = .returned (actV (turnA a)) ∧ Below w.heap.size w w' := by
  obtain ⟨k, x, y, z⟩ := a
  have HM := (show Hid _ from amay_any k x y z)
  have HB0 : Hid (Below w.heap.size w ((w.alloc (.cells (actC ⟨k, x, y, z⟩) 30)).alloc (.cells #[.int .i64 0, .string ⟨#[]⟩, .string ⟨#[]⟩, .string ⟨#[]⟩] 30))) := ((Below.refl _ _).alloc (Nat.le_refl _) _).alloc (by simp) _
  simp only [actV, actC] at *
  go_enter Try.func30, Try.ntmps30
  go_wp2_with fail
  refine Calls.mono (HM.out _) ?_
  rintro e w1 ⟨rfl, hb1⟩
  have HB1 := (show Hid _ from below_on HB0.out hb1)
  obtain ⟨k0, k1⟩ := two_kept hb1
  obtain ⟨c0, c1, c2, c3, f0, f1, f2, f3, hz⟩ := cell4 k0
  have HK1 := (show Hid _ from k1)
  obtain ⟨d0, d1, d2, d3, g0, g1, g2, g3, hz2⟩ := cell4 k1
  clear hb1 k0 k1 HB0
  cases hm : actB k x y z
  · have HE : Hid (turnA ⟨k, x, y, z⟩ = Ac.zero) := by show _ = _; simp [turnA, mayA, hm]
    have hP := put4 (a' := .int .i64 0) (b' := .string ⟨#[]⟩) (c' := .string ⟨#[]⟩) (d' := .string ⟨#[]⟩) HK1.out
    obtain ⟨r0, r1, r2, r3, _⟩ := cell4 hP
    clear hP
    go_wp2
    refine bodyPost_ret (v := actV Ac.zero) (by simp only [results, Try.results30, go_sem, actV, actC, Ac.zero, txt]; simp [go_sem, r0, r1, r2, r3]) rfl ⟨by rw [HE.out], ?_⟩
    exact below_put4 HB1.out (by simp) _ _ _ _
  · have HE : Hid (turnA ⟨k, x, y, z⟩ = ⟨turnK k, x, z, y⟩) := by show _ = _; simp [turnA, mayA, hm]
    have HT := (show Hid _ from turned_any k)
    have hP := put4 (a' := .int .i64 (turnK k)) (b' := .string (txt x)) (c' := .string (txt z)) (d' := .string (txt y)) HK1.out
    obtain ⟨r0, r1, r2, r3, _⟩ := cell4 hP
    clear hP
    go_wp2_with fail
    refine wp_region_quiet_tail 10 Try.mixed (by kernel_rfl) ?_
    simp only [List.take_succ_cons, List.take_zero, List.drop_succ_cons, List.drop_zero]
    repeat (first | go_big_quiet_step (fail) | (go_big_quiet_want; go_big_quiet_op; refine ⟨_, HT.out _, ?_⟩; go_big_quiet_on))
    refine wpQuiet_nil ?_
    go_wp2
    refine bodyPost_ret (v := actV ⟨turnK k, x, z, y⟩) (by simp only [results, Try.results30, go_sem, actV, actC]; simp [go_sem, World.cell?_drew, r0, r1, r2, r3]) rfl ⟨by rw [HE.out], ?_⟩
    exact (below_put4 HB1.out (by simp) _ _ _ _).drew

theorem Try.held35 : Try.prog.stoodInHeld 30 = false := by kernel_rfl
theorem Try.struct35 : Try.prog.underlying 30 = some (.struct (Try.prog.fieldsOf 30)) := by kernel_rfl
theorem Try.guard35 : Try.prog.eqGuardType Try.prog.depth 30 = false := by kernel_rfl

theorem act_eq (ak bk : Int) (k o n k' o' n' : ByteArray) (w : World) :
    (Op.equalIn 10000 30 (.agg #[.int .i64 ak, .string k, .string o, .string n]) (.agg #[.int .i64 bk, .string k', .string o', .string n'])).run Try.prog w = .ok ((ak == bk) && ((k.toList == k'.toList) && ((o.toList == o'.toList) && (n.toList == n'.toList)))) w := by
  rw [show (10000 : Nat) = 9999 + 1 from rfl, run_equalIn_struct w 9999 30 _ _ Try.struct35 Try.held35]
  simp [Program.fieldsOf, Try.underlying30, Op.eqFields, go_sem]
  repeat' split
  all_goals simp_all
theorem act_same (a b : Ac) (w : World) : (Op.equalIn 10000 30 (actV a) (actV b)).run Try.prog w = .ok (decide (a = b)) w := by
  obtain ⟨ak, k, o, n⟩ := a
  obtain ⟨bk, k', o', n'⟩ := b
  rw [act_eq]
  congr 1
  simp only [txt_toList]
  rw [Bool.eq_iff_iff]
  simp

end Go.Proofs.Yticadfaclnimgaa.Ak
