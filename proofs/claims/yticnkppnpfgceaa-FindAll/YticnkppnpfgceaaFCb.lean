/-
  The walks of behind, soil, note.
-/
import Derived.Test.YticnkppnpfgceaaFCa
namespace Go.Proofs.Yticnkppnpfgceaa.Mg
open Go.RowKit Go.Maps

theorem below3 {w : World} {a b c : Obj} : Below w.heap.size w (((w.alloc a).alloc b).alloc c) := (((Below.refl _ _).alloc (Nat.le_refl _) _).alloc (by simp) _).alloc (by simp; omega) _
theorem kept3 {w W : World} {a b c : Obj} (h : Below (((w.alloc a).alloc b).alloc c).heap.size (((w.alloc a).alloc b).alloc c) W) : W.heap[w.heap.size]? = some a ∧ W.heap[w.heap.size + 1]? = some b ∧ W.heap[w.heap.size + 1 + 1]? = some c ∧ Below w.heap.size w W := by
  refine ⟨?_, ?_, ?_, below3.trans (h.mono (by simp; omega))⟩
  · rw [h.block _ (by simp; omega), Below.heap_alloc _ _ _ (by simp; omega), Below.heap_alloc _ _ _ (by simp)]
    exact heap_alloc_new w a
  · rw [h.block _ (by simp), Below.heap_alloc _ _ _ (by simp)]
    have := heap_alloc_new (w.alloc a) b
    simpa using this
  · rw [h.block _ (by simp)]
    have := heap_alloc_new ((w.alloc a).alloc b) c
    simpa using this
theorem cellsT {w : World} {g : Nat} {a b c : Value} {t : TypeId} (h : w.heap[g]? = some (.cells #[a, b, c] t)) :
    w.cell? ⟨g, 0, none⟩ = some a ∧ w.cell? ⟨g, 1, none⟩ = some b ∧ w.cell? ⟨g, 2, none⟩ = some c ∧ w.frozen? ⟨g, 0, none⟩ = false ∧ w.frozen? ⟨g, 1, none⟩ = false ∧ w.frozen? ⟨g, 2, none⟩ = false := by
  refine ⟨?_, ?_, ?_, ?_, ?_, ?_⟩ <;> simp [World.cell?, World.frozen?, h]
theorem set3_0 {w : World} {g : Nat} {a b c : Value} {t : TypeId} (h : w.heap[g]? = some (.cells #[a, b, c] t)) (v : Value) : (w.setCell ⟨g, 0, none⟩ v).heap[g]? = some (.cells #[v, b, c] t) := by rw [cells_set h]; rfl
theorem set3_1 {w : World} {g : Nat} {a b c : Value} {t : TypeId} (h : w.heap[g]? = some (.cells #[a, b, c] t)) (v : Value) : (w.setCell ⟨g, 1, none⟩ v).heap[g]? = some (.cells #[a, v, c] t) := by rw [cells_set h]; rfl
theorem set3_2 {w : World} {g : Nat} {a b c : Value} {t : TypeId} (h : w.heap[g]? = some (.cells #[a, b, c] t)) (v : Value) : (w.setCell ⟨g, 2, none⟩ v).heap[g]? = some (.cells #[a, b, v] t) := by rw [cells_set h]; rfl
theorem put3_same {w : World} {g : Nat} {a b c : Value} {t : TypeId} (h : w.heap[g]? = some (.cells #[a, b, c] t)) (x y z : Value) : (((w.setCell ⟨g, 0, none⟩ x).setCell ⟨g, 1, none⟩ y).setCell ⟨g, 2, none⟩ z).heap[g]? = some (.cells #[x, y, z] t) := set3_2 (set3_1 (set3_0 h x) y) z
theorem put3_below {w0 w : World} {B g : Nat} (h : Below B w0 w) (hg : B ≤ g) (x y z : Value) : Below B w0 (((w.setCell ⟨g, 0, none⟩ x).setCell ⟨g, 1, none⟩ y).setCell ⟨g, 2, none⟩ z) := ((h.setCell hg _).setCell hg _).setCell hg _

set_option maxHeartbeats 1000000 in
theorem behind55 (g : Gt) (r : Rc) (p : Pl) (w : World) : Calls Try.prog 55 #[gtV g, recV r p] w fun e w' => e = .returned (gtV (behG g r)) ∧ Below w.heap.size w w' := by
  obtain ⟨g0, g1, g2⟩ := g
  cases hc : chg r
  · by_cases h4 : r.kind = 4
    · have q4 : (r.kind == 4) = true := by simp [h4]
      have HB := toHid (show behG ⟨g0, g1, g2⟩ r = ⟨2, r.lsn, g2⟩ by simp [behG, hc, h4])
      have HC := toHid (changes44 r p)
      rw [hc] at HC
      clear hc h4
      go_enter Try.func55, Try.ntmps55
      go_wp2_with (go_at_call 44; refine Calls.mono (HC.out _) ?_; rintro e w1 ⟨rfl, hb1⟩; obtain ⟨k0, k1, k2, kb⟩ := kept3 hb1; obtain ⟨a0, a1, a2, af0, af1, af2⟩ := cellsT k0; obtain ⟨b0, b1, b2, b3, b4, b5, b6, b7, b8, b9, b10, b11, bf⟩ := cell12 k1; obtain ⟨c0, c1, c2, cf0, cf1, cf2⟩ := cellsT k2; have HK0 := toHid k0; have HK2 := toHid k2; have HKB := toHid kb; clear hb1 k0 k1 k2 kb)
      refine bodyPost_ret (v := gtV ⟨2, r.lsn, g2⟩) (results_cell_row (P := Try.prog) Try.results55 _ _ (w.heap.size + 1 + 1) 91 _ (0, 0) _ rfl (put3_same (w := w1.setCell ⟨w.heap.size, 0, none⟩ (.int .i64 2)) ((Below.heap_setCell _ _ _ _ (by simp; omega)).trans HK2.out) _ _ _) Try.underlying91 rfl (by kernel_rfl)) rfl ⟨by rw [HB.out], put3_below (HKB.out.setCell (by simp) _) (by omega) _ _ _⟩
    · have q4 : (r.kind == 4) = false := by simp [h4]
      have HB := toHid (show behG ⟨g0, g1, g2⟩ r = ⟨g0, r.lsn, g2⟩ by simp [behG, hc, h4])
      have HC := toHid (changes44 r p)
      rw [hc] at HC
      clear hc h4
      go_enter Try.func55, Try.ntmps55
      go_wp2_with (go_at_call 44; refine Calls.mono (HC.out _) ?_; rintro e w1 ⟨rfl, hb1⟩; obtain ⟨k0, k1, k2, kb⟩ := kept3 hb1; obtain ⟨a0, a1, a2, af0, af1, af2⟩ := cellsT k0; obtain ⟨b0, b1, b2, b3, b4, b5, b6, b7, b8, b9, b10, b11, bf⟩ := cell12 k1; obtain ⟨c0, c1, c2, cf0, cf1, cf2⟩ := cellsT k2; have HK0 := toHid k0; have HK2 := toHid k2; have HKB := toHid kb; clear hb1 k0 k1 k2 kb)
      refine bodyPost_ret (v := gtV ⟨g0, r.lsn, g2⟩) (results_cell_row (P := Try.prog) Try.results55 _ _ (w.heap.size + 1 + 1) 91 _ (0, 0) _ rfl (put3_same (w := w1) HK2.out _ _ _) Try.underlying91 rfl (by kernel_rfl)) rfl ⟨by rw [HB.out], put3_below HKB.out (by omega) _ _ _⟩
  · have h4 : ¬ r.kind = 4 := fun h4 => by simp [chg, h4] at hc
    have q4 : (r.kind == 4) = false := by simp [h4]
    have HB := toHid (show behG ⟨g0, g1, g2⟩ r = ⟨g0, r.lsn, tellN r⟩ by simp [behG, hc, h4])
    have HC := toHid (changes44 r p)
    have HT := toHid (tells54 r p)
    rw [hc] at HC
    clear hc h4
    go_enter Try.func55, Try.ntmps55
    go_wp2_with (first
      | (go_at_call 44; refine Calls.mono (HC.out _) ?_; rintro e w1 ⟨rfl, hb1⟩; obtain ⟨k0, k1, k2, kb⟩ := kept3 hb1; obtain ⟨b0, b1, b2, b3, b4, b5, b6, b7, b8, b9, b10, b11, bf⟩ := cell12 k1; have HK0 := toHid k0; have HK1 := toHid k1; have HK2 := toHid k2; have HKB := toHid kb; clear hb1 k0 k1 k2 kb)
      | (go_at_call 54; refine Calls.mono (HT.out _) ?_; rintro e w2 ⟨rfl, hb2⟩; have k0 := (hb2.block _ (some_lt HK0.out)).trans HK0.out; have k1 := (hb2.block _ (some_lt HK1.out)).trans HK1.out; have k2 := (hb2.block _ (some_lt HK2.out)).trans HK2.out; have HKC := toHid (HKB.out.trans (hb2.mono HKB.out.size)); clear b0 b1 b2 b3 b4 b5 b6 b7 b8 b9 b10 b11 bf; obtain ⟨a0, a1, a2, af0, af1, af2⟩ := cellsT k0; obtain ⟨b0, b1, b2, b3, b4, b5, b6, b7, b8, b9, b10, b11, bf⟩ := cell12 k1; obtain ⟨c0, c1, c2, cf0, cf1, cf2⟩ := cellsT k2; have HL2 := toHid k2; clear hb2 k0 k1 k2))
    refine bodyPost_ret (v := gtV ⟨g0, r.lsn, tellN r⟩) (results_cell_row (P := Try.prog) Try.results55 _ _ (w.heap.size + 1 + 1) 91 _ (0, 0) _ rfl (put3_same (w := w2.setCell ⟨w.heap.size, 2, none⟩ (.int .u64 (tellN r : Int))) ((Below.heap_setCell _ _ _ _ (by simp; omega)).trans HL2.out) _ _ _) Try.underlying91 rfl (by kernel_rfl)) rfl ⟨by rw [HB.out], put3_below (HKC.out.setCell (by simp) _) (by omega) _ _ _⟩

end Go.Proofs.Yticnkppnpfgceaa.Mg
