/-
  How much more a transaction needs behind a record that may be.
-/
import Derived.Test.YticadfaclnimgaaDa
namespace Go.Proofs.Yticadfaclnimgaa
open Go.RowKit Go.Maps

/-- A record in a box. -/
abbrev Box (W : World) (g : Nat) (r : Rc) (ta : Option Addr) (tc : Nat) (da : Option Addr) (dc : Nat) : Prop :=
  W.cell? ⟨g, 0, none⟩ = some (.int .i64 r.kind) ∧ W.cell? ⟨g, 1, none⟩ = some (.int .u64 (r.lsn : Int)) ∧ W.cell? ⟨g, 2, none⟩ = some (.int .i64 r.txn) ∧ W.cell? ⟨g, 3, none⟩ = some (.int .u64 (r.prev : Int)) ∧ W.cell? ⟨g, 4, none⟩ = some (.int .u64 (r.undo : Int)) ∧ W.cell? ⟨g, 5, none⟩ = some (.int .i64 r.page) ∧
  W.cell? ⟨g, 6, none⟩ = some (.int .i64 r.ak) ∧ W.cell? ⟨g, 7, none⟩ = some (.string (txt r.key)) ∧ W.cell? ⟨g, 8, none⟩ = some (.string (txt r.old)) ∧ W.cell? ⟨g, 9, none⟩ = some (.string (txt r.new)) ∧ W.cell? ⟨g, 10, none⟩ = some (.slice ta r.txns.length tc) ∧ W.cell? ⟨g, 11, none⟩ = some (.slice da r.dirty.length dc)
theorem box_of {W : World} {g : Nat} {r : Rc} {ta : Option Addr} {tc : Nat} {da : Option Addr} {dc : Nat} (h : W.heap[g]? = some (.cells (recC r ta tc da dc) 34)) : Box W g r ta tc da dc := by
  refine ⟨?_, ?_, ?_, ?_, ?_, ?_, ?_, ?_, ?_, ?_, ?_, ?_⟩ <;> simp [World.cell?, h]
theorem box_new {w W : World} {r : Rc} {ta : Option Addr} {tc : Nat} {da : Option Addr} {dc : Nat} (h : Below (w.heap.size + 1) (w.alloc (.cells (recC r ta tc da dc) 34)) W) : W.heap[w.heap.size]? = some (.cells (recC r ta tc da dc) 34) := by
  rw [h.block _ (by omega)]
  exact heap_alloc_new w _

theorem wrap_nn {a b : Nat} (h : a + b ≤ 4000000000) : IntKind.i64.wrap ((a : Int) + (b : Int)) = ((a + b : Nat) : Int) := by
  rw [IntKind.wrap_i64]
  omega
theorem ret_i {k : IntKind} {a b : Int} (h : a = b) : Ending.returned (.int k a) = .returned (.int k b) := by rw [h]
/-- How much more. -/
def moreN (x : Tn) (r : Rc) : Nat := if r.kind = 1 then firstN x + backN r else if r.kind = 6 then firstN x else 0
theorem firstN_le (x : Tn) : firstN x ≤ 54 := by unfold firstN; split <;> omega
theorem moreN_le {x : Tn} {r : Rc} (h : mayB r = true) : moreN x r ≤ 200 := by
  have := firstN_le x
  unfold moreN
  split
  · have := backN_le h ‹_›
    omega
  · split <;> omega

section
variable {w : World} {b : Nat} {x : Tn} {v : Value} {r : Rc} {ta : Option Addr} {tc : Nat} {da : Option Addr} {dc : Nat}
set_option maxRecDepth 100000 in
set_option maxHeartbeats 4000000 in
theorem more36 (hb : w.heap[b]? = some (.cells (txC x v) 74)) (h : mayB r = true) :
    Calls Try.prog 36 #[.pointer (some ⟨b, 0, none⟩), recV r ta tc da dc] w fun e w' => e = .returned (.int .i64 (moreN x r : Int)) ∧ Below w.heap.size w w' := by
  have hlt := some_lt hb
  have HB0 := toHid (show Below w.heap.size w (w.alloc (.cells (recC r ta tc da dc) 34)) from (Below.refl _ _).alloc (Nat.le_refl _) _)
  have HF := toHid (fun W (hW : Below w.heap.size w W) => first52 (w := W) (b := b) (x := x) (v := v) ((hW.block b hlt).trans hb))
  have HX := toHid (fun W (hW : Below (w.heap.size + 1) (w.alloc (.cells (recC r ta tc da dc) 34)) W) => box_of (box_new hW))
  have hfl := firstN_le x
  by_cases h1 : r.kind = 1
  · have HE := toHid (show moreN x r = firstN x + backN r by unfold moreN; rw [if_pos h1])
    have HS := toHid (fun W => backSize53 r ta tc da dc W h h1)
    have hbl := backN_le h h1
    have hS0 := HX.out ((w.alloc (.cells (recC r ta tc da dc) 34)).drew) ((Below.refl _ _).drew)
    have HD0 := toHid (show Below w.heap.size w ((w.alloc (.cells (recC r ta tc da dc) 34)).drew) from HB0.out.drew)
    have HD1 := toHid (show Below (w.heap.size + 1) (w.alloc (.cells (recC r ta tc da dc) 34)) ((w.alloc (.cells (recC r ta tc da dc) 34)).drew) from (Below.refl _ _).drew)
    have g1 : (r.kind == 1) = true := by simpa using h1
    clear hb h h1
    go_enter Try.func36, Try.ntmps36
    go_wp2_with fail
    go_region_held3 (fun W => Box W w.heap.size r ta tc da dc) (with_reducible assumption) (first
      | (go_at_call 52; refine Calls.mono (HF.out _ HD0.out) ?_; rintro e w1 ⟨rfl, hw⟩; obtain rfl := hw.symm)
      | (go_at_call 53; refine Calls.mono (HS.out _) ?_; rintro e w2 ⟨rfl, hb2⟩; have HB2 := toHid (HD0.out.trans (hb2.mono HD0.out.size)); have hS2 := HX.out w2 (HD1.out.trans (hb2.mono (by simp))); clear hb2))
    all_goals
      go_wp2
      go_ret
      exact ⟨ret_i (by rw [HE.out]; exact wrap_nn (by omega)), HB2.out⟩
  · have g1 : (r.kind == 1) = false := by simpa using h1
    by_cases h6 : r.kind = 6
    · have HE := toHid (show moreN x r = firstN x by unfold moreN; rw [if_neg h1, if_pos h6])
      have g6 : (r.kind == 6) = true := by simpa using h6
      clear hb h h1 h6
      go_enter Try.func36, Try.ntmps36
      go_wp2_with (go_at_call 52; refine Calls.mono (HF.out _ HB0.out) ?_; rintro e w1 ⟨rfl, hw⟩; obtain rfl := hw.symm)
      go_ret
      exact ⟨by rw [HE.out]; rfl, HB0.out⟩
    · have HE := toHid (show moreN x r = 0 by unfold moreN; rw [if_neg h1, if_neg h6])
      have g6 : (r.kind == 6) = false := by simpa using h6
      clear hb h h1 h6
      go_enter Try.func36, Try.ntmps36
      go_wp2
      go_ret
      exact ⟨by rw [HE.out]; rfl, HB0.out⟩
end
end Go.Proofs.Yticadfaclnimgaa
