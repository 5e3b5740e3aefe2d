/-
  What the laws have in common: two records that were boxed; light.
-/
import Derived.Test.YticnkppnpfgceaaSa
namespace Go.Proofs.Yticnkppnpfgceaa
open Go.RowKit

theorem two_kept {w w' : World} {A B : Obj} (hb : Below (w.heap.size + 2) ((w.alloc A).alloc B) w') : w'.heap[w.heap.size]? = some A ∧ w'.heap[w.heap.size + 1]? = some B := by
  refine ⟨?_, ?_⟩
  · rw [hb.block _ (by omega), Below.heap_alloc _ _ _ (by simp)]
    exact heap_alloc_new w A
  · rw [hb.block _ (by omega)]
    have := heap_alloc_new (w.alloc A) B
    simpa using this

/-- A record that came in. -/
structure RI (w : World) (r : Rc) (ta da : Option Addr) : Prop where
  t : SlT w ta r.txns
  d : SlD w da r.dirty
  lt : r.txns.length ≤ maxLen
  ld : r.dirty.length ≤ maxLen
theorem RI.below {w w' : World} {r : Rc} {ta da : Option Addr} (h : RI w r ta da) (hb : Below w.heap.size w w') : RI w' r ta da := ⟨h.t.below hb, h.d.below hb, h.lt, h.ld⟩

theorem boxes {w W : World} {a b : Rc} {ta : Option Addr} {tc : Nat} {da : Option Addr} {dc : Nat} {ta2 : Option Addr} {tc2 : Nat} {da2 : Option Addr} {dc2 : Nat} (h : Below (w.heap.size + 2) ((w.alloc (.cells (recC a ta tc da dc) 50)).alloc (.cells (recC b ta2 tc2 da2 dc2) 50)) W) :
    W.heap[w.heap.size]? = some (.cells (recC a ta tc da dc) 50) ∧ W.heap[w.heap.size + 1]? = some (.cells (recC b ta2 tc2 da2 dc2) 50) := two_kept h

theorem box2_below {w W : World} {A B : Obj} (h : Below (w.heap.size + 2) ((w.alloc A).alloc B) W) : Below w.heap.size w W :=
  (((Below.refl _ _).alloc (Nat.le_refl _) _).alloc (by simp) _).trans (h.mono (by omega))
theorem box2_on {w W W' : World} {A B : Obj} (h : Below (w.heap.size + 2) ((w.alloc A).alloc B) W) (h' : Below W.heap.size W W') : Below (w.heap.size + 2) ((w.alloc A).alloc B) W' :=
  h.trans (h'.mono (by have := h.size; simpa using this))
theorem box1_below {w W : World} {A : Obj} (h : Below (w.heap.size + 1) (w.alloc A) W) : Below w.heap.size w W :=
  ((Below.refl _ _).alloc (Nat.le_refl _) _).trans (h.mono (by omega))
theorem box1_on {w W W' : World} {A : Obj} (h : Below (w.heap.size + 1) (w.alloc A) W) (h' : Below W.heap.size W W') : Below (w.heap.size + 1) (w.alloc A) W' :=
  h.trans (h'.mono (by have := h.size; simpa using this))
theorem box1_kept {w W : World} {A : Obj} (h : Below (w.heap.size + 1) (w.alloc A) W) : W.heap[w.heap.size]? = some A := by
  rw [h.block _ (by omega)]
  exact heap_alloc_new w A

theorem str_same (l m : List UInt8) (b : Bool) (h : (l = m) ↔ b = true) : ((txt l).toList == (txt m).toList) = b := by
  rw [txt_toList, txt_toList]
  cases b
  · simp at h
    simp [h]
  · simp [h.2 rfl]

theorem refchg_any (k : Int) (w : World) : Calls Try.prog 61 #[.int .i64 k] w fun e w' => e = .returned (.bool (chgB k)) ∧ w' = w := by
  by_cases h1 : k = 1
  · subst h1
    go_enter Try.func61, Try.ntmps61
    go_wp2
    go_ret
    exact ⟨rfl, rfl⟩
  · by_cases h2 : k = 2
    · subst h2
      go_enter Try.func61, Try.ntmps61
      go_wp2
      go_ret
      exact ⟨rfl, rfl⟩
    · rw [show chgB k = false by simp [chgB, h1, h2]]
      have h1' : (k == 1) = false := by simp [h1]
      have h2' : (k == 2) = false := by simp [h2]
      clear h1 h2
      go_enter Try.func61, Try.ntmps61
      go_wp2
      go_ret
      exact ⟨rfl, rfl⟩

end Go.Proofs.Yticnkppnpfgceaa
