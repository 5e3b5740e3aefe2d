/-
  What the laws have in common: two records that were boxed; light.
-/
import Derived.Test.YtjhjicokbdloiaaUb
import Derived.Test.YtjhjicokbdloiaaSa
namespace Go.Proofs.Ytjhjicokbdloiaa
open Go.RowKit

/-- A record that came in. -/
structure RI (w : World) (r : Rc) (ta da : Option Addr) : Prop where
  t : SlT w ta r.txns
  d : SlD w da r.dirty
  lt : r.txns.length ≤ maxLen
  ld : r.dirty.length ≤ maxLen
theorem RI.below {w w' : World} {r : Rc} {ta da : Option Addr} (h : RI w r ta da) (hb : Below w.heap.size w w') : RI w' r ta da := ⟨h.t.below hb, h.d.below hb, h.lt, h.ld⟩

theorem boxes {w W : World} {a b : Rc} {ta : Option Addr} {tc : Nat} {da : Option Addr} {dc : Nat} {ta2 : Option Addr} {tc2 : Nat} {da2 : Option Addr} {dc2 : Nat} (h : Below (w.heap.size + 2) ((w.alloc (.cells (recC a ta tc da dc) 31)).alloc (.cells (recC b ta2 tc2 da2 dc2) 31)) W) :
    W.heap[w.heap.size]? = some (.cells (recC a ta tc da dc) 31) ∧ W.heap[w.heap.size + 1]? = some (.cells (recC b ta2 tc2 da2 dc2) 31) := two_kept h

theorem box2_below {w W : World} {A B : Obj} (h : Below (w.heap.size + 2) ((w.alloc A).alloc B) W) : Below w.heap.size w W :=
  (((Below.refl _ _).alloc (Nat.le_refl _) _).alloc (by simp) _).trans (h.mono (by omega))
theorem box2_on {w W W' : World} {A B : Obj} (h : Below (w.heap.size + 2) ((w.alloc A).alloc B) W) (h' : Below W.heap.size W W') : Below (w.heap.size + 2) ((w.alloc A).alloc B) W' :=
  h.trans (h'.mono (by have := h.size; simpa using this))
theorem box1_below {w W : World} {A : Obj} (h : Below (w.heap.size + 1) (w.alloc A) W) : Below w.heap.size w W :=
  ((Below.refl _ _).alloc (Nat.le_refl _) _).trans (h.mono (by omega))
theorem box1_on {w W W' : World} {A : Obj} (h : Below (w.heap.size + 1) (w.alloc A) W) (h' : Below W.heap.size W W') : Below (w.heap.size + 1) (w.alloc A) W' :=
  h.trans (h'.mono (by have := h.size; simpa using this))
theorem box1_kept {w W : World} {A : Obj} (h : Below (w.heap.size + 1) (w.alloc A) W) : W.heap[w.heap.size]? = some A := by
  rw [h.block _ (by omega)]
  exact heap_alloc_new w A

theorem light_any (r : Rc) (ta : Option Addr) (tc : Nat) (da : Option Addr) (dc : Nat) (w : World) :
    Calls Try.prog 9 #[recV r ta tc da dc] w fun e w' => ∃ b, e = .returned (.bool b) ∧ Below w.heap.size w w' := by
  have HB : Hid (Below w.heap.size w (w.alloc (.cells (recC r ta tc da dc) 31))) := (Below.refl _ _).alloc (Nat.le_refl _) _
  go_enter Try.func9, Try.ntmps9
  go_wp2
  all_goals
    go_ret
    first | exact HB.out | exact ⟨_, rfl, HB.out⟩ | exact ⟨.inl rfl, HB.out⟩

theorem conv_txt {w : World} {B : Nat} {a : Option Addr} {n c : Nat} {l : List UInt8} (h : w.ownsRow B 5 1 (.slice a n c) l.length (bcells l)) :
    (convert 34 9 (.slice a n c)).run Try.prog w = .ok (.string (txt l)) w := conv_own h

theorem str_same (l m : List UInt8) (b : Bool) (h : (l = m) ↔ b = true) : ((txt l).toList == (txt m).toList) = b := by
  rw [txt_toList, txt_toList]
  cases b
  · simp at h
    simp [h]
  · simp [h.2 rfl]

theorem frameB_inj (a b : Rc) (ha : mayB a = true) (hb : mayB b = true) : frameB a = frameB b ↔ a = b :=
  ⟨fun h => by
    have h1 := unf_back a ha []
    have h2 := unf_back b hb []
    rw [h, h2] at h1
    simpa using (Prod.mk.inj h1).1.symm, fun h => by rw [h]⟩

end Go.Proofs.Ytjhjicokbdloiaa
