/-
  What each kind of record does to a transaction.
-/
import Derived.Test.YticadfaclnimgaaDb
namespace Go.Proofs.Yticadfaclnimgaa
open Go.RowKit Go.Maps

/-- Does its state let a record be? -/
def letsB (x : Tn) (r : Rc) : Bool := if r.kind = 2 then decide (x.st ≠ 1 ∧ r.undo < x.next) else if r.kind = 5 then decide (x.st ≠ 0) else decide (x.st = 0)
/-- What a record makes of a transaction, but for its being the last one. -/
def deedX (x : Tn) (r : Rc) : Tn :=
  if r.kind = 1 then { x with need := x.need + moreN x r, next := r.lsn }
  else if r.kind = 2 then { x with need := x.need - (frameB r).length, next := r.undo }
  else if r.kind = 3 then { x with st := 1, next := 0, need := 27 }
  else if r.kind = 4 then { x with st := 2, need := x.need - 27 }
  else if r.kind = 6 then { x with need := x.need + moreN x r }
  else x

theorem set5 {w : World} {b k : Nat} {cs : Array Value} {ty : TypeId} (u : Value) (h : w.heap[b]? = some (.cells cs ty)) : (w.setCell ⟨b, k, none⟩ u).heap[b]? = some (.cells (cs.setIfInBounds k u) ty) := heap_setCell_same w b k _ _ _ h

/-- What a deed leaves: the block as told, nothing else turned. -/
def Deed (w w' : World) (b : Nat) (y : Tn) (v : Value) : Prop := w'.heap[b]? = some (.cells (txC y v) 74) ∧ Turn (fun k => k = b) w w'

section
variable {w : World} {b : Nat} {x : Tn} {v : Value} {r : Rc} {ta : Option Addr} {tc : Nat} {da : Option Addr} {dc : Nat}

theorem Deed.box (hb : w.heap[b]? = some (.cells (txC x v) 74)) {w' : World} (h : Below w.heap.size w w') : Deed w w' b x v := ⟨(h.block _ (some_lt hb)).trans hb, Turn.of_below h _⟩
theorem Deed.set {w' : World} {y : Tn} (h : Deed w w' b y v) {k : Nat} {u : Value} {z : Tn} (e : (txC y v).setIfInBounds k u = txC z v) : Deed w (w'.setCell ⟨b, k, none⟩ u) b z v :=
  ⟨by rw [set5 u h.1, e], h.2.trans (Turn.setCell _ _ _) fun i hi => .inl hi⟩
theorem Deed.on {w1 w2 : World} {y : Tn} (h : Deed w w1 b y v) (h' : Below w1.heap.size w1 w2) : Deed w w2 b y v := ⟨(h'.block _ (some_lt h.1)).trans h.1, h.2.trans (Turn.of_below h' fun _ => False) fun _ hi => hi.elim⟩

theorem Deed.refl (hb : w.heap[b]? = some (.cells (txC x v) 74)) : Deed w w b x v := Deed.box hb (Below.refl _ _)
theorem deed_no {w' : World} (hl : letsB x r = false) (hB : Below w.heap.size w w') : (letsB x r = true → Deed w w' b (deedX x r) v) ∧ (letsB x r = false → Below w.heap.size w w') := ⟨fun h => absurd h (by rw [hl]; decide), fun _ => hB⟩
theorem deed_yes {w' : World} (hl : letsB x r = true) (hB : Deed w w' b (deedX x r) v) : (letsB x r = true → Deed w w' b (deedX x r) v) ∧ (letsB x r = false → Below w.heap.size w w') := ⟨fun _ => hB, fun h => absurd h (by rw [hl]; decide)⟩
theorem Deed.less {w1 : World} {y : Tn} (h : Deed w w1 b y v) {n : Nat} (h1 : y.need ≤ 1000000000) (h2 : n ≤ 1000000000) : Calls Try.prog 62 #[.pointer (some ⟨b, 0, none⟩), .int .i64 (n : Int)] w1 fun e w' => e = .returned (.tuple #[]) ∧ Deed w w' b { y with need := y.need - n } v ∧ Turn (fun k => k = b) w1 w' := by
  refine (less62 h.1 h1 h2).mono ?_
  rintro e w' ⟨rfl, rfl⟩
  exact ⟨rfl, h.set rfl, Turn.setCell w1 ⟨b, 3, none⟩ _⟩

set_option maxRecDepth 100000 in
set_option maxHeartbeats 4000000 in
theorem end45 (hb : w.heap[b]? = some (.cells (txC x v) 74)) (hk : r.kind = 5) : Calls Try.prog 45 #[.pointer (some ⟨b, 0, none⟩), recV r ta tc da dc] w fun e w' => e = .returned (.bool (letsB x r)) ∧ (letsB x r = true → Deed w w' b (deedX x r) v) ∧ (letsB x r = false → Below w.heap.size w w') := by
  have hB0 : Below w.heap.size w (w.alloc (.cells (recC r ta tc da dc) 34)) := (Below.refl _ _).alloc (Nat.le_refl _) _
  have hi := isOpen34 (Deed.box hb hB0).1
  have HQ := toHid (show letsB x r = (!(x.st == 0)) ∧ Deed w (w.alloc (.cells (recC r ta tc da dc) 34)) b (deedX x r) v ∧ Below w.heap.size w (w.alloc (.cells (recC r ta tc da dc) 34)) from ⟨by by_cases e : x.st = 0 <;> simp [letsB, hk, e], by
    have : deedX x r = x := by simp [deedX, hk]
    rw [this]
    exact Deed.box hb hB0, hB0⟩)
  clear hb hk hB0
  go_enter Try.func45, Try.ntmps45
  go_wp2_with (go_at_call 34; refine hi.mono ?_; rintro e w1 ⟨rfl, hw⟩; obtain rfl := hw.symm)
  go_ret
  exact ⟨by rw [HQ.out.1]; rfl, fun _ => HQ.out.2.1, fun _ => HQ.out.2.2⟩

set_option maxRecDepth 100000 in
set_option maxHeartbeats 4000000 in
theorem commit43 (hb : w.heap[b]? = some (.cells (txC x v) 74)) (hk : r.kind = 3) : Calls Try.prog 43 #[.pointer (some ⟨b, 0, none⟩), recV r ta tc da dc] w fun e w' => e = .returned (.bool (letsB x r)) ∧ (letsB x r = true → Deed w w' b (deedX x r) v) ∧ (letsB x r = false → Below w.heap.size w w') := by
  have hB0 : Below w.heap.size w (w.alloc (.cells (recC r ta tc da dc) 34)) := (Below.refl _ _).alloc (Nat.le_refl _) _
  have hD := Deed.box hb hB0
  have hi := isOpen34 hD.1
  obtain ⟨c0, c1, c2, c3, c4⟩ := cells5 hb
  obtain ⟨f0, f1, f2, f3, f4⟩ := frozen5 hb
  have hlt := some_lt hb
  by_cases hs : x.st = 0
  · have HL := toHid (show letsB x r = true by simp [letsB, hk, hs])
    have HD := toHid (Deed.refl hb)
    have HE := toHid (show deedX x r = { x with st := 1, next := 0, need := 27 } by simp [deedX, hk])
    rw [show (x.st == 0) = true by simpa using hs] at hi
    clear hb hk hB0 hD hs
    go_enter Try.func43, Try.ntmps43
    go_wp2_with (go_at_call 34; refine hi.mono ?_; rintro e w1 ⟨rfl, hw⟩; obtain rfl := hw.symm)
    go_ret
    refine ⟨by rw [HL.out]; rfl, deed_yes HL.out ?_⟩
    rw [HE.out]
    exact (((HD.out.set (z := { x with st := 1 }) rfl).set (z := { x with st := 1, next := 0 }) rfl).set (z := { x with st := 1, next := 0, need := 27 }) rfl).on ((Below.refl _ _).alloc (Nat.le_refl _) _)
  · have HL := toHid (show letsB x r = false by simp [letsB, hk, hs])
    have HB := toHid hB0
    rw [show (x.st == 0) = false by simpa using hs] at hi
    clear hb hk hB0 hD hs
    go_enter Try.func43, Try.ntmps43
    go_wp2_with (go_at_call 34; refine hi.mono ?_; rintro e w1 ⟨rfl, hw⟩; obtain rfl := hw.symm)
    go_ret
    exact ⟨by rw [HL.out]; rfl, deed_no HL.out HB.out⟩
set_option maxRecDepth 100000 in
set_option maxHeartbeats 4000000 in
theorem abort44 (hb : w.heap[b]? = some (.cells (txC x v) 74)) (hk : r.kind = 4) (hn : x.need ≤ 1000000000) : Calls Try.prog 44 #[.pointer (some ⟨b, 0, none⟩), recV r ta tc da dc] w fun e w' => e = .returned (.bool (letsB x r)) ∧ (letsB x r = true → Deed w w' b (deedX x r) v) ∧ (letsB x r = false → Below w.heap.size w w') := by
  have hB0 : Below w.heap.size w (w.alloc (.cells (recC r ta tc da dc) 34)) := (Below.refl _ _).alloc (Nat.le_refl _) _
  have hD := Deed.box hb hB0
  have hi := isOpen34 hD.1
  obtain ⟨c0, c1, c2, c3, c4⟩ := cells5 hb
  obtain ⟨f0, f1, f2, f3, f4⟩ := frozen5 hb
  have hlt := some_lt hb
  by_cases hs : x.st = 0
  · have HL := toHid (show letsB x r = true by simp [letsB, hk, hs])
    have HD := toHid (Deed.refl hb)
    have HE := toHid (show deedX x r = { x with st := 2, need := x.need - 27 } by simp [deedX, hk])
    rw [show (x.st == 0) = true by simpa using hs] at hi
    have hD1 : Deed w ((w.setCell ⟨b, 0, none⟩ (.int .i64 2)).alloc (.cells (recC r ta tc da dc) 34)) b { x with st := 2 } v := (HD.out.set (z := { x with st := 2 }) rfl).on ((Below.refl _ _).alloc (Nat.le_refl _) _)
    have hls := hD1.less (n := 27) hn (by omega)
    clear hb hk hB0 hD hs hD1
    go_enter Try.func44, Try.ntmps44
    go_wp2_with (first
      | (go_at_call 34; refine hi.mono ?_; rintro e w1 ⟨rfl, hw⟩; obtain rfl := hw.symm)
      | (go_at_call 62; refine Calls.mono hls ?_; rintro e w1 ⟨rfl, hd, _⟩; have HDn := toHid hd; clear hd))
    go_ret
    refine ⟨by rw [HL.out]; rfl, deed_yes HL.out ?_⟩
    rw [HE.out]
    exact HDn.out
  · have HL := toHid (show letsB x r = false by simp [letsB, hk, hs])
    have HB := toHid hB0
    rw [show (x.st == 0) = false by simpa using hs] at hi
    clear hb hk hB0 hD hs
    go_enter Try.func44, Try.ntmps44
    go_wp2_with (go_at_call 34; refine hi.mono ?_; rintro e w1 ⟨rfl, hw⟩; obtain rfl := hw.symm)
    go_ret
    exact ⟨by rw [HL.out]; rfl, deed_no HL.out HB.out⟩
end
end Go.Proofs.Yticadfaclnimgaa
