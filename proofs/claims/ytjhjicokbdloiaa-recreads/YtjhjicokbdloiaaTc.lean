/-
  The Reader's calls over what is left and the error together; the walk of takeChange.
-/
import Derived.Test.YtjhjicokbdloiaaRt
import Derived.Test.YtjhjicokbdloiaaEq
namespace Go.Proofs.Ytjhjicokbdloiaa
open Go.RowKit

/-- A Reader in block p, with what is left and its error. -/
def RS (w : World) (B p : Nat) (s : St) : Prop := ∃ a c, ROk w B p a c s.1 s.2

theorem rb_any (B p : Nat) (s : St) (w : World) (h : RS w B p s) : Calls Try.prog 67 #[.pointer (some ⟨p, 0, none⟩)] w fun en w' => en = .returned (.int .u8 (rN 1 s : Nat)) ∧ RS w' B p (sN 1 s) ∧ w.grownBy w' (some p) := by
  obtain ⟨a, c, hr⟩ := h
  exact rbyte_any B p a c s.1 s.2 w hr
theorem r2_any (B p : Nat) (s : St) (w : World) (h : RS w B p s) : Calls Try.prog 51 #[.pointer (some ⟨p, 0, none⟩)] w fun en w' => en = .returned (.int .u16 (rN 2 s : Nat)) ∧ RS w' B p (sN 2 s) ∧ w.grownBy w' (some p) := by
  obtain ⟨a, c, hr⟩ := h
  exact rtwo_any B p a c s.1 s.2 w hr
theorem r4_any (B p : Nat) (s : St) (w : World) (h : RS w B p s) : Calls Try.prog 69 #[.pointer (some ⟨p, 0, none⟩)] w fun en w' => en = .returned (.int .u32 (rN 4 s : Nat)) ∧ RS w' B p (sN 4 s) ∧ w.grownBy w' (some p) := by
  obtain ⟨a, c, hr⟩ := h
  exact rfour_any B p a c s.1 s.2 w hr
theorem r8_any (B p : Nat) (s : St) (w : World) (h : RS w B p s) : Calls Try.prog 68 #[.pointer (some ⟨p, 0, none⟩)] w fun en w' => en = .returned (.int .u64 (rN 8 s : Nat)) ∧ RS w' B p (sN 8 s) ∧ w.grownBy w' (some p) := by
  obtain ⟨a, c, hr⟩ := h
  exact reight_any B p a c s.1 s.2 w hr
theorem rt_any (B p : Nat) (s : St) (m : Int) (w : World) (h : RS w B p s) : Calls Try.prog 83 #[.pointer (some ⟨p, 0, none⟩), .int .i64 m] w fun en w' => en = .returned (.string (txt (rT m s))) ∧ RS w' B p (sT m s) ∧ w.grownBy w' (some p) := by
  obtain ⟨a, c, hr⟩ := h
  exact rtext_any B p a c s.1 m s.2 w hr

theorem takeN_bd (k : Nat) (l : List UInt8) (err : Int) : (takeN k l err).2.2 < 256 ^ k := by
  unfold takeN
  split
  · exact Nat.pow_pos (by decide)
  · split
    · exact Nat.pow_pos (by decide)
    · have := leV_lt (l.take k)
      refine Nat.lt_of_lt_of_le this (Nat.pow_le_pow_right (by decide) ?_)
      simp
      omega
theorem rN_bd (k : Nat) (s : St) : rN k s < 256 ^ k := takeN_bd k s.1 s.2

/-- All blocks below q are as they were, but p. -/
structure KeptQ (p q : Nat) (w w' : World) : Prop where
  os : w'.os = w.os
  tape : w'.tape = w.tape
  output : w'.output = w.output
  size : w.heap.size ≤ w'.heap.size
  block : ∀ b, b < q → b ≠ p → w'.heap[b]? = w.heap[b]?

theorem KeptQ.refl (p q : Nat) (w : World) : KeptQ p q w w := ⟨rfl, rfl, rfl, Nat.le_refl _, fun _ _ _ => rfl⟩
theorem KeptQ.trans {p q : Nat} {w w1 w2 : World} (h : KeptQ p q w w1) (k : KeptQ p q w1 w2) : KeptQ p q w w2 :=
  ⟨k.os.trans h.os, k.tape.trans h.tape, k.output.trans h.output, Nat.le_trans h.size k.size, fun b h0 h1 => (k.block b h0 h1).trans (h.block b h0 h1)⟩
theorem KeptQ.drew {p q : Nat} {w w1 : World} (h : KeptQ p q w w1) : KeptQ p q w w1.drew := ⟨h.os, h.tape, h.output, h.size, h.block⟩
theorem KeptQ.alloc {p q : Nat} {w w1 : World} (h : KeptQ p q w w1) (hq : q ≤ w1.heap.size) (o : Obj) : KeptQ p q w (w1.alloc o) :=
  ⟨h.os, h.tape, h.output, by have := h.size; simp; omega, fun b h0 h1 => by rw [Below.heap_alloc _ _ _ (by omega)]; exact h.block b h0 h1⟩
theorem KeptQ.set {p q i b : Nat} {w w1 : World} (h : KeptQ p q w w1) (hb : q ≤ b) (u : Value) : KeptQ p q w (w1.setCell ⟨b, i, none⟩ u) :=
  ⟨h.os, h.tape, h.output, by have := h.size; simpa [World.setCell] using this, fun k h0 h1 => by rw [Below.heap_setCell _ _ _ _ (by simp; omega)]; exact h.block k h0 h1⟩
theorem KeptQ.read {p q : Nat} {w w1 w2 : World} (h : KeptQ p q w w1) (hq : q ≤ w1.heap.size) (hg : w1.grownBy w2 (some p)) : KeptQ p q w w2 :=
  ⟨hg.os.trans h.os, hg.tape.trans h.tape, hg.output.trans h.output, Nat.le_trans h.size hg.size, fun b h0 h1 => by rw [hg.block b (by omega) (by simpa using h1)]; exact h.block b h0 h1⟩
theorem KeptQ.grown {p q : Nat} {w w1 w2 : World} {v : Option Nat} (h : KeptQ p q w w1) (hq : q ≤ w1.heap.size) (hv : ∀ k, v = some k → q ≤ k) (hg : w1.grownBy w2 v) : KeptQ p q w w2 :=
  ⟨hg.os.trans h.os, hg.tape.trans h.tape, hg.output.trans h.output, Nat.le_trans h.size hg.size, fun b h0 h1 => by
    rw [hg.block b (by omega) (fun e => by have := hv b e.symm; omega)]
    exact h.block b h0 h1⟩
theorem KeptQ.below {p q B : Nat} {w w1 : World} (h : KeptQ p q w w1) (hp : B ≤ p) (hq : B ≤ q) : Below B w w1 :=
  ⟨h.os, h.tape, h.output, h.size, fun b hb => h.block b (by omega) (by omega)⟩

/-- A Reader in block p, a record in block q. -/
structure RW (w0 w : World) (B p q : Nat) (s : St) (cs : Array Value) : Prop where
  rs : RS w B p s
  blk : w.heap[q]? = some (.cells cs 31)
  lt : p < q
  kq : KeptQ p q w0 w

theorem RW.q {w0 w : World} {B p q : Nat} {s : St} {cs : Array Value} (h : RW w0 w B p q s cs) : q < w.heap.size := lt_of_block h.blk
theorem RW.read {w0 w w' : World} {B p q : Nat} {s s' : St} {cs : Array Value} (h : RW w0 w B p q s cs) (hs : RS w' B p s') (hg : w.grownBy w' (some p)) : RW w0 w' B p q s' cs :=
  ⟨hs, by rw [hg.block q h.q (by have := h.lt; simp; omega)]; exact h.blk, h.lt, h.kq.read (Nat.le_of_lt h.q) hg⟩

theorem cells_set {w : World} {q i : Nat} {cs : Array Value} {t : TypeId} {x : Value} (h : w.heap[q]? = some (.cells cs t)) : (w.setCell ⟨q, i, none⟩ x).heap[q]? = some (.cells (cs.setIfInBounds i x) t) := by
  have hlt := lt_of_block h
  have h' : w.heap[q] = .cells cs t := by simpa [Array.getElem?_eq_getElem hlt] using h
  show (w.heap.modify q _)[q]? = _
  simp [Array.getElem?_modify, h]

theorem RW.put {w0 w : World} {B p q i : Nat} {s : St} {cs cs' : Array Value} {x : Value} (h : RW w0 w B p q s cs) (e : cs.setIfInBounds i x = cs') : RW w0 (w.setCell ⟨q, i, none⟩ x) B p q s cs' := by
  obtain ⟨a, c, hr⟩ := h.rs
  exact ⟨⟨a, c, hr.setHigh h.lt x⟩, by rw [← e]; exact cells_set h.blk, h.lt, h.kq.set (Nat.le_refl _) x⟩

theorem rw_cells {w : World} {q : Nat} {v0 v1 v2 v3 v4 v5 v6 v7 v8 v9 v10 v11 : Value} (h : w.heap[q]? = some (.cells #[v0, v1, v2, v3, v4, v5, v6, v7, v8, v9, v10, v11] 31)) :
    (w.cell? ⟨q, 0, none⟩ = some v0 ∧ w.cell? ⟨q, 1, none⟩ = some v1 ∧ w.cell? ⟨q, 2, none⟩ = some v2 ∧ w.cell? ⟨q, 3, none⟩ = some v3 ∧ w.cell? ⟨q, 4, none⟩ = some v4 ∧ w.cell? ⟨q, 5, none⟩ = some v5 ∧
    w.cell? ⟨q, 6, none⟩ = some v6 ∧ w.cell? ⟨q, 7, none⟩ = some v7 ∧ w.cell? ⟨q, 8, none⟩ = some v8 ∧ w.cell? ⟨q, 9, none⟩ = some v9 ∧ w.cell? ⟨q, 10, none⟩ = some v10 ∧ w.cell? ⟨q, 11, none⟩ = some v11) ∧ (∀ i, w.frozen? ⟨q, i, none⟩ = false) := by
  refine ⟨by simp [World.cell?, h], fun i => by simp [World.frozen?, h]⟩

set_option maxHeartbeats 1000000 in
theorem takeChange_any (B p q : Nat) (s : St) (r : Rc) (ta : Option Addr) (tc : Nat) (da : Option Addr) (dc : Nat) (w0 w : World) (h : RW w0 w B p q s (recC r ta tc da dc)) :
    Calls Try.prog 70 #[.pointer (some ⟨p, 0, none⟩), .pointer (some ⟨q, 0, none⟩)] w fun e w' => e = .returned (.tuple #[]) ∧ RW w0 w' B p q (onUnd (chgS s, chgR s r)).1 (recC (onUnd (chgS s, chgR s r)).2 ta tc da dc) := by
  have b1 := rN_bd 2 s
  have b2 := rN_bd 1 (sN 2 s)
  simp only [Nat.reducePow] at b1 b2
  obtain ⟨⟨q0, q1, q2, q3, q4, q5, q6, q7, q8, q9, q10, q11⟩, hf⟩ := rw_cells h.blk
  go_enter Try.func70, Try.ntmps70
  go_wp2_with fail
  refine (r2_any B p s _ h.rs).mono ?_
  rintro e w1 ⟨rfl, hs1, hg1⟩
  have h1 := h.read hs1 hg1
  clear q0 q1 q2 q3 q4 q5 q6 q7 q8 q9 q10 q11 hf hs1 hg1 h
  obtain ⟨⟨q0, q1, q2, q3, q4, q5, q6, q7, q8, q9, q10, q11⟩, hf⟩ := rw_cells h1.blk
  have h2 : RW w0 (w1.setCell ⟨q, 5, none⟩ (.int .i64 (rN 2 s : Nat))) B p q (sN 2 s) (recC { r with page := rN 2 s } ta tc da dc) := h1.put rfl
  go_wp2_with fail
  refine (rb_any B p _ _ h2.rs).mono ?_
  rintro e w3 ⟨rfl, hs3, hg3⟩
  have h3 := h2.read hs3 hg3
  clear q0 q1 q2 q3 q4 q5 q6 q7 q8 q9 q10 q11 hf hs3 hg3 h1 h2
  obtain ⟨⟨q0, q1, q2, q3, q4, q5, q6, q7, q8, q9, q10, q11⟩, hf⟩ := rw_cells h3.blk
  have h4 := h3.put (i := 6) (x := .int .i64 (rN 1 (sN 2 s) : Nat)) (cs' := recC { r with page := rN 2 s, ak := rN 1 (sN 2 s) } ta tc da dc) rfl
  go_wp2_with fail
  refine (rt_any B p _ _ _ h4.rs).mono ?_
  rintro e w5 ⟨rfl, hs5, hg5⟩
  have h5 := h4.read hs5 hg5
  clear q0 q1 q2 q3 q4 q5 q6 q7 q8 q9 q10 q11 hf hs5 hg5 h3 h4
  obtain ⟨⟨q0, q1, q2, q3, q4, q5, q6, q7, q8, q9, q10, q11⟩, hf⟩ := rw_cells h5.blk
  have h6 := h5.put (i := 7) (x := .string (txt (rT 16 (sN 1 (sN 2 s))))) (cs' := recC { r with page := rN 2 s, ak := rN 1 (sN 2 s), key := rT 16 (sN 1 (sN 2 s)) } ta tc da dc) rfl
  go_wp2_with fail
  refine (rt_any B p _ _ _ h6.rs).mono ?_
  rintro e w7 ⟨rfl, hs7, hg7⟩
  have h7 := h6.read hs7 hg7
  clear q0 q1 q2 q3 q4 q5 q6 q7 q8 q9 q10 q11 hf hs7 hg7 h5 h6
  obtain ⟨⟨q0, q1, q2, q3, q4, q5, q6, q7, q8, q9, q10, q11⟩, hf⟩ := rw_cells h7.blk
  have h8 := h7.put (i := 8) (x := .string (txt (rT 32 (sT 16 (sN 1 (sN 2 s)))))) (cs' := recC { r with page := rN 2 s, ak := rN 1 (sN 2 s), key := rT 16 (sN 1 (sN 2 s)), old := rT 32 (sT 16 (sN 1 (sN 2 s))) } ta tc da dc) rfl
  go_wp2_with fail
  refine (rt_any B p _ _ _ h8.rs).mono ?_
  rintro e w9 ⟨rfl, hs9, hg9⟩
  have h9 := h8.read hs9 hg9
  clear q0 q1 q2 q3 q4 q5 q6 q7 q8 q9 q10 q11 hf hs9 hg9 h7 h8
  obtain ⟨⟨q0, q1, q2, q3, q4, q5, q6, q7, q8, q9, q10, q11⟩, hf⟩ := rw_cells h9.blk
  have h10 : RW w0 (w9.setCell ⟨q, 9, none⟩ (.string (txt (rT 32 (sT 32 (sT 16 (sN 1 (sN 2 s)))))))) B p q (chgS s) (recC (chgR s r) ta tc da dc) := h9.put rfl
  clear h9
  by_cases h2 : r.kind = 2
  · have hU : Hid (onUnd (chgS s, chgR s r) = (sN 8 (chgS s), undR (chgS s) (chgR s r))) := by show _ = _; unfold onUnd; rw [if_pos (show (chgR s r).kind = 2 from h2)]
    have h2' : (r.kind == 2) = true := by simp [h2]
    clear h2
    go_wp2_with fail
    refine (r8_any B p _ _ h10.rs).mono ?_
    rintro e w11 ⟨rfl, hs11, hg11⟩
    have h11 := h10.read hs11 hg11
    clear q0 q1 q2 q3 q4 q5 q6 q7 q8 q9 q10 q11 hf hs11 hg11 h10
    obtain ⟨⟨q0, q1, q2, q3, q4, q5, q6, q7, q8, q9, q10, q11⟩, hf⟩ := rw_cells h11.blk
    have h12 : RW w0 (w11.setCell ⟨q, 4, none⟩ (.int .u64 (rN 8 (chgS s) : Nat))) B p q (sN 8 (chgS s)) (recC (undR (chgS s) (chgR s r)) ta tc da dc) := h11.put rfl
    go_wp2
    go_end0
    exact ⟨rfl, by rw [hU.out]; exact h12⟩
  · have hU : Hid (onUnd (chgS s, chgR s r) = (chgS s, chgR s r)) := by show _ = _; unfold onUnd; rw [if_neg (show ¬ (chgR s r).kind = 2 from h2)]
    have h2' : (r.kind == 2) = false := by simp [h2]
    clear h2
    go_wp2
    go_end0
    exact ⟨rfl, by rw [hU.out]; exact h10⟩

end Go.Proofs.Ytjhjicokbdloiaa
