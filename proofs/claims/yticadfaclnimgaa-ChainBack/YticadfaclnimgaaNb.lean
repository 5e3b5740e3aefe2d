/-
  Note: what is refused.
-/
import Derived.Test.YticadfaclnimgaaNa
namespace Go.Proofs.Yticadfaclnimgaa
open Go.RowKit Go.Maps

/-- What Note answers of a transaction that is there or not. -/
def noteE (o : Option Tn) (r : Rc) : Int :=
  if mayB r = true ∧ r.kind < 7 then (match o with
    | none => 8
    | some x => if r.prev = x.last ∧ letsB x r = true then 0 else 10) else 1
/-- What Note leaves. -/
noncomputable def noteF (f : Int → Option Tn) (r : Rc) : Int → Option Tn :=
  if noteE (f r.txn) r = 0 then upd f r.txn (if r.kind = 5 then none else (f r.txn).map fun x => { deedX x r with last := r.lsn }) else f
/-- The rows of a record can be read. -/
structure RI (w : World) (r : Rc) (ta da : Option Addr) : Prop where
  t : SlT w ta r.txns
  d : SlD w da r.dirty
  lt : r.txns.length ≤ maxLen
  ld : r.dirty.length ≤ maxLen
theorem RI.below {w w' : World} {r : Rc} {ta da : Option Addr} (h : RI w r ta da) (hb : Below w.heap.size w w') : RI w' r ta da := ⟨h.t.below hb, h.d.below hb, h.lt, h.ld⟩
theorem RI.check {w : World} {r : Rc} {ta da : Option Addr} (tc dc : Nat) (h : RI w r ta da) : Calls Try.prog 26 #[recV r ta tc da dc] w fun e w' => e = .returned (.int .i64 (argE (mayB r))) ∧ Below w.heap.size w w' := check_any r ta tc da dc w h.t h.d h.lt h.ld
theorem note_same {f : Int → Option Tn} {r : Rc} (h : noteE (f r.txn) r ≠ 0) : noteF f r = f := by unfold noteF; rw [if_neg h]
theorem may_kind_le {r : Rc} (h : mayB r = true) : 1 ≤ r.kind ∧ r.kind ≤ 8 := by
  have := (mayP r h).kind
  omega

theorem eqN (W : World) : (binOp BinOp.eql 77 .nilFunc .nilFunc).run Try.prog W = .ok (.bool true) W := by kernel_rfl
theorem eqF (F : Nat) (W : World) : (binOp BinOp.eql 77 (.func (.func F) #[] #[]) .nilFunc).run Try.prog W = .ok (.bool false) W := by kernel_rfl

section
variable {w : World} {B T A M : Nat} {K : List Lit} {σ : Sg} {x : Tn} {r : Rc} {ta : Option Addr} {tc : Nat} {da : Option Addr} {dc : Nat}

set_option maxRecDepth 100000 in
set_option maxHeartbeats 4000000 in
theorem note_arg (p : Option Addr) (hr : RI w r ta da) (hm : mayB r = false) : Calls Try.prog 16 #[.pointer p, recV r ta tc da dc] w fun e w' => e = .returned (.int .i64 1) ∧ Below w.heap.size w w' := by
  have hB0 : Below w.heap.size w (w.alloc (.cells (recC r ta tc da dc) 34)) := (Below.refl _ _).alloc (Nat.le_refl _) _
  have hck := (hr.below hB0).check tc dc
  rw [hm] at hck
  have HB := toHid hB0
  simp only [argE] at hck
  clear hr hB0 hm
  go_enter Try.func16, Try.ntmps16
  go_wp2_with (go_at_call 26; refine hck.mono ?_; rintro e w1 ⟨rfl, hb1⟩; have HB1 := toHid (below_on HB.out hb1); clear hb1)
  go_ret
  exact ⟨rfl, HB1.out⟩
set_option maxRecDepth 100000 in
set_option maxHeartbeats 4000000 in
theorem note_kind (p : Option Addr) (hr : RI w r ta da) (hm : mayB r = true) (hk : 7 ≤ r.kind) : Calls Try.prog 16 #[.pointer p, recV r ta tc da dc] w fun e w' => e = .returned (.int .i64 1) ∧ Below w.heap.size w w' := by
  have hB0 : Below w.heap.size w (w.alloc (.cells (recC r ta tc da dc) 34)) := (Below.refl _ _).alloc (Nat.le_refl _) _
  have hck := (hr.below hB0).check tc dc
  rw [hm] at hck
  simp only [argE] at hck
  have hki := may_kind_le hm
  have hix : ∀ W, (Instr.index 78 (.agg deedsV) (.int .i64 r.kind)).run Try.prog W = .ok .nilFunc W := fun W => by
    have h7 : r.kind = ((7 : Nat) : Int) ∨ r.kind = ((8 : Nat) : Int) := by omega
    rcases h7 with e | e <;> rw [e, index78 W _ (by omega)] <;> rfl
  have HX := toHid (show ∀ W, Below (w.heap.size + 1) (w.alloc (.cells (recC r ta tc da dc) 34)) W → Box W w.heap.size r ta tc da dc ∧ Below w.heap.size w W from fun W hW => ⟨box_of (box_new hW), hB0.trans (hW.mono (by omega))⟩)
  have hdd := toHid deeds27
  have hnf := eqN
  have hff := eqF
  clear hr hB0 hm hk hki
  go_enter Try.func16, Try.ntmps16
  go_wp2_with (go_at_call 26; refine hck.mono ?_; rintro e w1 ⟨rfl, hb1⟩; have HB1 := toHid (show Below (w.heap.size + 1) (w.alloc (.cells (recC r ta tc da dc) 34)) w1 from (by simpa using hb1)); clear hb1)
  have HB1d := toHid HB1.out.drew
  have hS1 := (HX.out w1.drew HB1d.out).1.1
  go_region_held3 (fun W => W.cell? ⟨w.heap.size, 0, none⟩ = some (.int .i64 r.kind)) (with_reducible assumption) (first
    | (go_at_call 27; refine Calls.mono (hdd.out _) ?_; rintro e w2 ⟨rfl, hb2⟩; have HB2 := toHid (HB1d.out.trans (hb2.mono (by have := HB1d.out.size; simpa using this))); have hS2 := (HX.out w2 HB2.out).1.1; clear hb2))
  all_goals
    go_wp2
    go_ret
    exact ⟨rfl, (HX.out w2 HB2.out).2⟩
set_option maxRecDepth 100000 in
set_option maxHeartbeats 4000000 in
theorem note_nil (hr : RI w r ta da) (hm : mayB r = true) (hk : r.kind < 7) : Calls Try.prog 16 #[.pointer none, recV r ta tc da dc] w fun e w' => e = .returned (.int .i64 1) ∧ Below w.heap.size w w' := by
  have hB0 : Below w.heap.size w (w.alloc (.cells (recC r ta tc da dc) 34)) := (Below.refl _ _).alloc (Nat.le_refl _) _
  have hck := (hr.below hB0).check tc dc
  rw [hm] at hck
  simp only [argE] at hck
  have hki := may_kind_le hm
  obtain ⟨F, hix⟩ : ∃ F, ∀ W, (Instr.index 78 (.agg deedsV) (.int .i64 r.kind)).run Try.prog W = .ok (.func (.func F) #[] #[]) W := by
    have h7 : r.kind = ((1 : Nat) : Int) ∨ r.kind = ((2 : Nat) : Int) ∨ r.kind = ((3 : Nat) : Int) ∨ r.kind = ((4 : Nat) : Int) ∨ r.kind = ((5 : Nat) : Int) ∨ r.kind = ((6 : Nat) : Int) := by omega
    rcases h7 with e | e | e | e | e | e
    · exact ⟨41, fun W => by rw [e, index78 W _ (by omega)]; rfl⟩
    · exact ⟨42, fun W => by rw [e, index78 W _ (by omega)]; rfl⟩
    · exact ⟨43, fun W => by rw [e, index78 W _ (by omega)]; rfl⟩
    · exact ⟨44, fun W => by rw [e, index78 W _ (by omega)]; rfl⟩
    · exact ⟨45, fun W => by rw [e, index78 W _ (by omega)]; rfl⟩
    · exact ⟨46, fun W => by rw [e, index78 W _ (by omega)]; rfl⟩
  have HX := toHid (show ∀ W, Below (w.heap.size + 1) (w.alloc (.cells (recC r ta tc da dc) 34)) W → Box W w.heap.size r ta tc da dc ∧ Below w.heap.size w W from fun W hW => ⟨box_of (box_new hW), hB0.trans (hW.mono (by omega))⟩)
  have hdd := toHid deeds27
  have hnf := eqN
  have hff := eqF
  have HLk := toHid (fun W => look_nil r.txn W)
  clear hr hB0 hm hk hki
  go_enter Try.func16, Try.ntmps16
  go_wp2_with (go_at_call 26; refine hck.mono ?_; rintro e w1 ⟨rfl, hb1⟩; have HB1 := toHid (show Below (w.heap.size + 1) (w.alloc (.cells (recC r ta tc da dc) 34)) w1 from (by simpa using hb1)); clear hb1)
  have HB1d := toHid HB1.out.drew
  have hS1 := (HX.out w1.drew HB1d.out).1.1
  go_region_held3 (fun W => W.cell? ⟨w.heap.size, 0, none⟩ = some (.int .i64 r.kind)) (with_reducible assumption) (first
    | (go_at_call 27; refine Calls.mono (hdd.out _) ?_; rintro e w2 ⟨rfl, hb2⟩; have HB2 := toHid (HB1d.out.trans (hb2.mono (by have := HB1d.out.size; simpa using this))); have hS2 := (HX.out w2 HB2.out).1.1; clear hb2))
  all_goals
    obtain ⟨_, _, e2, _⟩ := (HX.out w2 HB2.out).1
    go_wp2_with (go_at_call 28; refine Calls.mono (HLk.out _) ?_; rintro e w3 ⟨rfl, hw⟩; obtain rfl := hw.symm)
    go_ret
    exact ⟨rfl, (HX.out w2 HB2.out).2⟩
set_option maxRecDepth 100000 in
set_option maxHeartbeats 4000000 in
theorem note_none (h : Tb w B T A K M σ) (hr : RI w r ta da) (ht : Wt r.txn) (hm : mayB r = true) (hk : r.kind < 7) (hx : σ.f r.txn = none) : Calls Try.prog 16 #[.pointer (some ⟨T, 0, none⟩), recV r ta tc da dc] w fun e w' => e = .returned (.int .i64 8) ∧ Below w.heap.size w w' := by
  have hB0 : Below w.heap.size w (w.alloc (.cells (recC r ta tc da dc) 34)) := (Below.refl _ _).alloc (Nat.le_refl _) _
  have hck := (hr.below hB0).check tc dc
  rw [hm] at hck
  simp only [argE] at hck
  have hki := may_kind_le hm
  obtain ⟨F, hix⟩ : ∃ F, ∀ W, (Instr.index 78 (.agg deedsV) (.int .i64 r.kind)).run Try.prog W = .ok (.func (.func F) #[] #[]) W := by
    have h7 : r.kind = ((1 : Nat) : Int) ∨ r.kind = ((2 : Nat) : Int) ∨ r.kind = ((3 : Nat) : Int) ∨ r.kind = ((4 : Nat) : Int) ∨ r.kind = ((5 : Nat) : Int) ∨ r.kind = ((6 : Nat) : Int) := by omega
    rcases h7 with e | e | e | e | e | e
    · exact ⟨41, fun W => by rw [e, index78 W _ (by omega)]; rfl⟩
    · exact ⟨42, fun W => by rw [e, index78 W _ (by omega)]; rfl⟩
    · exact ⟨43, fun W => by rw [e, index78 W _ (by omega)]; rfl⟩
    · exact ⟨44, fun W => by rw [e, index78 W _ (by omega)]; rfl⟩
    · exact ⟨45, fun W => by rw [e, index78 W _ (by omega)]; rfl⟩
    · exact ⟨46, fun W => by rw [e, index78 W _ (by omega)]; rfl⟩
  have HX := toHid (show ∀ W, Below (w.heap.size + 1) (w.alloc (.cells (recC r ta tc da dc) 34)) W → Box W w.heap.size r ta tc da dc ∧ Below w.heap.size w W from fun W hW => ⟨box_of (box_new hW), hB0.trans (hW.mono (by omega))⟩)
  have hdd := toHid deeds27
  have hnf := eqN
  have hff := eqF
  have HLk := toHid (fun W (hW : Below w.heap.size w W) => look_no (h.below hW) ht hx)
  clear h hr hB0 hm hk hki hx ht
  go_enter Try.func16, Try.ntmps16
  go_wp2_with (go_at_call 26; refine hck.mono ?_; rintro e w1 ⟨rfl, hb1⟩; have HB1 := toHid (show Below (w.heap.size + 1) (w.alloc (.cells (recC r ta tc da dc) 34)) w1 from (by simpa using hb1)); clear hb1)
  have HB1d := toHid HB1.out.drew
  have hS1 := (HX.out w1.drew HB1d.out).1.1
  go_region_held3 (fun W => W.cell? ⟨w.heap.size, 0, none⟩ = some (.int .i64 r.kind)) (with_reducible assumption) (first
    | (go_at_call 27; refine Calls.mono (hdd.out _) ?_; rintro e w2 ⟨rfl, hb2⟩; have HB2 := toHid (HB1d.out.trans (hb2.mono (by have := HB1d.out.size; simpa using this))); have hS2 := (HX.out w2 HB2.out).1.1; clear hb2))
  all_goals
    obtain ⟨_, _, e2, _⟩ := (HX.out w2 HB2.out).1
    go_wp2_with (go_at_call 28; refine Calls.mono (HLk.out _ (HX.out w2 HB2.out).2) ?_; rintro e w3 ⟨rfl, hw⟩; obtain rfl := hw.symm)
    go_ret
    exact ⟨rfl, (HX.out w2 HB2.out).2⟩
set_option maxRecDepth 100000 in
set_option maxHeartbeats 4000000 in
theorem note_prev (h : Tb w B T A K M σ) (hr : RI w r ta da) (ht : Wt r.txn) (hm : mayB r = true) (hk : r.kind < 7) (hx : σ.f r.txn = some x) (hp : r.prev ≠ x.last) : Calls Try.prog 16 #[.pointer (some ⟨T, 0, none⟩), recV r ta tc da dc] w fun e w' => e = .returned (.int .i64 10) ∧ Below w.heap.size w w' := by
  have hB0 : Below w.heap.size w (w.alloc (.cells (recC r ta tc da dc) 34)) := (Below.refl _ _).alloc (Nat.le_refl _) _
  have hck := (hr.below hB0).check tc dc
  rw [hm] at hck
  simp only [argE] at hck
  have hki := may_kind_le hm
  obtain ⟨F, hix⟩ : ∃ F, ∀ W, (Instr.index 78 (.agg deedsV) (.int .i64 r.kind)).run Try.prog W = .ok (.func (.func F) #[] #[]) W := by
    have h7 : r.kind = ((1 : Nat) : Int) ∨ r.kind = ((2 : Nat) : Int) ∨ r.kind = ((3 : Nat) : Int) ∨ r.kind = ((4 : Nat) : Int) ∨ r.kind = ((5 : Nat) : Int) ∨ r.kind = ((6 : Nat) : Int) := by omega
    rcases h7 with e | e | e | e | e | e
    · exact ⟨41, fun W => by rw [e, index78 W _ (by omega)]; rfl⟩
    · exact ⟨42, fun W => by rw [e, index78 W _ (by omega)]; rfl⟩
    · exact ⟨43, fun W => by rw [e, index78 W _ (by omega)]; rfl⟩
    · exact ⟨44, fun W => by rw [e, index78 W _ (by omega)]; rfl⟩
    · exact ⟨45, fun W => by rw [e, index78 W _ (by omega)]; rfl⟩
    · exact ⟨46, fun W => by rw [e, index78 W _ (by omega)]; rfl⟩
  have HX := toHid (show ∀ W, Below (w.heap.size + 1) (w.alloc (.cells (recC r ta tc da dc) 34)) W → Box W w.heap.size r ta tc da dc ∧ Below w.heap.size w W from fun W hW => ⟨box_of (box_new hW), hB0.trans (hW.mono (by omega))⟩)
  have hdd := toHid deeds27
  have hnf := eqN
  have hff := eqF
  have HLk := toHid (fun W (hW : Below w.heap.size w W) => look_yes (h.below hW) ht hx)
  have HC := toHid (fun W (hW : Below w.heap.size w W) => (cells5 (((h.below hW).blk r.txn x hx).2)).2.1)
  have g1 : ((r.prev : Int) != (x.last : Int)) = true := by simp; omega
  clear h hr hB0 hm hk hki hx ht hp
  go_enter Try.func16, Try.ntmps16
  go_wp2_with (go_at_call 26; refine hck.mono ?_; rintro e w1 ⟨rfl, hb1⟩; have HB1 := toHid (show Below (w.heap.size + 1) (w.alloc (.cells (recC r ta tc da dc) 34)) w1 from (by simpa using hb1)); clear hb1)
  have HB1d := toHid HB1.out.drew
  have hS1 := (HX.out w1.drew HB1d.out).1.1
  go_region_held3 (fun W => W.cell? ⟨w.heap.size, 0, none⟩ = some (.int .i64 r.kind)) (with_reducible assumption) (first
    | (go_at_call 27; refine Calls.mono (hdd.out _) ?_; rintro e w2 ⟨rfl, hb2⟩; have HB2 := toHid (HB1d.out.trans (hb2.mono (by have := HB1d.out.size; simpa using this))); have hS2 := (HX.out w2 HB2.out).1.1; clear hb2))
  all_goals
    obtain ⟨_, _, e2, e3, _⟩ := (HX.out w2 HB2.out).1
    have k1 := HC.out w2 (HX.out w2 HB2.out).2
    go_wp2_with (go_at_call 28; refine Calls.mono (HLk.out _ (HX.out w2 HB2.out).2) ?_; rintro e w3 ⟨rfl, hw⟩; obtain rfl := hw.symm)
    go_quiet (fail)
    go_wp2
    go_ret
    exact ⟨rfl, below_drewN (HX.out w2 HB2.out).2 _⟩
end
end Go.Proofs.Yticadfaclnimgaa
