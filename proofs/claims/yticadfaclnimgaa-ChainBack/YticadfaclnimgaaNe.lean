/-
  Note of records of some kinds.
-/
import Derived.Test.YticadfaclnimgaaNc
namespace Go.Proofs.Yticadfaclnimgaa
open Go.RowKit Go.Maps

section
variable {w : World} {B T A M : Nat} {K : List Lit} {σ : Sg} {x : Tn} {r : Rc} {ta : Option Addr} {tc : Nat} {da : Option Addr} {dc : Nat}

set_option maxRecDepth 100000 in
set_option maxHeartbeats 4000000 in
theorem note_no3 (h : Tb w B T A K M σ) (hM : M ≤ 1000000000) (hr : RI w r ta da) (ht : Wt r.txn) (hm : mayB r = true) (hk : r.kind = 3) (hx : σ.f r.txn = some x) (hp : r.prev = x.last) (hl : letsB x r = false) : Calls Try.prog 16 #[.pointer (some ⟨T, 0, none⟩), recV r ta tc da dc] w fun e w' => e = .returned (.int .i64 10) ∧ Below w.heap.size w w' := by
  have hB0 : Below w.heap.size w (w.alloc (.cells (recC r ta tc da dc) 34)) := (Below.refl _ _).alloc (Nat.le_refl _) _
  have hck := (hr.below hB0).check tc dc
  rw [hm] at hck
  simp only [argE] at hck
  have hblk := (h.blk _ _ hx).2
  have hlt := some_lt hblk
  have hn : x.need ≤ 1000000000 := Nat.le_trans (h.lim _ _ hx).1 hM
  have hix : ∀ W, (Instr.index 78 (.agg deedsV) (.int .i64 r.kind)).run Try.prog W = .ok (.func (.func 43) #[] #[]) W := fun W => by
    have e : r.kind = ((3 : Nat) : Int) := by omega
    rw [e, index78 W _ (by omega)]
    rfl
  have HX := toHid (show ∀ W, Below (w.heap.size + 1) (w.alloc (.cells (recC r ta tc da dc) 34)) W → Box W w.heap.size r ta tc da dc ∧ Below w.heap.size w W from fun W hW => ⟨box_of (box_new hW), hB0.trans (hW.mono (by omega))⟩)
  have hdd := toHid deeds27
  have hnf := eqN
  have hff := eqF
  have HLk := toHid (fun W (hW : Below w.heap.size w W) => look_yes (h.below hW) ht hx)
  have HC := toHid (fun W (hW : Below w.heap.size w W) => (cells5 (((h.below hW).blk r.txn x hx).2)).2.1)
  have g1 : ((r.prev : Int) != (x.last : Int)) = false := by simp [hp]
  have HDd := toHid (show ∀ W, Below w.heap.size w W → Calls Try.prog 43 #[.pointer (some ⟨σ.b r.txn, 0, none⟩), recV r ta tc da dc] W fun e w' => e = .returned (.bool false) ∧ Below W.heap.size W w' from fun W hW => by
    refine (commit43 (w := W) ((hW.block _ hlt).trans hblk) hk).mono ?_
    rintro e w' ⟨rfl, _, h2⟩
    exact ⟨by rw [hl], h2 hl⟩)
  clear h hr hB0 hm hk hx ht hp hblk hn hM hl
  go_enter Try.func16, Try.ntmps16
  go_wp2_with (go_at_call 26; refine hck.mono ?_; rintro e w1 ⟨rfl, hb1⟩; have HB1 := toHid (show Below (w.heap.size + 1) (w.alloc (.cells (recC r ta tc da dc) 34)) w1 from (by simpa using hb1)); clear hb1)
  have HB1d := toHid HB1.out.drew
  have hS1 := (HX.out w1.drew HB1d.out).1.1
  go_region_held3 (fun W => W.cell? ⟨w.heap.size, 0, none⟩ = some (.int .i64 r.kind)) (with_reducible assumption) (first
    | (go_at_call 27; refine Calls.mono (hdd.out _) ?_; rintro e w2 ⟨rfl, hb2⟩; have HB2 := toHid (HB1d.out.trans (hb2.mono (by have := HB1d.out.size; simpa using this))); have hS2 := (HX.out w2 HB2.out).1.1; clear hb2))
  all_goals
    obtain ⟨_, _, e2, _⟩ := (HX.out w2 HB2.out).1
    go_wp2_with (go_at_call 28; refine Calls.mono (HLk.out _ (HX.out w2 HB2.out).2) ?_; rintro e w3 ⟨rfl, hw⟩; obtain rfl := hw.symm)
    have HW := toHid (HX.out w2.drew HB2.out.drew)
    have hS3 := And.intro HW.out.1 (HC.out w2.drew HW.out.2)
    go_region_held3 (fun W => Box W w.heap.size r ta tc da dc ∧ W.cell? ⟨σ.b r.txn, 1, none⟩ = some (.int .u64 (x.last : Int))) (with_reducible assumption) (first
      | (go_at_call 43; refine Calls.mono (HDd.out _ HW.out.2) ?_; rintro e w4 ⟨rfl, hb4⟩; have HW4 := toHid (HX.out w4 (HB2.out.drew.trans (hb4.mono (by have := HB2.out.size; simpa using this)))); have hS4 := And.intro HW4.out.1 (HC.out w4 HW4.out.2); clear hb4))
    all_goals
      go_wp2
      go_ret
      exact ⟨rfl, HW4.out.2⟩
set_option maxRecDepth 100000 in
set_option maxHeartbeats 4000000 in
theorem note_yes3 (h : Tb w B T A K M σ) (hM : M ≤ 1000000000) (hr : RI w r ta da) (ht : Wt r.txn) (hm : mayB r = true) (hk : r.kind = 3) (hx : σ.f r.txn = some x) (hp : r.prev = x.last) (hl : letsB x r = true) : Calls Try.prog 16 #[.pointer (some ⟨T, 0, none⟩), recV r ta tc da dc] w fun e w' => e = .returned (.int .i64 0) ∧ Tb w' B T A K (M + 200) (σ.put r.txn (notedX x r) (σ.b r.txn) (σ.v r.txn)) ∧ Step A w σ w' (σ.put r.txn (notedX x r) (σ.b r.txn) (σ.v r.txn)) := by
  have hB0 : Below w.heap.size w (w.alloc (.cells (recC r ta tc da dc) 34)) := (Below.refl _ _).alloc (Nat.le_refl _) _
  have hck := (hr.below hB0).check tc dc
  rw [hm] at hck
  simp only [argE] at hck
  have hblk := (h.blk _ _ hx).2
  have hlt := some_lt hblk
  have hn : x.need ≤ 1000000000 := Nat.le_trans (h.lim _ _ hx).1 hM
  have hix : ∀ W, (Instr.index 78 (.agg deedsV) (.int .i64 r.kind)).run Try.prog W = .ok (.func (.func 43) #[] #[]) W := fun W => by
    have e : r.kind = ((3 : Nat) : Int) := by omega
    rw [e, index78 W _ (by omega)]
    rfl
  have HX := toHid (show ∀ W, Below (w.heap.size + 1) (w.alloc (.cells (recC r ta tc da dc) 34)) W → Box W w.heap.size r ta tc da dc ∧ Below w.heap.size w W from fun W hW => ⟨box_of (box_new hW), hB0.trans (hW.mono (by omega))⟩)
  have hdd := toHid deeds27
  have hnf := eqN
  have hff := eqF
  have HLk := toHid (fun W (hW : Below w.heap.size w W) => look_yes (h.below hW) ht hx)
  have HC := toHid (fun W (hW : Below w.heap.size w W) => (cells5 (((h.below hW).blk r.txn x hx).2)).2.1)
  have g1 : ((r.prev : Int) != (x.last : Int)) = false := by simp [hp]
  have HDd := toHid (show ∀ W, Below w.heap.size w W → Calls Try.prog 43 #[.pointer (some ⟨σ.b r.txn, 0, none⟩), recV r ta tc da dc] W fun e w' => e = .returned (.bool true) ∧ Deed W w' (σ.b r.txn) (deedX x r) (σ.v r.txn) from fun W hW => by
    refine (commit43 (w := W) ((hW.block _ hlt).trans hblk) hk).mono ?_
    rintro e w' ⟨rfl, h1, _⟩
    exact ⟨by rw [hl], h1 hl⟩)
  have HFin := toHid (fun W w3 hW hD => note_fin (W := W) (w3 := w3) h hx hm hW hD)
  have HBx := toHid (show ∀ W w3, Below (w.heap.size + 1) (w.alloc (.cells (recC r ta tc da dc) 34)) W → Deed W w3 (σ.b r.txn) (deedX x r) (σ.v r.txn) → Box w3 w.heap.size r ta tc da dc ∧ w3.cell? ⟨σ.b r.txn, 1, none⟩ = some (.int .u64 (x.last : Int)) from fun W w3 hW hD => by
    have hb := box_new hW
    refine ⟨box_of ((hD.2.block _ (some_lt hb) (fun e => by have e : w.heap.size = σ.b r.txn := e; omega)).trans hb), ?_⟩
    have := (cells5 hD.1).2.1
    rw [deedX_last] at this
    exact this)
  have g5 : (r.kind == 5) = false := by simp [hk]
  clear h hr hB0 hm hk hx ht hp hblk hn hM hl
  go_enter Try.func16, Try.ntmps16
  go_wp2_with (go_at_call 26; refine hck.mono ?_; rintro e w1 ⟨rfl, hb1⟩; have HB1 := toHid (show Below (w.heap.size + 1) (w.alloc (.cells (recC r ta tc da dc) 34)) w1 from (by simpa using hb1)); clear hb1)
  have HB1d := toHid HB1.out.drew
  have hS1 := (HX.out w1.drew HB1d.out).1.1
  go_region_held3 (fun W => W.cell? ⟨w.heap.size, 0, none⟩ = some (.int .i64 r.kind)) (with_reducible assumption) (first
    | (go_at_call 27; refine Calls.mono (hdd.out _) ?_; rintro e w2 ⟨rfl, hb2⟩; have HB2 := toHid (HB1d.out.trans (hb2.mono (by have := HB1d.out.size; simpa using this))); have hS2 := (HX.out w2 HB2.out).1.1; clear hb2))
  all_goals
    obtain ⟨_, _, e2, _⟩ := (HX.out w2 HB2.out).1
    go_wp2_with (go_at_call 28; refine Calls.mono (HLk.out _ (HX.out w2 HB2.out).2) ?_; rintro e w3 ⟨rfl, hw⟩; obtain rfl := hw.symm)
    have HW := toHid (HX.out w2.drew HB2.out.drew)
    have hS3 := And.intro HW.out.1 (HC.out w2.drew HW.out.2)
    go_region_held3 (fun W => Box W w.heap.size r ta tc da dc ∧ W.cell? ⟨σ.b r.txn, 1, none⟩ = some (.int .u64 (x.last : Int))) (with_reducible assumption) (first
      | (go_at_call 43; refine Calls.mono (HDd.out _ HW.out.2) ?_; rintro e w4 ⟨rfl, hd4⟩; have hS4 := HBx.out _ _ HB2.out.drew hd4; have HF4 := toHid (HFin.out _ _ HW.out.2 hd4); have HD4 := toHid hd4; clear hd4))
    all_goals
      obtain ⟨q0, q1, q2, q3, q4⟩ := frozen5 HD4.out.1
      obtain ⟨⟨b0, b1, b2, _⟩, b12⟩ := hS4
      go_wp2
      go_ret
      exact ⟨rfl, HF4.out⟩
set_option maxRecDepth 100000 in
set_option maxHeartbeats 4000000 in
theorem note_no4 (h : Tb w B T A K M σ) (hM : M ≤ 1000000000) (hr : RI w r ta da) (ht : Wt r.txn) (hm : mayB r = true) (hk : r.kind = 4) (hx : σ.f r.txn = some x) (hp : r.prev = x.last) (hl : letsB x r = false) : Calls Try.prog 16 #[.pointer (some ⟨T, 0, none⟩), recV r ta tc da dc] w fun e w' => e = .returned (.int .i64 10) ∧ Below w.heap.size w w' := by
  have hB0 : Below w.heap.size w (w.alloc (.cells (recC r ta tc da dc) 34)) := (Below.refl _ _).alloc (Nat.le_refl _) _
  have hck := (hr.below hB0).check tc dc
  rw [hm] at hck
  simp only [argE] at hck
  have hblk := (h.blk _ _ hx).2
  have hlt := some_lt hblk
  have hn : x.need ≤ 1000000000 := Nat.le_trans (h.lim _ _ hx).1 hM
  have hix : ∀ W, (Instr.index 78 (.agg deedsV) (.int .i64 r.kind)).run Try.prog W = .ok (.func (.func 44) #[] #[]) W := fun W => by
    have e : r.kind = ((4 : Nat) : Int) := by omega
    rw [e, index78 W _ (by omega)]
    rfl
  have HX := toHid (show ∀ W, Below (w.heap.size + 1) (w.alloc (.cells (recC r ta tc da dc) 34)) W → Box W w.heap.size r ta tc da dc ∧ Below w.heap.size w W from fun W hW => ⟨box_of (box_new hW), hB0.trans (hW.mono (by omega))⟩)
  have hdd := toHid deeds27
  have hnf := eqN
  have hff := eqF
  have HLk := toHid (fun W (hW : Below w.heap.size w W) => look_yes (h.below hW) ht hx)
  have HC := toHid (fun W (hW : Below w.heap.size w W) => (cells5 (((h.below hW).blk r.txn x hx).2)).2.1)
  have g1 : ((r.prev : Int) != (x.last : Int)) = false := by simp [hp]
  have HDd := toHid (show ∀ W, Below w.heap.size w W → Calls Try.prog 44 #[.pointer (some ⟨σ.b r.txn, 0, none⟩), recV r ta tc da dc] W fun e w' => e = .returned (.bool false) ∧ Below W.heap.size W w' from fun W hW => by
    refine (abort44 (w := W) ((hW.block _ hlt).trans hblk) hk hn).mono ?_
    rintro e w' ⟨rfl, _, h2⟩
    exact ⟨by rw [hl], h2 hl⟩)
  clear h hr hB0 hm hk hx ht hp hblk hn hM hl
  go_enter Try.func16, Try.ntmps16
  go_wp2_with (go_at_call 26; refine hck.mono ?_; rintro e w1 ⟨rfl, hb1⟩; have HB1 := toHid (show Below (w.heap.size + 1) (w.alloc (.cells (recC r ta tc da dc) 34)) w1 from (by simpa using hb1)); clear hb1)
  have HB1d := toHid HB1.out.drew
  have hS1 := (HX.out w1.drew HB1d.out).1.1
  go_region_held3 (fun W => W.cell? ⟨w.heap.size, 0, none⟩ = some (.int .i64 r.kind)) (with_reducible assumption) (first
    | (go_at_call 27; refine Calls.mono (hdd.out _) ?_; rintro e w2 ⟨rfl, hb2⟩; have HB2 := toHid (HB1d.out.trans (hb2.mono (by have := HB1d.out.size; simpa using this))); have hS2 := (HX.out w2 HB2.out).1.1; clear hb2))
  all_goals
    obtain ⟨_, _, e2, _⟩ := (HX.out w2 HB2.out).1
    go_wp2_with (go_at_call 28; refine Calls.mono (HLk.out _ (HX.out w2 HB2.out).2) ?_; rintro e w3 ⟨rfl, hw⟩; obtain rfl := hw.symm)
    have HW := toHid (HX.out w2.drew HB2.out.drew)
    have hS3 := And.intro HW.out.1 (HC.out w2.drew HW.out.2)
    go_region_held3 (fun W => Box W w.heap.size r ta tc da dc ∧ W.cell? ⟨σ.b r.txn, 1, none⟩ = some (.int .u64 (x.last : Int))) (with_reducible assumption) (first
      | (go_at_call 44; refine Calls.mono (HDd.out _ HW.out.2) ?_; rintro e w4 ⟨rfl, hb4⟩; have HW4 := toHid (HX.out w4 (HB2.out.drew.trans (hb4.mono (by have := HB2.out.size; simpa using this)))); have hS4 := And.intro HW4.out.1 (HC.out w4 HW4.out.2); clear hb4))
    all_goals
      go_wp2
      go_ret
      exact ⟨rfl, HW4.out.2⟩
set_option maxRecDepth 100000 in
set_option maxHeartbeats 4000000 in
theorem note_yes4 (h : Tb w B T A K M σ) (hM : M ≤ 1000000000) (hr : RI w r ta da) (ht : Wt r.txn) (hm : mayB r = true) (hk : r.kind = 4) (hx : σ.f r.txn = some x) (hp : r.prev = x.last) (hl : letsB x r = true) : Calls Try.prog 16 #[.pointer (some ⟨T, 0, none⟩), recV r ta tc da dc] w fun e w' => e = .returned (.int .i64 0) ∧ Tb w' B T A K (M + 200) (σ.put r.txn (notedX x r) (σ.b r.txn) (σ.v r.txn)) ∧ Step A w σ w' (σ.put r.txn (notedX x r) (σ.b r.txn) (σ.v r.txn)) := by
  have hB0 : Below w.heap.size w (w.alloc (.cells (recC r ta tc da dc) 34)) := (Below.refl _ _).alloc (Nat.le_refl _) _
  have hck := (hr.below hB0).check tc dc
  rw [hm] at hck
  simp only [argE] at hck
  have hblk := (h.blk _ _ hx).2
  have hlt := some_lt hblk
  have hn : x.need ≤ 1000000000 := Nat.le_trans (h.lim _ _ hx).1 hM
  have hix : ∀ W, (Instr.index 78 (.agg deedsV) (.int .i64 r.kind)).run Try.prog W = .ok (.func (.func 44) #[] #[]) W := fun W => by
    have e : r.kind = ((4 : Nat) : Int) := by omega
    rw [e, index78 W _ (by omega)]
    rfl
  have HX := toHid (show ∀ W, Below (w.heap.size + 1) (w.alloc (.cells (recC r ta tc da dc) 34)) W → Box W w.heap.size r ta tc da dc ∧ Below w.heap.size w W from fun W hW => ⟨box_of (box_new hW), hB0.trans (hW.mono (by omega))⟩)
  have hdd := toHid deeds27
  have hnf := eqN
  have hff := eqF
  have HLk := toHid (fun W (hW : Below w.heap.size w W) => look_yes (h.below hW) ht hx)
  have HC := toHid (fun W (hW : Below w.heap.size w W) => (cells5 (((h.below hW).blk r.txn x hx).2)).2.1)
  have g1 : ((r.prev : Int) != (x.last : Int)) = false := by simp [hp]
  have HDd := toHid (show ∀ W, Below w.heap.size w W → Calls Try.prog 44 #[.pointer (some ⟨σ.b r.txn, 0, none⟩), recV r ta tc da dc] W fun e w' => e = .returned (.bool true) ∧ Deed W w' (σ.b r.txn) (deedX x r) (σ.v r.txn) from fun W hW => by
    refine (abort44 (w := W) ((hW.block _ hlt).trans hblk) hk hn).mono ?_
    rintro e w' ⟨rfl, h1, _⟩
    exact ⟨by rw [hl], h1 hl⟩)
  have HFin := toHid (fun W w3 hW hD => note_fin (W := W) (w3 := w3) h hx hm hW hD)
  have HBx := toHid (show ∀ W w3, Below (w.heap.size + 1) (w.alloc (.cells (recC r ta tc da dc) 34)) W → Deed W w3 (σ.b r.txn) (deedX x r) (σ.v r.txn) → Box w3 w.heap.size r ta tc da dc ∧ w3.cell? ⟨σ.b r.txn, 1, none⟩ = some (.int .u64 (x.last : Int)) from fun W w3 hW hD => by
    have hb := box_new hW
    refine ⟨box_of ((hD.2.block _ (some_lt hb) (fun e => by have e : w.heap.size = σ.b r.txn := e; omega)).trans hb), ?_⟩
    have := (cells5 hD.1).2.1
    rw [deedX_last] at this
    exact this)
  have g5 : (r.kind == 5) = false := by simp [hk]
  clear h hr hB0 hm hk hx ht hp hblk hn hM hl
  go_enter Try.func16, Try.ntmps16
  go_wp2_with (go_at_call 26; refine hck.mono ?_; rintro e w1 ⟨rfl, hb1⟩; have HB1 := toHid (show Below (w.heap.size + 1) (w.alloc (.cells (recC r ta tc da dc) 34)) w1 from (by simpa using hb1)); clear hb1)
  have HB1d := toHid HB1.out.drew
  have hS1 := (HX.out w1.drew HB1d.out).1.1
  go_region_held3 (fun W => W.cell? ⟨w.heap.size, 0, none⟩ = some (.int .i64 r.kind)) (with_reducible assumption) (first
    | (go_at_call 27; refine Calls.mono (hdd.out _) ?_; rintro e w2 ⟨rfl, hb2⟩; have HB2 := toHid (HB1d.out.trans (hb2.mono (by have := HB1d.out.size; simpa using this))); have hS2 := (HX.out w2 HB2.out).1.1; clear hb2))
  all_goals
    obtain ⟨_, _, e2, _⟩ := (HX.out w2 HB2.out).1
    go_wp2_with (go_at_call 28; refine Calls.mono (HLk.out _ (HX.out w2 HB2.out).2) ?_; rintro e w3 ⟨rfl, hw⟩; obtain rfl := hw.symm)
    have HW := toHid (HX.out w2.drew HB2.out.drew)
    have hS3 := And.intro HW.out.1 (HC.out w2.drew HW.out.2)
    go_region_held3 (fun W => Box W w.heap.size r ta tc da dc ∧ W.cell? ⟨σ.b r.txn, 1, none⟩ = some (.int .u64 (x.last : Int))) (with_reducible assumption) (first
      | (go_at_call 44; refine Calls.mono (HDd.out _ HW.out.2) ?_; rintro e w4 ⟨rfl, hd4⟩; have hS4 := HBx.out _ _ HB2.out.drew hd4; have HF4 := toHid (HFin.out _ _ HW.out.2 hd4); have HD4 := toHid hd4; clear hd4))
    all_goals
      obtain ⟨q0, q1, q2, q3, q4⟩ := frozen5 HD4.out.1
      obtain ⟨⟨b0, b1, b2, _⟩, b12⟩ := hS4
      go_wp2
      go_ret
      exact ⟨rfl, HF4.out⟩
end
end Go.Proofs.Yticadfaclnimgaa
