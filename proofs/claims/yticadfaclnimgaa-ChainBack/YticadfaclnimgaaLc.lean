/-
  The law's own: what is light, the chapter's example, a step's record.
-/
import Derived.Test.YticadfaclnimgaaNg
namespace Go.Proofs.Yticadfaclnimgaa
open Go.RowKit Go.Maps

/-- Some answer. -/
def AnyB (w w' : World) (e : Ending) : Prop := ∃ b : Bool, e = .returned (.bool b) ∧ Below w.heap.size w w'
section
variable {w : World} {r : Rc} {ta : Option Addr} {tc : Nat} {da : Option Addr} {dc : Nat}
set_option maxRecDepth 100000 in
set_option maxHeartbeats 4000000 in
/-- Whether a record is light: some answer; nothing hangs on it. -/
theorem light9 (h1 : r.txns.length ≤ maxLen) (h2 : r.dirty.length ≤ maxLen) : Calls Try.prog 9 #[recV r ta tc da dc] w fun e w' => AnyB w w' e := by
  unfold maxLen at h1 h2
  have HB := toHid (show Below w.heap.size w (w.alloc (.cells (recC r ta tc da dc) 34)) from (Below.refl _ _).alloc (Nat.le_refl _) _)
  by_cases g1 : r.txns.length ≤ 100
  · have g1' : (r.txns.length : Int) ≤ 100 := by omega
    by_cases g2 : r.dirty.length ≤ 100
    · have g2' : (r.dirty.length : Int) ≤ 100 := by omega
      go_enter Try.func9, Try.ntmps9
      go_wp2
      go_ret
      exact ⟨_, rfl, HB.out⟩
    · have g2' : ¬ (r.dirty.length : Int) ≤ 100 := by omega
      go_enter Try.func9, Try.ntmps9
      go_wp2
      go_ret
      exact ⟨_, rfl, HB.out⟩
  · have g1' : ¬ (r.txns.length : Int) ≤ 100 := by omega
    go_enter Try.func9, Try.ntmps9
    go_wp2
    go_ret
    exact ⟨_, rfl, HB.out⟩
end

/-- The two records of the example. -/
def rc1 : Rc := ⟨3, 16, 7, 0, 0, 0, 0, [], [], [], [], []⟩
def rc2 : Rc := ⟨5, 32, 7, 16, 0, 0, 0, [], [], [], [], []⟩
theorem ri_nil {w : World} {r : Rc} (h1 : r.txns = []) (h2 : r.dirty = []) : RI w r none none := ⟨by rw [h1]; exact nilT w, by rw [h2]; exact nilD w, by rw [h1]; exact Nat.zero_le _, by rw [h2]; exact Nat.zero_le _⟩

set_option maxRecDepth 100000 in
set_option maxHeartbeats 4000000 in
theorem lives10 (w : World) : Calls Try.prog 10 #[] w fun e w' => e = .returned (.bool true) ∧ Below w.heap.size w w' := by
  have hnew := new8 [.int .i64 7] (by simp) w
  have HO := toHid (show ∀ W, Tb W w.heap.size (w.heap.size + 1) w.heap.size [.int .i64 7] 0 sg0 → Calls Try.prog 11 #[.pointer (some ⟨w.heap.size + 1, 0, none⟩), .int .i64 7] W fun e w' => e = .returned (.int .i64 0) ∧ Left W w.heap.size (w.heap.size + 1) w.heap.size [.int .i64 7] 0 sg0 w' (upd (fun _ => none) 7 (some tn0)) from fun W h => by
    have := open11 (t := 7) h (fun _ _ => by simp)
    rw [show openE (sg0.f 7) 7 = 0 from rfl] at this
    rw [show openF sg0.f 7 = upd (fun _ => none) 7 (some tn0) from by unfold openF; rw [if_pos (show openE (sg0.f 7) 7 = 0 from rfl)]; rfl] at this
    exact this)
  have HN1 := toHid (show ∀ W σ, Tb W w.heap.size (w.heap.size + 1) w.heap.size [.int .i64 7] 0 σ → σ.f = upd (fun _ => none) 7 (some tn0) → Calls Try.prog 16 #[.pointer (some ⟨w.heap.size + 1, 0, none⟩), recV rc1 none 0 none 0] W fun e w' => e = .returned (.int .i64 0) ∧ Left W w.heap.size (w.heap.size + 1) w.heap.size [.int .i64 7] 200 σ w' (upd (fun _ => none) 7 (some ⟨1, 16, 0, 27, []⟩)) from fun W σ h hf => by
    have := note16 (r := rc1) (tc := 0) (dc := 0) h (by omega) (ri_nil rfl rfl) (by decide)
    have e1 : σ.f rc1.txn = some tn0 := by rw [hf]; exact upd_same _ _ _
    have e2 : noteE (σ.f rc1.txn) rc1 = 0 := by rw [e1]; rfl
    rw [show noteF σ.f rc1 = upd (fun _ => none) 7 (some ⟨1, 16, 0, 27, []⟩) from by unfold noteF; rw [if_pos e2, e1, hf]; exact upd_upd _ _ _ _, e2] at this
    exact this)
  have HK := toHid (show ∀ W σ, Tb W w.heap.size (w.heap.size + 1) w.heap.size [.int .i64 7] 200 σ → σ.f = upd (fun _ => none) 7 (some ⟨1, 16, 0, 27, []⟩) → Calls Try.prog 14 #[.pointer (some ⟨w.heap.size + 1, 0, none⟩), .int .i64 7] W fun e w' => e = .returned (.int .i64 27) ∧ w' = W from fun W σ h hf => by
    have := kept14 (t := 7) h (by decide)
    rw [show σ.f 7 = some ⟨1, 16, 0, 27, []⟩ from by rw [hf]; exact upd_same _ _ _] at this
    exact this)
  have HN2 := toHid (show ∀ W σ, Tb W w.heap.size (w.heap.size + 1) w.heap.size [.int .i64 7] 200 σ → σ.f = upd (fun _ => none) 7 (some ⟨1, 16, 0, 27, []⟩) → Calls Try.prog 16 #[.pointer (some ⟨w.heap.size + 1, 0, none⟩), recV rc2 none 0 none 0] W fun e w' => e = .returned (.int .i64 0) ∧ Left W w.heap.size (w.heap.size + 1) w.heap.size [.int .i64 7] 400 σ w' (upd (fun _ => none) 7 none) from fun W σ h hf => by
    have := note16 (r := rc2) (tc := 0) (dc := 0) h (by omega) (ri_nil rfl rfl) (by decide)
    have e1 : σ.f rc2.txn = some ⟨1, 16, 0, 27, []⟩ := by rw [hf]; exact upd_same _ _ _
    have e2 : noteE (σ.f rc2.txn) rc2 = 0 := by rw [e1]; rfl
    rw [show noteF σ.f rc2 = upd (fun _ => none) 7 none from by unfold noteF; rw [if_pos e2, hf]; exact upd_upd _ _ _ _, e2] at this
    exact this)
  have HG := toHid (show ∀ W σ, Tb W w.heap.size (w.heap.size + 1) w.heap.size [.int .i64 7] 400 σ → σ.f = upd (fun _ => none) 7 none → Calls Try.prog 19 #[.pointer (some ⟨w.heap.size + 1, 0, none⟩), .int .i64 7] W fun e w' => e = .returned (.bool false) ∧ Below w.heap.size W w' from fun W σ h hf => by
    refine (gone19 (t := 7) h (by decide)).mono ?_
    rintro e w' ⟨rfl, h1, h2⟩
    refine ⟨by rw [hf, upd_same]; rfl, h2.below h (Nat.le_trans h.hA (Nat.le_of_lt h.ltA))⟩)
  simp only [recV, recC, rc1, rc2] at HN1 HN2
  have tok : True := trivial
  go_enter Try.func10, Try.ntmps10
  go_wp2_with (first
    | (go_at_call 8; refine hnew.mono ?_; rintro e w1 ⟨rfl, h1, b1⟩; have HB1 := toHid b1; have HT1 := toHid h1; clear h1 b1)
    | (go_at_call 11; refine Calls.mono (HO.out _ HT1.out) ?_; rintro e w2 ⟨rfl, σ2, h2, s2, f2⟩; have HB2 := toHid (HB1.out.trans (s2.below HT1.out (HB1.out.size))); have HT2 := toHid h2; have HF2 := toHid f2; clear h2 s2 f2)
    | (go_at_call 16; have _t := tok; refine Calls.mono (HN1.out _ _ HT2.out HF2.out) ?_; rintro e w3 ⟨rfl, σ3, h3, s3, f3⟩; have HB3 := toHid (HB2.out.trans (s3.below HT2.out (HB2.out.size))); have HT3 := toHid h3; have HF3 := toHid f3; clear h3 s3 f3 tok)
    | (go_at_call 14; refine Calls.mono (HK.out _ _ HT3.out HF3.out) ?_; rintro e w4 ⟨rfl, hw⟩; obtain rfl := hw.symm)
    | (go_at_call 16; refine Calls.mono (HN2.out _ _ HT3.out HF3.out) ?_; rintro e w5 ⟨rfl, σ5, h5, s5, f5⟩; have HB5 := toHid (HB3.out.trans (s5.below HT3.out (HB3.out.size))); have HT5 := toHid h5; have HF5 := toHid f5; clear h5 s5 f5)
    | (go_at_call 19; refine Calls.mono (HG.out _ _ HT5.out HF5.out) ?_; rintro e w6 ⟨rfl, b6⟩; have HB6 := toHid (HB5.out.trans b6); clear b6))
  go_ret
  exact ⟨rfl, HB6.out⟩
end Go.Proofs.Yticadfaclnimgaa
