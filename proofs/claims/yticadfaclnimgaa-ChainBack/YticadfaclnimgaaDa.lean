/-
  What taking back a record needs; how much more a transaction needs behind a record.
-/
import Derived.Test.YticadfaclnimgaaABk
import Derived.Test.YticadfaclnimgaaTd
import Derived.Deep.RegionHeld3
namespace Go.Proofs.Yticadfaclnimgaa
open Go.RowKit Go.Maps

/-- The record that takes one back. -/
def backRc (r : Rc) (l prev undo : Nat) : Rc := ⟨2, l, r.txn, prev, undo, r.page, Ak.turnK r.ak, r.key, r.new, r.old, [], []⟩
def backN (r : Rc) : Nat := 44 + r.key.length + r.old.length + r.new.length

theorem textB_len (l : List UInt8) (h : l.length ≤ 32) : (textB (txt l)).length = l.length + 2 := by
  simp [textB, txt_list, leB_length]
  omega
/-- What is known of a change that may be. -/
theorem may_chg {r : Rc} (h : mayB r = true) (hk : chgB r.kind = true) : lsnB r.lsn = true ∧ r.prev < r.lsn ∧ idB r.txn = true ∧ pageB r.page = true ∧ actB r.ak r.key r.old r.new = true ∧ r.txns = [] ∧ r.dirty = [] := by
  have hk' : r.kind = 1 ∨ r.kind = 2 := by simpa [chgB] using hk
  have h7 : ¬ (r.kind = 7 ∨ r.kind = 8) := by omega
  have h8 : ¬ r.kind = 8 := by omega
  have m1 : mTxn r = idB r.txn := by unfold mTxn; rw [if_neg h7]
  simp only [mayB, m1, mChg, mTab, hk, h8, if_true, if_false, Bool.and_eq_true, decide_eq_true_eq] at h
  obtain ⟨_, h2, ⟨h3, _⟩, _, h6, ⟨h9, h10⟩, h11, h12⟩ := h
  exact ⟨h2, h3, h6, h9, h10, List.eq_nil_of_length_eq_zero h11, List.eq_nil_of_length_eq_zero h12⟩
theorem act_len {ak : Int} {key old new : List UInt8} (h : actB ak key old new = true) : key.length ≤ 16 ∧ old.length ≤ 32 ∧ new.length ≤ 32 := by
  simp only [actB, Bool.and_eq_true, decide_eq_true_eq] at h
  omega
theorem back_may {r : Rc} {l prev undo : Nat} (h : mayB r = true) (hk : r.kind = 1) (hl : lsnB l = true) (hp : prev < l) (hu : undo < l) : mayB (backRc r l prev undo) = true := by
  obtain ⟨_, _, h3, h4, h5, _⟩ := may_chg h (by simp [chgB, hk])
  have h6 : actB (Ak.turnK r.ak) r.key r.new r.old = true := Ak.turn_may ⟨r.ak, r.key, r.old, r.new⟩ h5
  simp [mayB, backRc, mTxn, mChg, mTab, chgB, hl, h3, h4, h6, hp, hu]
theorem back_len {r : Rc} (l prev undo : Nat) (h : mayB r = true) (hk : r.kind = 1) : (frameB (backRc r l prev undo)).length = backN r := by
  obtain ⟨_, _, _, _, h5, _⟩ := may_chg h (by simp [chgB, hk])
  obtain ⟨l1, l2, l3⟩ := act_len h5
  rw [frameB_length]
  simp [encB, backRc, chgB, headE, chgE, undoE, leB_length, textB_len, l2, l3, backN]
  rw [textB_len _ (by omega)]
  omega
theorem backN_le {r : Rc} (h : mayB r = true) (hk : r.kind = 1) : backN r ≤ 124 := by
  obtain ⟨_, _, _, _, h5, _⟩ := may_chg h (by simp [chgB, hk])
  obtain ⟨l1, l2, l3⟩ := act_len h5
  unfold backN
  omega
theorem size_le {r : Rc} (h : mayB r = true) : (outF r).length = (frameB r).length ∧ (frameB r).length ≤ 2000 := by
  have := (encB_length r h).2
  refine ⟨by unfold outF; rw [h, if_pos rfl], ?_⟩
  rw [frameB_length]
  omega

/-- Back of a change that may be. -/
theorem back17 (r : Rc) (ta : Option Addr) (tc : Nat) (da : Option Addr) (dc : Nat) (l prev undo : Nat) (w : World) (h : mayB r = true) (hk : r.kind = 1) :
    Calls Try.prog 17 #[recV r ta tc da dc, .int .u64 (l : Int), .int .u64 (prev : Int), .int .u64 (undo : Int)] w fun e w' => e = .returned (.tuple #[recV (backRc r l prev undo) none 0 none 0, .int .i64 0]) ∧ Below w.heap.size w w' := by
  obtain ⟨_, _, _, _, h5, _⟩ := may_chg h (by simp [chgB, hk])
  have hb := Ak.back_any ⟨r.kind, r.lsn, r.txn, r.prev, r.undo, r.page, ⟨r.ak, r.key, r.old, r.new⟩, ta, r.txns.length, tc, da, r.dirty.length, dc⟩ l prev undo w
  have e : Ak.backR ⟨r.kind, r.lsn, r.txn, r.prev, r.undo, r.page, ⟨r.ak, r.key, r.old, r.new⟩, ta, r.txns.length, tc, da, r.dirty.length, dc⟩ l prev undo = (⟨2, l, r.txn, prev, undo, r.page, ⟨Ak.turnK r.ak, r.key, r.new, r.old⟩, none, 0, 0, none, 0, 0⟩, 0) := by
    have h5' : Ak.actB r.ak r.key r.old r.new = true := h5
    simp [Ak.backR, hk, Ak.mayA, h5', Ak.turnA]
  rw [e] at hb
  exact hb

theorem nilT (w : World) : SlT w none [] := by first | exact SlT.nil w | exact ⟨fun _ => rfl, fun x hx => by cases hx⟩
theorem nilD (w : World) : SlD w none [] := by first | exact SlD.nil w | exact ⟨fun _ => rfl, fun x hx => by cases hx⟩

set_option maxRecDepth 100000 in
set_option maxHeartbeats 4000000 in
/-- What taking back a record that may be needs. -/
theorem backSize53 (r : Rc) (ta : Option Addr) (tc : Nat) (da : Option Addr) (dc : Nat) (w : World) (h : mayB r = true) (hk : r.kind = 1) :
    Calls Try.prog 53 #[recV r ta tc da dc] w fun e w' => e = .returned (.int .i64 (backN r : Int)) ∧ Below w.heap.size w w' := by
  have hl16 : 0 < r.lsn := by
    obtain ⟨h1, _⟩ := may_chg h (by simp [chgB, hk])
    simp [lsnB] at h1
    omega
  have hmay := back_may (l := r.lsn) (prev := 0) (undo := 0) h hk (may_chg h (by simp [chgB, hk])).1 hl16 hl16
  have hB := toHid (fun W => back17 r ta tc da dc r.lsn 0 0 W h hk)
  have HS := toHid (fun W => size_any (backRc r r.lsn 0 0) none 0 none 0 W (nilT W) (nilD W) (Nat.zero_le _) (Nat.zero_le _))
  have HL := toHid (show (outF (backRc r r.lsn 0 0)).length = backN r by rw [(size_le hmay).1, back_len _ _ _ h hk])
  have HB0 := toHid (show Below w.heap.size w (w.alloc (.cells (recC r ta tc da dc) 34)) from (Below.refl _ _).alloc (Nat.le_refl _) _)
  clear hmay hl16 h hk
  simp only [recV, recC] at *
  go_enter Try.func53, Try.ntmps53
  go_wp2_with (first
    | (go_at_call 17; refine Calls.mono (hB.out _) ?_; rintro e w1 ⟨rfl, hb1⟩; have HB1 := toHid (below_on HB0.out hb1); clear hb1)
    | (go_at_call 63; refine Calls.mono (HS.out _) ?_; rintro e w2 ⟨rfl, hb2⟩; have HB2 := toHid hb2; clear hb2))
  go_ret
  refine ⟨by rw [HL.out]; rfl, ?_⟩
  have h1 : Below w.heap.size w w1 := HB1.out
  exact (h1.alloc h1.size _).trans (HB2.out.mono (by have := h1.size; simp; omega))
end Go.Proofs.Yticadfaclnimgaa
