/-
  Redo.
-/
import Derived.Test.YtamkfcdehkdcpaaBk
namespace Go.Proofs.Ytamkfcdehkdcpaa
open Go.RowKit

def chgB (k : Int) : Bool := decide (k = 1 ∨ k = 2)

theorem chg_any (k : Int) (w : World) : Calls Try.prog 47 #[.int .i64 k] w fun e w' => e = .returned (.bool (chgB k)) ∧ w' = w := by
  by_cases h1 : k = 1
  · subst h1
    go_enter Try.func47, Try.ntmps47
    go_wp2
    go_ret
    exact ⟨rfl, rfl⟩
  · by_cases h2 : k = 2
    · subst h2
      go_enter Try.func47, Try.ntmps47
      go_wp2
      go_ret
      exact ⟨rfl, rfl⟩
    · rw [show chgB k = false by simp [chgB, h1, h2]]
      have h1' : (k == 1) = false := by simp [h1]
      have h2' : (k == 2) = false := by simp [h2]
      clear h1 h2
      go_enter Try.func47, Try.ntmps47
      go_wp2
      go_ret
      exact ⟨rfl, rfl⟩

theorem refchg_any (k : Int) (w : World) : Calls Try.prog 46 #[.int .i64 k] w fun e w' => e = .returned (.bool (chgB k)) ∧ w' = w := by
  by_cases h1 : k = 1
  · subst h1
    go_enter Try.func46, Try.ntmps46
    go_wp2
    go_ret
    exact ⟨rfl, rfl⟩
  · by_cases h2 : k = 2
    · subst h2
      go_enter Try.func46, Try.ntmps46
      go_wp2
      go_ret
      exact ⟨rfl, rfl⟩
    · rw [show chgB k = false by simp [chgB, h1, h2]]
      have h1' : (k == 1) = false := by simp [h1]
      have h2' : (k == 2) = false := by simp [h2]
      clear h1 h2
      go_enter Try.func46, Try.ntmps46
      go_wp2
      go_ret
      exact ⟨rfl, rfl⟩

theorem ins_err {l : List Cl} {k x : List UInt8} (h : (insL l k x).2 ≠ 0) : (insL l k x).1 = l := by
  unfold insL fillL addL at *
  repeat' split at h
  all_goals simp_all
theorem upd_err {l : List Cl} {k x : List UInt8} (h : (updL l k x).2 ≠ 0) : (updL l k x).1 = l := by
  unfold updL fillL at *
  repeat' split at h
  all_goals simp_all
theorem del_err {l : List Cl} {k : List UInt8} (h : (delL l k).2 ≠ 0) : (delL l k).1 = l := by
  unfold delL at *
  repeat' split at h
  all_goals simp_all
theorem do_err {l : List Cl} {a : Ac} (h : (doL l a).2 ≠ 0) : (doL l a).1 = l := by
  unfold doL at *
  split
  · rfl
  · rename_i h1
    rw [if_neg h1] at h
    split
    · rename_i h2
      rw [if_pos h2] at h
      exact ins_err h
    · rename_i h2
      rw [if_neg h2] at h
      split
      · rfl
      · rename_i h3
        rw [if_neg h3] at h
        split
        · rename_i h4
          rw [if_pos h4] at h
          exact upd_err h
        · rename_i h4
          rw [if_neg h4] at h
          exact del_err h

/-- What a record makes of slots and an LSN, whether it is done, and why not. -/
def redoM (id : Int) (l : List Cl) (lsn : Nat) (r : Rc) : (List Cl × Nat) × Bool × Int :=
  if chgB r.kind = false ∨ r.page ≠ id then ((l, lsn), false, 1) else if r.lsn ≤ lsn then ((l, lsn), false, 0) else if (doL l r.act).2 ≠ 0 then ((l, lsn), false, (doL l r.act).2) else (((doL l r.act).1, r.lsn), true, 0)

theorem redo_good {id : Int} {l : List Cl} {lsn : Nat} {r : Rc} (h : GoodL l) : GoodL (redoM id l lsn r).1.1 := by
  unfold redoM
  repeat' split
  · exact h
  · exact h
  · exact h
  · exact do_good h _

theorem PgOk.drewN {w : World} {B p : Nat} {id : Int} {lsn : Nat} {v : Value} {l : List Cl} (h : PgOk w B p id lsn v l) (n : Nat) : PgOk (w.drewN n) B p id lsn v l := ⟨h.blk, h.own, h.ne, h.base⟩
theorem below_drewN {n : Nat} {w w' : World} (h : Below n w w') (m : Nat) : Below n w (w'.drewN m) := ⟨h.os, h.tape, h.output, h.size, h.block⟩

theorem redo_nil (r : Rc) (w : World) : Calls Try.prog 24 #[.pointer none, recV r] w fun e w' => e = .returned (.tuple #[.bool false, .int .i64 1]) ∧ Below w.heap.size w w' := by
  have HB : Hid (Below w.heap.size w (w.alloc (.cells (recC r) 54))) := (Below.refl _ _).alloc (Nat.le_refl _) _
  simp only [recV, recC] at *
  go_enter Try.func24, Try.ntmps24
  go_wp2_with fail
  go_quiet (fail)
  go_wp2
  refine bodyPost_ret (v := .tuple #[.bool false, .int .i64 1]) (by simp [results, Try.results24, go_sem]) rfl ⟨rfl, ?_⟩
  exact below_drewN HB.out _

set_option maxRecDepth 20000 in
set_option maxHeartbeats 2000000 in
theorem redo_any (B p : Nat) (id : Int) (lsn : Nat) (v : Value) (l : List Cl) (r : Rc) (w : World) (h : PgOk w B p id lsn v l) (hg : GoodL l) :
    Calls Try.prog 24 #[.pointer (some ⟨p, 0, none⟩), recV r] w fun e w' => e = .returned (.tuple #[.bool (redoM id l lsn r).2.1, .int .i64 (redoM id l lsn r).2.2]) ∧ ∃ v', PgOk w' B p id (redoM id l lsn r).1.2 v' (redoM id l lsn r).1.1 ∧ Touch p v.ownBlock w w' ∧ Fresh w v v' := by
  have hB : Below w.heap.size w (w.alloc (.cells (recC r) 54)) := (Below.refl _ _).alloc (Nat.le_refl _) _
  have HB := (show Hid _ from hB)
  have hp1 := h.below hB (Nat.le_refl _)
  have HP1 := (show Hid _ from hp1)
  have HG := (show Hid _ from hg)
  have HC := (show Hid _ from chg_any r.kind)
  have HI : Hid (∀ W, PgOk W B p id lsn v l → Calls Try.prog 48 #[.pointer (some ⟨p, 0, none⟩)] W fun e w' => e = .returned (.int .i64 id) ∧ w' = W) := fun W hW => id_any B p id lsn v l W hW
  have HL : Hid (∀ W, PgOk W B p id lsn v l → Calls Try.prog 49 #[.pointer (some ⟨p, 0, none⟩)] W fun e w' => e = .returned (.int .u64 (lsn : Int)) ∧ w' = W) := fun W hW => lsn_any B p id lsn v l W hW
  have HNE : Hid (w.heap.size ≠ p ∧ v.ownBlock ≠ some w.heap.size) := ⟨by have := lt_of_blk h.blk; omega, fun e => by have := ownsRow_lt h.own _ e; omega⟩
  have HK1 : Hid ((w.alloc (.cells (recC r) 54)).heap[w.heap.size]? = some (.cells (recC r) 54)) := heap_alloc_new _ _
  clear hB hp1 h hg
  cases hc : chgB r.kind
  · rw [hc] at HC
    have HE : Hid (redoM id l lsn r = ((l, lsn), false, 1)) := by show _ = _; unfold redoM; rw [if_pos (.inl hc)]
    clear hc
    rw [HE.out]
    simp only [recV, recC] at *
    go_enter Try.func24, Try.ntmps24
    go_wp2_with fail
    go_quiet ((go_at_call 47; exact Calls.quiet_of_same (HC.out _)))
    go_wp2
    refine bodyPost_ret (v := .tuple #[.bool false, .int .i64 1]) (by simp [results, Try.results24, go_sem]) rfl ⟨rfl, v, HP1.out.drewN _, Touch.of (below_drewN HB.out _), Fresh.refl _ _⟩
  rw [hc] at HC
  by_cases hpg : r.page = id
  rotate_left
  · have HE : Hid (redoM id l lsn r = ((l, lsn), false, 1)) := by show _ = _; unfold redoM; rw [if_pos (.inr hpg)]
    have hpg' : (r.page != id) = true := by simp [hpg]
    clear hpg hc
    rw [HE.out]
    simp only [recV, recC] at *
    go_enter Try.func24, Try.ntmps24
    go_wp2_with fail
    go_quiet ((first | (go_at_call 47; exact Calls.quiet_of_same (HC.out _)) | (go_at_call 48; exact Calls.quiet_of_same (HI.out _ (HP1.out.drewN _)))))
    go_wp2
    refine bodyPost_ret (v := .tuple #[.bool false, .int .i64 1]) (by simp [results, Try.results24, go_sem]) rfl ⟨rfl, v, HP1.out.drewN _, Touch.of (below_drewN HB.out _), Fresh.refl _ _⟩
  have hpg' : (r.page != id) = false := by simp [hpg]
  by_cases hls : r.lsn ≤ lsn
  · have HE : Hid (redoM id l lsn r = ((l, lsn), false, 0)) := by show _ = _; unfold redoM; rw [if_neg (by simp [hc, hpg]), if_pos hls]
    have hls' : decide ((r.lsn : Int) ≤ (lsn : Int)) = true := by simp [hls]
    clear hpg hc
    rw [HE.out]
    simp only [recV, recC] at *
    go_enter Try.func24, Try.ntmps24
    go_wp2_with fail
    go_quiet ((first | (go_at_call 47; exact Calls.quiet_of_same (HC.out _)) | (go_at_call 48; exact Calls.quiet_of_same (HI.out _ (HP1.out.drewN _)))))
    generalize hwq : (w.alloc (.cells #[.int .i64 r.kind, .int .u64 (r.lsn : Int), .int .i64 r.txn, .int .u64 (r.prev : Int), .int .u64 (r.undo : Int), .int .i64 r.page, .int .i64 r.act.kind, .string (txt r.act.key), .string (txt r.act.old), .string (txt r.act.new), .slice r.ta r.tn r.tc, .slice r.da r.dn r.dc] 54)).drewN nq = wq
    have HBq : Hid (Below w.heap.size w wq) := by rw [← hwq]; exact below_drewN HB.out _
    have HPq : Hid (PgOk wq B p id lsn v l) := by rw [← hwq]; exact HP1.out.drewN _
    have HKq : Hid (wq.heap[w.heap.size]? = some (.cells #[.int .i64 r.kind, .int .u64 (r.lsn : Int), .int .i64 r.txn, .int .u64 (r.prev : Int), .int .u64 (r.undo : Int), .int .i64 r.page, .int .i64 r.act.kind, .string (txt r.act.key), .string (txt r.act.old), .string (txt r.act.new), .slice r.ta r.tn r.tc, .slice r.da r.dn r.dc] 54)) := by rw [← hwq]; exact HK1.out
    obtain ⟨c0, c1, c2, c3, c4, c5, c6, c7, c8, c9, c10, c11, hz⟩ := cell12 HKq.out
    clear hwq
    go_wp2_with fail
    go_quiet ((go_at_call 49; exact Calls.quiet_of_same (HL.out _ (HPq.out.drewN _))))
    go_wp2
    refine bodyPost_ret (v := .tuple #[.bool false, .int .i64 0]) (by simp [results, Try.results24, go_sem]) rfl ⟨rfl, v, HPq.out.drewN _, Touch.of (below_drewN HBq.out _), Fresh.refl _ _⟩
  have hls' : decide ((r.lsn : Int) ≤ (lsn : Int)) = false := by simp; omega
  have hls2 : decide (r.lsn ≤ lsn) = false := by simp; omega
  have hls3 : ¬ r.lsn ≤ lsn := hls
  have HRe : Hid (redoM id l lsn r = if (doL l r.act).2 ≠ 0 then ((l, lsn), false, (doL l r.act).2) else (((doL l r.act).1, r.lsn), true, 0)) := by show _ = _; unfold redoM; rw [if_neg (by simp [hc, hpg]), if_neg hls]
  have HDo := (show Hid _ from do_any B p id lsn v l r.act)
  have HDe := (show Hid _ from @do_err l r.act)
  clear hpg hc hls
  simp only [recV, recC, actV, actC] at *
  go_enter Try.func24, Try.ntmps24
  go_wp2_with fail
  go_quiet ((first | (go_at_call 47; exact Calls.quiet_of_same (HC.out _)) | (go_at_call 48; exact Calls.quiet_of_same (HI.out _ (HP1.out.drewN _)))))
  generalize hwq : (w.alloc (.cells #[.int .i64 r.kind, .int .u64 (r.lsn : Int), .int .i64 r.txn, .int .u64 (r.prev : Int), .int .u64 (r.undo : Int), .int .i64 r.page, .int .i64 r.act.kind, .string (txt r.act.key), .string (txt r.act.old), .string (txt r.act.new), .slice r.ta r.tn r.tc, .slice r.da r.dn r.dc] 54)).drewN nq = wq
  have HBq : Hid (Below w.heap.size w wq) := by rw [← hwq]; exact below_drewN HB.out _
  have HPq : Hid (PgOk wq B p id lsn v l) := by rw [← hwq]; exact HP1.out.drewN _
  have HKq : Hid (wq.heap[w.heap.size]? = some (.cells #[.int .i64 r.kind, .int .u64 (r.lsn : Int), .int .i64 r.txn, .int .u64 (r.prev : Int), .int .u64 (r.undo : Int), .int .i64 r.page, .int .i64 r.act.kind, .string (txt r.act.key), .string (txt r.act.old), .string (txt r.act.new), .slice r.ta r.tn r.tc, .slice r.da r.dn r.dc] 54)) := by rw [← hwq]; exact HK1.out
  obtain ⟨c0, c1, c2, c3, c4, c5, c6, c7, c8, c9, c10, c11, hz⟩ := cell12 HKq.out
  clear hwq
  go_wp2_with fail
  go_quiet ((go_at_call 49; exact Calls.quiet_of_same (HL.out _ (HPq.out.drewN _))))
  go_wp2_with fail
  refine Calls.mono (HDo.out _ (HPq.out.drewN _) HG.out) ?_
  rintro e w2 ⟨rfl, v2, hp2, ht2, hf2⟩
  have HP2 := (show Hid _ from hp2)
  have HT2 : Hid (Touch p v.ownBlock w w2) := Touch.pre (below_drewN HBq.out _) ht2
  have HF2 : Hid (Fresh w v v2) := Fresh.pre HBq.out.size hf2
  have hk2 := ht2.kept (show _ = some (Obj.cells (recC r) 54) from HKq.out) HNE.out.1 HNE.out.2
  clear c0 c1 c2 c3 c4 c5 c6 c7 c8 c9 c10 c11 hz
  obtain ⟨c0, c1, c2, c3, c4, c5, c6, c7, c8, c9, c10, c11, hz⟩ := cell12 hk2
  clear hp2 ht2 hf2 hk2 c0 c2 c3 c4 c5 c6 c7 c8 c9 c10 c11
  by_cases hd : (doL l r.act).2 = 0
  · have HE : Hid (redoM id l lsn r = (((doL l r.act).1, r.lsn), true, 0)) := by show _ = _; rw [HRe.out, if_neg (by simp [hd])]
    rw [hd]
    clear hd
    go_wp2_with fail
    refine Calls.mono (stamp_any B p id lsn v2 _ r.lsn _ HP2.out) ?_
    rintro e w3 ⟨rfl, hp3, ht3⟩
    go_wp2
    rw [HE.out]
    refine bodyPost_ret (v := .tuple #[.bool true, .int .i64 0]) (by simp [results, Try.results24, go_sem]) rfl ⟨rfl, v2, hp3, HT2.out.fresh HF2.out ht3, HF2.out⟩
  · have HE : Hid (redoM id l lsn r = ((l, lsn), false, (doL l r.act).2)) := by show _ = _; rw [HRe.out, if_pos hd]
    have hd' : ((doL l r.act).2 != 0) = true := by simp [hd]
    have hl2 := HDe.out hd
    have HP3 := HP2
    rw [hl2] at HP3
    clear hd hl2 HP2
    go_wp2
    rw [HE.out]
    refine bodyPost_ret (v := .tuple #[.bool false, .int .i64 (doL l r.act).2]) (by simp [results, Try.results24, go_sem]) rfl ⟨rfl, v2, HP3.out, HT2.out, HF2.out⟩

end Go.Proofs.Ytamkfcdehkdcpaa
