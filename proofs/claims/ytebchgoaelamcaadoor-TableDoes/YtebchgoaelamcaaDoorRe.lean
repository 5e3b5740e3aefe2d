/-
  Redo.
-/
import Derived.Test.YtebchgoaelamcaaDoorBk
namespace Go.Proofs.YtebchgoaelamcaaDoor
open Go.RowKit
set_option maxRecDepth 100000

def chgB (k : Int) : Bool := decide (k = 1 ∨ k = 2)

theorem ins_err {l : List Cl} {k x : List UInt8} (h : (insL l k x).2 ≠ 0) : (insL l k x).1 = l := by
  unfold insL fillL addL at *
  repeat' split at h
  all_goals simp_all
theorem upd_err {l : List Cl} {k x : List UInt8} (h : (updL l k x).2 ≠ 0) : (updL l k x).1 = l := by
  unfold updL fillL at *
  repeat' split at h
  all_goals simp_all
theorem del_err {l : List Cl} {k : List UInt8} (h : (delL l k).2 ≠ 0) : (delL l k).1 = l := by
  unfold delL at *
  repeat' split at h
  all_goals simp_all
theorem do_err {l : List Cl} {a : Ac} (h : (doL l a).2 ≠ 0) : (doL l a).1 = l := by
  unfold doL at *
  split
  · rfl
  · rename_i h1
    rw [if_neg h1] at h
    split
    · rename_i h2
      rw [if_pos h2] at h
      exact ins_err h
    · rename_i h2
      rw [if_neg h2] at h
      split
      · rfl
      · rename_i h3
        rw [if_neg h3] at h
        split
        · rename_i h4
          rw [if_pos h4] at h
          exact upd_err h
        · rename_i h4
          rw [if_neg h4] at h
          exact del_err h

/-- What a record makes of slots and an LSN, whether it is done, and why not. -/
def redoM (id : Int) (l : List Cl) (lsn : Nat) (r : Rc) : (List Cl × Nat) × Bool × Int :=
  if chgB r.kind = false ∨ r.page ≠ id then ((l, lsn), false, 1) else if r.lsn ≤ lsn then ((l, lsn), false, 0) else if (doL l r.act).2 ≠ 0 then ((l, lsn), false, (doL l r.act).2) else (((doL l r.act).1, r.lsn), true, 0)

theorem redo_good {id : Int} {l : List Cl} {lsn : Nat} {r : Rc} (h : GoodL l) : GoodL (redoM id l lsn r).1.1 := by
  unfold redoM
  repeat' split
  · exact h
  · exact h
  · exact h
  · exact do_good h _

theorem PgOk.drewN {w : World} {B p : Nat} {id : Int} {lsn : Nat} {v : Value} {l : List Cl} (h : PgOk w B p id lsn v l) (n : Nat) : PgOk (w.drewN n) B p id lsn v l := ⟨h.blk, h.own, h.ne, h.base⟩
theorem below_drewN {n : Nat} {w w' : World} (h : Below n w w') (m : Nat) : Below n w (w'.drewN m) := ⟨h.os, h.tape, h.output, h.size, h.block⟩

end Go.Proofs.YtebchgoaelamcaaDoor
