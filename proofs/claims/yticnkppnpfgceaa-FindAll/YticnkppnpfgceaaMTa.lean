/-
  The walk of small.
-/
import Derived.Test.YticnkppnpfgceaaMRb
namespace Go.Proofs.Yticnkppnpfgceaa.Mg
open Go.RowKit

/-- Rows that lie within reach. -/
def Wd (r : Rc) : Prop := r.txns.length ≤ 140737488355328 ∧ r.dirty.length ≤ 140737488355328
def wt (r : Rc) : Nat := 1 + r.txns.length + r.dirty.length
def tot (l : List Rc) : Nat := (l.map wt).sum
theorem tot_append (l m : List Rc) : tot (l ++ m) = tot l + tot m := by simp [tot]
theorem tot_len (l : List Rc) : l.length ≤ tot l := by
  induction l with
  | nil => simp [tot]
  | cons a r ih => simp [tot, wt] at *; omega
theorem tot_mem {l : List Rc} {r : Rc} (h : r ∈ l) : wt r ≤ tot l := by
  induction l with
  | nil => simp at h
  | cons a s ih =>
    rcases List.mem_cons.1 h with rfl | h
    · simp [tot]
    · have := ih h
      simp [tot] at *
      omega
theorem tot_take {l : List Rc} {k : Nat} (h : k < l.length) : tot (l.take (k + 1)) = tot (l.take k) + wt l[k] := by
  rw [List.take_succ_eq_append_getElem h, tot_append]
  simp [tot]
theorem tot_logs {l : List (List Rc)} {i : Nat} (h : i < l.length) : tot (l.take (i + 1)).flatten = tot (l.take i).flatten + tot l[i] := by
  rw [List.take_succ_eq_append_getElem h, List.flatten_append, tot_append]
  simp

end Go.Proofs.Yticnkppnpfgceaa.Mg
