/-
  When two changes, two rows are the same.
-/
import Derived.Test.YticnkppnpfgceaaMx
namespace Go.Proofs.Yticnkppnpfgceaa
open Go.RowKit

theorem Try.held27 : Try.prog.stoodInHeld 48 = false := by kernel_rfl
theorem Try.held71 : Try.prog.stoodInHeld 57 = false := by kernel_rfl
theorem Try.held73 : Try.prog.stoodInHeld 60 = false := by kernel_rfl
theorem Try.struct27 : Try.prog.underlying 48 = some (.struct (Try.prog.fieldsOf 48)) := by kernel_rfl
theorem Try.struct71 : Try.prog.underlying 57 = some (.struct (Try.prog.fieldsOf 57)) := by kernel_rfl
theorem Try.struct73 : Try.prog.underlying 60 = some (.struct (Try.prog.fieldsOf 60)) := by kernel_rfl
theorem Try.guard27 : Try.prog.eqGuardType Try.prog.depth 48 = false := by kernel_rfl
theorem Try.guard71 : Try.prog.eqGuardType Try.prog.depth 57 = false := by kernel_rfl
theorem Try.guard73 : Try.prog.eqGuardType Try.prog.depth 60 = false := by kernel_rfl

theorem act_eq (ak bk : Int) (k o n k' o' n' : ByteArray) (w : World) :
    (Op.equalIn 10000 48 (.agg #[.int .i64 ak, .string k, .string o, .string n]) (.agg #[.int .i64 bk, .string k', .string o', .string n'])).run Try.prog w = .ok ((ak == bk) && ((k.toList == k'.toList) && ((o.toList == o'.toList) && (n.toList == n'.toList)))) w := by
  rw [show (10000 : Nat) = 9999 + 1 from rfl, run_equalIn_struct w 9999 48 _ _ Try.struct27 Try.held27]
  simp [Program.fieldsOf, Try.underlying48, Op.eqFields, go_sem]
  repeat' split
  all_goals simp_all

theorem tx_eq (a b c a' b' c' : Int) (w : World) :
    (Op.equalIn 10000 57 (.agg #[.int .i64 a, .int .i64 b, .int .u64 c]) (.agg #[.int .i64 a', .int .i64 b', .int .u64 c'])).run Try.prog w = .ok ((a == a') && ((b == b') && (c == c'))) w := by
  rw [show (10000 : Nat) = 9999 + 1 from rfl, run_equalIn_struct w 9999 57 _ _ Try.struct71 Try.held71]
  simp [Program.fieldsOf, Try.underlying57, Op.eqFields, go_sem]
  repeat' split
  all_goals simp_all

theorem di_eq (a c a' c' : Int) (w : World) :
    (Op.equalIn 10000 60 (.agg #[.int .i64 a, .int .u64 c]) (.agg #[.int .i64 a', .int .u64 c'])).run Try.prog w = .ok ((a == a') && (c == c')) w := by
  rw [show (10000 : Nat) = 9999 + 1 from rfl, run_equalIn_struct w 9999 60 _ _ Try.struct73 Try.held73]
  simp [Program.fieldsOf, Try.underlying60, Op.eqFields, go_sem]
  repeat' split
  all_goals simp_all

/-- Is a change the zero one? -/
def actZ (ak : Int) (key old new : List UInt8) : Bool := decide (ak = 0 ∧ key = [] ∧ old = [] ∧ new = [])
theorem act_zero (ak : Int) (key old new : List UInt8) (w : World) :
    (Op.equalIn 10000 48 (actV ak key old new) (.agg #[.int .i64 0, .string ⟨#[]⟩, .string ⟨#[]⟩, .string ⟨#[]⟩])).run Try.prog w = .ok (actZ ak key old new) w := by
  rw [act_eq]
  congr 1
  have e : (⟨#[]⟩ : ByteArray).toList = [] := by simp
  rw [txt_toList, txt_toList, txt_toList, e, actZ, Bool.eq_iff_iff]
  simp
theorem act_same (ak bk : Int) (k o n k' o' n' : List UInt8) (w : World) :
    (Op.equalIn 10000 48 (actV ak k o n) (actV bk k' o' n')).run Try.prog w = .ok (decide (ak = bk ∧ k = k' ∧ o = o' ∧ n = n')) w := by
  rw [act_eq]
  congr 1
  simp only [txt_toList]
  rw [Bool.eq_iff_iff]
  simp
theorem tx_same (t u : Tx) (w : World) :
    (Op.equalIn 10000 57 (.agg #[.int .i64 t.id, .int .i64 t.st, .int .u64 (t.last : Nat)]) (.agg #[.int .i64 u.id, .int .i64 u.st, .int .u64 (u.last : Nat)])).run Try.prog w = .ok (decide (t = u)) w := by
  rw [tx_eq]
  congr 1
  obtain ⟨a, b, c⟩ := t
  obtain ⟨a', b', c'⟩ := u
  rw [Bool.eq_iff_iff]
  simp
  omega
theorem di_same (t u : Di) (w : World) :
    (Op.equalIn 10000 60 (.agg #[.int .i64 t.page, .int .u64 (t.lsn : Nat)]) (.agg #[.int .i64 u.page, .int .u64 (u.lsn : Nat)])).run Try.prog w = .ok (decide (t = u)) w := by
  rw [di_eq]
  congr 1
  obtain ⟨a, b⟩ := t
  obtain ⟨a', b'⟩ := u
  rw [Bool.eq_iff_iff]
  simp
  omega

/-- A record as cells. -/
abbrev recC (r : Rc) (ta : Option Addr) (tc : Nat) (da : Option Addr) (dc : Nat) : Array Value :=
  #[.int .i64 r.kind, .int .u64 (r.lsn : Int), .int .i64 r.txn, .int .u64 (r.prev : Int), .int .u64 (r.undo : Int), .int .i64 r.page, .int .i64 r.ak, .string (txt r.key), .string (txt r.old), .string (txt r.new), .slice ta r.txns.length tc, .slice da r.dirty.length dc]
abbrev recV (r : Rc) (ta : Option Addr) (tc : Nat) (da : Option Addr) (dc : Nat) : Value := .agg (recC r ta tc da dc)

end Go.Proofs.Yticnkppnpfgceaa
