/-
  The walk of Seal.
-/
import Derived.Test.YticadfaclnimgaaRf
import Derived.Laws.MakeOwn
namespace Go.Proofs.Yticadfaclnimgaa
open Go.RowKit


theorem bcells_one (l : List UInt8) : ∀ u ∈ bcells l, u.oneCell' = true := by
  intro u hu
  simp [bcells] at hu
  obtain ⟨b, _, rfl⟩ := hu
  rfl

/-- An append of a slice of bytes, nil or not, to a row of bytes of the call's own. -/
theorem wpList_append_slB {w : World} {ops : Array Oper} {rest : List Oper} {o : Oper} {act : Act} {Q : Exit → Act → World → Prop} (hgd : o.guard = none) (s x : Operand)
    (ho : o.op = .call { callee := .builtin .append, args := #[s, x], argTypes := #[99, 99] }) (base : Nat) (v : Value) (n : Nat) (xs : List UInt8)
    (hs : act.eval s = v) (hown : w.ownsRow base 5 1 v n (bcells xs)) (a : Option Addr) (c m : Nat) (l : List UInt8) (hm : m = l.length) (hx : act.eval x = .slice a m c) (hsl : SlB w a l) (hnil : a = none → c = 0)
    (hb : n + m ≤ 140737488355328) (hbase : base ≤ w.heap.size)
    (h : ∀ v' w', w'.ownsRow base 5 1 v' (n + m) (bcells (xs ++ l)) → Below base w w' → wpList Try.prog ops Q rest (act.put o.dst v') w') : wpList Try.prog ops Q (o :: rest) act w := by
  subst hm
  obtain ⟨i0, hi, hz0, hz1, hz2⟩ := info_parts Try.info5
  cases a with
  | none =>
    have := hsl.nonil rfl
    subst this
    obtain rfl := hnil rfl
    exact wpList_append_own_none hgd s x 99 ho base 5 i0 1 Try.underlying99 hi v n _ hs hown hx (h v w (by simpa using hown) (Below.refl _ _))
  | some ad =>
    refine wpList_append_own w hgd s x 99 ho base 5 i0 (.int .u8 0) 1 1 Try.underlying99 hi hz0 hz1 hz2 rfl (by decide) v n (bcells xs) hs hown ad l.length c (bcells l) hx (by simp [bcells]) (hsl.cells ad rfl) (bcells_one l) (by unfold maxLen; omega) (by omega) hbase ?_
    intro v' w' h1 h2 _
    refine h v' w' (by rw [bcells_append]; exact h1) ((Below.refl _ _).grown h2 hbase ?_)
    intro k hk
    exact (hown.lt k hk).1

end Go.Proofs.Yticadfaclnimgaa
