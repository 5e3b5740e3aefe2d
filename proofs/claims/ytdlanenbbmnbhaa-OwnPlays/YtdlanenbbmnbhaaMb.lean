/-
  Of no program: what a step of a book leaves; whose turn it is.
-/
import Derived.Test.YtdlanenbbmnbhaaCf
namespace Go.Proofs.Ytdlanenbbmnbhaa
open Go.RowKit

/-- Who is called behind a give. -/
def nextO (i y : Int) (S : List Int) (f : Bool) : List Od := match S with
  | [] => []
  | b :: _ => [⟨2, i, y, b, f⟩]
theorem nextO_len (i y : Int) (S : List Int) (f : Bool) : (nextO i y S f).length ≤ 1 := by cases S <;> simp [nextO]
theorem back_turn {x : Lf} {a : Int} {r : List Int} (i : Int) (h : LfOk x) (hw : x.ws = a :: r) (t : Bool) (ht : t = false) :
    serveF i (leaveF t x) = (⟨x.fast, a, false, !r.isEmpty, r⟩, ⟨1, i, 0, a, x.fast⟩ :: nextO i a r x.fast) := by
  subst ht
  have ha := h.inst a (by rw [hw]; simp)
  have ha0 : a ≠ 0 := by omega
  cases r with
  | nil => simp [serveF, giveF, callF, leaveF, hw, nextO]
  | cons b s => simp [serveF, giveF, callF, leaveF, hw, ha0, nextO]
theorem back_none {x : Lf} (i : Int) (hw : x.ws = []) : serveF i (leaveF false x) = (⟨x.fast, 0, false, false, []⟩, []) := by
  simp [serveF, giveF, callF, leaveF, hw]

/-- What a step leaves. -/
def stepS (l : List Lf) (o : Int × Int × Int) : List Lf :=
  if o.1 = 0 then (needL l o.2.1 o.2.2).1 else if o.1 = 1 then (backL l o.2.1 o.2.2).1 else if o.1 = 2 then failL l o.2.2 else if o.1 = 3 then (mendL l o.2.1).1 else l
def stepO (l : List Lf) (o : Int × Int × Int) : List Od :=
  if o.1 = 0 then (needL l o.2.1 o.2.2).2.1 else if o.1 = 1 then (backL l o.2.1 o.2.2).2.1 else if o.1 = 2 then [] else if o.1 = 3 then (mendL l o.2.1).2.1 else []
theorem step_ok {l : List Lf} (h : BkOk l) (o : Int × Int × Int) : BkOk (stepS l o) := by
  unfold stepS
  split
  · exact need_ok h _ _
  · split
    · exact back_ok h _ _
    · split
      · exact fail_ok h _
      · split
        · exact mend_ok h _
        · exact h
theorem step_len (l : List Lf) (o : Int × Int × Int) : (stepS l o).length = l.length := by
  unfold stepS
  split
  · exact need_len _ _ _
  · split
    · exact back_len _ _ _
    · split
      · exact fail_len _ _
      · split
        · exact mend_len _ _
        · rfl
theorem cellq {w wq : World} {n : Nat} {a : Addr} {v : Option Value} (h : wq = w.drewN n) (z : w.cell? a = v) : wq.cell? a = v := by rw [h]; exact z
theorem below_drewN {B : Nat} {w w' : World} (h : Below B w w') (n : Nat) : Below B w (w'.drewN n) := ⟨h.os, h.tape, h.output, h.size, h.block⟩
theorem Bk.drewN {w : World} {p q : Nat} {l : List Lf} (h : Bk w p q l) (n : Nat) : Bk (w.drewN n) p q l := h.below (below_drewN (Below.refl _ _) n)
end Go.Proofs.Ytdlanenbbmnbhaa
