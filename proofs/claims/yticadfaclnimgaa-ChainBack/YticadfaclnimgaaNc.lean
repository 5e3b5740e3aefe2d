/-
  Note: what a record that is noted leaves.
-/
import Derived.Test.YticadfaclnimgaaNb
namespace Go.Proofs.Yticadfaclnimgaa
open Go.RowKit Go.Maps

theorem deedX_saves (x : Tn) (r : Rc) : (deedX x r).saves = x.saves := by unfold deedX; (repeat' split) <;> rfl
theorem deedX_last (x : Tn) (r : Rc) : (deedX x r).last = x.last := by unfold deedX; (repeat' split) <;> rfl
theorem deedX_need (x : Tn) (r : Rc) (h : mayB r = true) : (deedX x r).need ≤ x.need + 200 := by
  have := moreN_le (x := x) h
  unfold deedX
  (repeat' split) <;> (first | omega | (simp only; omega))

section
variable {w : World} {B T A M : Nat} {K : List Lit} {σ : Sg} {x : Tn} {r : Rc} {ta : Option Addr} {tc : Nat} {da : Option Addr} {dc : Nat}

/-- A transaction behind a record that is noted. -/
def notedX (x : Tn) (r : Rc) : Tn := { deedX x r with last := r.lsn }
theorem note_fin (h : Tb w B T A K M σ) (hx : σ.f r.txn = some x) (hm : mayB r = true) {W w3 : World} (hW : Below w.heap.size w W) (hD : Deed W w3 (σ.b r.txn) (deedX x r) (σ.v r.txn)) :
    Tb (w3.setCell ⟨σ.b r.txn, 1, none⟩ (.int .u64 (r.lsn : Int))) B T A K (M + 200) (σ.put r.txn (notedX x r) (σ.b r.txn) (σ.v r.txn)) ∧ Step A w σ (w3.setCell ⟨σ.b r.txn, 1, none⟩ (.int .u64 (r.lsn : Int))) (σ.put r.txn (notedX x r) (σ.b r.txn) (σ.v r.txn)) := by
  have hD2 : Deed W (w3.setCell ⟨σ.b r.txn, 1, none⟩ (.int .u64 (r.lsn : Int))) (σ.b r.txn) (notedX x r) (σ.v r.txn) := hD.set rfl
  have hl := h.lim _ _ hx
  have hne : ∀ g, (σ.v r.txn).ownBlock = some g → g ≠ σ.b r.txn := fun g hg e => by
    obtain ⟨_, cur, h2⟩ := own_kind (h.row _ _ hx) hg
    rw [e, (h.blk _ _ hx).2] at h2
    injection h2 with h2
    injection h2 with h3 h5
    exact absurd h5 (by decide)
  refine h.put hx (by omega) ((Turn.of_below hW _).trans hD2.2 fun i hi => .inl (.inl hi)) hD2.1 ?_ (fun g hg => .inl hg) ?_ ?_
  · show (w3.setCell _ _).ownsRow B 27 1 _ (deedX x r).saves.length (lsns (deedX x r).saves)
    rw [deedX_saves]
    refine own_at (h.row _ _ hx) fun g hg => ?_
    have hlt := (own_blk (h.row _ _ hx) hg).2
    rw [hD2.2.block g (Nat.lt_of_lt_of_le hlt hW.size) (hne g hg), hW.block g hlt]
  · have := deedX_need x r hm
    show (deedX x r).need ≤ _
    omega
  · show (deedX x r).saves.length ≤ 4
    rw [deedX_saves]
    exact hl.2
end
end Go.Proofs.Yticadfaclnimgaa
