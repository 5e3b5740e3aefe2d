/-
  meet: the greater one of two comes under the other.
-/
import Derived.Test.YtnejcjebepidcaaHIb
namespace Go.Proofs.Ytnejcjebepidcaa
open Go.RowKit

set_option maxRecDepth 100000 in
set_option maxHeartbeats 4000000 in
theorem meetI (B h : Nat) (th : Nat → Value) (key : Nat → Int) (live : List Nat) (N : Nd) (a b : Nat) (tv sz : Value) (w : World) (hN : NdOk 85 83 B th w live N) (ha : a ∈ live) (hb : b ∈ live)
    (hh : w.heap[h]? = some (.cells #[.func (.func 24) #[] #[], tv, sz] 82)) (hk : ∀ x, x ∈ live → RdI B w (th x) (key x)) (hfa : (N.kids a).length ≤ 1000000) (hfb : (N.kids b).length ≤ 1000000) (hB : B ≤ w.heap.size) :
    Calls Try.prog 51 #[.pointer (some ⟨h, 0, none⟩), .pointer (some ⟨a, 0, none⟩), .pointer (some ⟨b, 0, none⟩)] w fun e w' =>
      (key a < key b ∧ e = .returned (.tuple #[.pointer (some ⟨a, 0, none⟩), .pointer none]) ∧ ∃ v, NdOk 85 83 B th w' live (N.add a b v) ∧ Turn live N (N.add a b v) w w') ∨
      (key b < key a ∧ e = .returned (.tuple #[.pointer (some ⟨b, 0, none⟩), .pointer none]) ∧ ∃ v, NdOk 85 83 B th w' live (N.add b a v) ∧ Turn live N (N.add b a v) w w') ∨
      (key a = key b ∧ e = .returned (.tuple #[.pointer (some ⟨a, 0, none⟩), .pointer (some ⟨b, 0, none⟩)]) ∧ NdOk 85 83 B th w' live N ∧ Turn live N N w w') := by
  obtain ⟨i0, hi0, hz0, hz1, hz2⟩ := info_parts Try.infoPI
  obtain ⟨a0, a1, a2⟩ := nodeCells (hN.blk a ha)
  obtain ⟨b0, b1, b2⟩ := nodeCells (hN.blk b hb)
  obtain ⟨h0, -, -, -, -⟩ := heapCells hh
  have HBF := toHid (fun (n : Nat) x y hx hy => beforeI B h (th x) (th y) (key x) (key y) (w.drewN n) h0 (hk x hx) (hk y hy))
  have HBG := toHid (fun (n m : Nat) x y hx hy => beforeI B h (th x) (th y) (key x) (key y) ((w.drewN n).drewN m) h0 (hk x hx) (hk y hy))
  have HN := toHid hN
  have HMa := toHid ha
  have HMb := toHid hb
  have HFa := toHid hfa
  have HFb := toHid hfb
  clear hN ha hb hh hk h0 hfa hfb
  obtain ⟨va, hva⟩ : ∃ va, va = th a := ⟨_, rfl⟩
  obtain ⟨vb, hvb⟩ : ∃ vb, vb = th b := ⟨_, rfl⟩
  have HBab := toHid (fun n : Nat => HBF.out n a b HMa.out HMb.out)
  have HBba := toHid (fun n m : Nat => HBG.out n m b a HMb.out HMa.out)
  rw [← hva] at a0 HBab HBba
  rw [← hvb] at b0 HBab HBba
  clear hva hvb a1 a2 b1 b2 HBF HBG
  by_cases hab : key a < key b
  · rw [show decide (key a < key b) = true by simpa using hab] at HBab
    have HAB := toHid hab
    clear hab
    go_enter Try.func51, Try.ntmps51
    go_wp2_with fail
    go_quiet ((go_at_call 57; exact Calls.quiet_of (HBab.out _)))
    obtain ⟨z0, z1, z2⟩ := nodeCells ((HN.out.drewN nq).blk a HMa.out)
    have HO0 := toHid <| World.ownsRow.alloc ((HN.out.drewN nq).own a HMa.out) (.cells #[.pointer (some ⟨b, 0, none⟩)] 83)
    have hfx := HFa.out
    obtain ⟨rv, hrv⟩ : ∃ rv, rv = N.row a := ⟨_, rfl⟩
    have HRV := toHid hrv
    rw [← hrv] at z1 HO0
    clear hrv
    go_wp2_with (at_builtin; go_must (refine wpList_append_fresh _ rfl _ _ 80 rfl B 83 i0 _ 1 8 Try.underlying80 hi0 hz0 hz1 hz2 rfl (by decide) rv _ (ptrs (N.kids a)) rfl HO0.out ⟨w.heap.size, 0, none⟩ 1 1 (ptrs [b]) rfl rfl (news_one (w.drewN nq) b 83) (ptrs_one _) (by unfold maxLen; omega) (by omega) (by simp; omega) ?_); intro v' y1 hown hgrow hfr; obtain ⟨a3, c3, rfl⟩ := ownsRow_shape hown; have HOW := toHid hown; have HGW := toHid hgrow; have HFW := toHid hfr; have HQ := toHid (nodeStay (HN.out.drewN nq) (by decide) HMa.out HRV.out HGW.out); clear hown hgrow hfr z0 z1 z2; obtain ⟨z0, z1, z2⟩ := nodeCells HQ.out)
    have hmm := meetMem (b := b) (HN.out.drewN nq) (by decide) HMa.out (grownBy_step (World.grownBy_alloc _ (.cells #[.pointer (some ⟨b, 0, none⟩)] 83) _) (by rw [← HRV.out]; exact HGW.out)) HOW.out (by rw [← HRV.out]; exact HFW.out.mono (by simp))
    go_ret2
    exact .inl ⟨HAB.out, rfl, _, hmm.1, hmm.2.undrew⟩
  · rw [show decide (key a < key b) = false by simpa using hab] at HBab
    have HAB := toHid hab
    clear hab
    by_cases hba : key b < key a
    · rw [show decide (key b < key a) = true by simpa using hba] at HBba
      have HBA := toHid hba
      clear hba
      go_enter Try.func51, Try.ntmps51
      go_wp2_with fail
      go_quiet ((go_at_call 57; exact Calls.quiet_of (HBab.out _)))
      obtain ⟨wq, hwq⟩ : ∃ wq, wq = w.drewN nq := ⟨_, rfl⟩
      have HNq := toHid (show NdOk 85 83 B th wq live N from hwq ▸ HN.out.drewN nq)
      have HTq := toHid (show Turn live N N w wq from hwq ▸ (Turn.refl live N w).drewN nq)
      have HBb2 := toHid (fun m : Nat => HBba.out nq m)
      rw [← hwq] at HBb2 ⊢
      replace a0 : wq.cell? ⟨a, 0, none⟩ = some va := by rw [hwq]; exact a0
      replace b0 : wq.cell? ⟨b, 0, none⟩ = some vb := by rw [hwq]; exact b0
      replace hB : B ≤ wq.heap.size := by rw [hwq]; exact hB
      clear HBba HBab hwq
      go_wp2_with fail
      go_quiet ((go_at_call 57; exact Calls.quiet_of (HBb2.out _)))
      obtain ⟨z0, z1, z2⟩ := nodeCells ((HNq.out.drewN nq).blk b HMb.out)
      have HO0 := toHid <| World.ownsRow.alloc ((HNq.out.drewN nq).own b HMb.out) (.cells #[.pointer (some ⟨a, 0, none⟩)] 83)
      have hfx := HFb.out
      obtain ⟨rv, hrv⟩ : ∃ rv, rv = N.row b := ⟨_, rfl⟩
      have HRV := toHid hrv
      rw [← hrv] at z1 HO0
      clear hrv
      go_wp2_with (at_builtin; go_must (refine wpList_append_fresh _ rfl _ _ 80 rfl B 83 i0 _ 1 8 Try.underlying80 hi0 hz0 hz1 hz2 rfl (by decide) rv _ (ptrs (N.kids b)) rfl HO0.out ⟨wq.heap.size, 0, none⟩ 1 1 (ptrs [a]) rfl rfl (news_one (wq.drewN nq) a 83) (ptrs_one _) (by unfold maxLen; omega) (by omega) (by simp; omega) ?_); intro v' y1 hown hgrow hfr; obtain ⟨a3, c3, rfl⟩ := ownsRow_shape hown; have HOW := toHid hown; have HGW := toHid hgrow; have HFW := toHid hfr; have HQ := toHid (nodeStay (HNq.out.drewN nq) (by decide) HMb.out HRV.out HGW.out); clear hown hgrow hfr z0 z1 z2; obtain ⟨z0, z1, z2⟩ := nodeCells HQ.out)
      have hmm := meetMem (b := a) (HNq.out.drewN nq) (by decide) HMb.out (grownBy_step (World.grownBy_alloc _ (.cells #[.pointer (some ⟨a, 0, none⟩)] 83) _) (by rw [← HRV.out]; exact HGW.out)) HOW.out (by rw [← HRV.out]; exact HFW.out.mono (by simp))
      go_ret2
      exact .inr (.inl ⟨HBA.out, rfl, _, hmm.1, (HTq.out.trans hmm.2.undrew)⟩)
    · rw [show decide (key b < key a) = false by simpa using hba] at HBba
      have HBA := toHid hba
      clear hba
      go_enter Try.func51, Try.ntmps51
      go_wp2_with fail
      go_quiet ((go_at_call 57; exact Calls.quiet_of (HBab.out _)))
      obtain ⟨wq, hwq⟩ : ∃ wq, wq = w.drewN nq := ⟨_, rfl⟩
      have HNq := toHid (show NdOk 85 83 B th wq live N from hwq ▸ HN.out.drewN nq)
      have HTq := toHid (show Turn live N N w wq from hwq ▸ (Turn.refl live N w).drewN nq)
      have HBb2 := toHid (fun m : Nat => HBba.out nq m)
      rw [← hwq] at HBb2 ⊢
      replace a0 : wq.cell? ⟨a, 0, none⟩ = some va := by rw [hwq]; exact a0
      replace b0 : wq.cell? ⟨b, 0, none⟩ = some vb := by rw [hwq]; exact b0
      replace hB : B ≤ wq.heap.size := by rw [hwq]; exact hB
      clear HBba HBab hwq
      go_wp2_with fail
      go_quiet ((go_at_call 57; exact Calls.quiet_of (HBb2.out _)))
      go_wp2
      go_ret2
      exact .inr (.inr ⟨by have := HAB.out; have := HBA.out; omega, rfl, HNq.out.drewN _, HTq.out.drewN _⟩)

end Go.Proofs.Ytnejcjebepidcaa
