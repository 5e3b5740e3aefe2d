/-
  The walk of CrcSeals.
-/
import Derived.Test.YtjdfjeaeoadmdaaRo
namespace Go.Proofs.Ytjdfjeaeoadmdaa
open Go.RowKit

theorem conv_own2 {w : World} {B : Nat} {a : Option Addr} {n c : Nat} {l : List UInt8} (h : w.ownsRow B 5 1 (.slice a n c) l.length (bcells l)) :
    (convert 22 9 (.slice a n c)).run Try.prog w = .ok (.string ⟨l.toArray⟩) w := by
  obtain ⟨hsl, rfl, _⟩ := slB_of_own h
  exact conv_slB hsl

theorem below_on {w W W' : World} (h : Below w.heap.size w W) (h' : Below W.heap.size W W') : Below w.heap.size w W' := h.trans (h'.mono h.size)

set_option maxHeartbeats 4000000 in
theorem seals_walk (a b : Option Addr) (ca cb : Nat) (la lb : List UInt8) (w : World) (hsa : SlB w a la) (hsb : SlB w b lb) (hla : la.length ≤ 140737488355328) (hlb : lb.length ≤ 140737488355328) (hna : a = none → ca = 0) (hcb : lb.length ≤ cb) :
    Calls Try.prog 4 #[.slice a la.length ca, .slice b lb.length cb] w fun e w' => e = .returned (.bool true) ∧ Below w.heap.size w w' := by
  by_cases hlong : 20000 < la.length + lb.length
  · have hlong2 : (20000 : Int) < (la.length : Int) + (lb.length : Int) := by omega
    go_enter Try.func4, Try.ntmps4
    go_wp2_with (go_at_call 9; go_must (refine (lives_any _).mono ?_); rintro e w' ⟨rfl, hb⟩)
    go_ret
    exact ⟨rfl, hb⟩
  · have hlong2 : ¬ ((20000 : Int) < (la.length : Int) + (lb.length : Int)) := by omega
    have hopen := open_any b cb lb w hsb (by omega) hcb
    go_enter Try.func4, Try.ntmps4
    go_wp2_with fail
    refine hopen.mono ?_
    rintro e w1 ⟨r1, rfl, hown1, hb1⟩
    obtain ⟨ax, cx, rfl⟩ := ownsRow_shape hown1
    have hcv1 := conv_slB (c := cb) (hsb.below hb1)
    have href := refopen_any ⟨lb.toArray⟩ w1 (by simp [ByteArray.size]; omega)
    rw [show (ByteArray.mk lb.toArray).data.toList = lb by simp] at href
    clear hopen
    go_wp2_with fail
    refine href.mono ?_
    rintro e w2 ⟨rfl, hb2⟩
    clear href hcv1
    have hb12 := below_on hb1 hb2
    have hown2 := ownsRow_below hown1 hb2 (ownsRow_lt hown1)
    have HG : Hid (∀ W, Below w2.heap.size w2 W → (convert 22 9 (.slice a la.length ca)).run Try.prog W = .ok (.string ⟨la.toArray⟩) W ∧ (convert 22 9 (.slice ax (openB lb).1.length cx)).run Try.prog W = .ok (.string ⟨(openB lb).1.toArray⟩) W) := fun W hW => ⟨conv_slB (hsa.below (below_on hb12 hW)), conv_own2 (ownsRow_below hown2 hW (ownsRow_lt hown2))⟩
    have HS : Hid (∀ W, Below w2.heap.size w2 W → Calls Try.prog 16 #[.slice a la.length ca] W fun e w' => ∃ ay cy, e = .returned (.slice ay (la.length + 4) cy) ∧ (∀ W', Below w'.heap.size w' W' → (convert 22 9 (.slice ay (la.length + 4) cy)).run Try.prog W' = .ok (.string ⟨(sealB la).toArray⟩) W') ∧ Below w2.heap.size w2 w') := fun W hW =>
      (seal_any a ca la W (hsa.below (below_on hb12 hW)) (by omega) hna).mono fun e w' ⟨r, h1, h2, h3⟩ => by
        obtain ⟨ay, cy, rfl⟩ := ownsRow_shape h2
        refine ⟨ay, cy, h1, fun W' hW' => ?_, below_on hW h3⟩
        rw [← sealB_length] at h2
        have := conv_own2 (ownsRow_below h2 hW' (ownsRow_lt h2))
        rwa [sealB_length] at this
    have HR : Hid (∀ W, Below w2.heap.size w2 W → Calls Try.prog 17 #[.string ⟨la.toArray⟩] W fun e w' => e = .returned (.string ⟨(sealB la).toArray⟩) ∧ Below W.heap.size W w' ∧ Below w2.heap.size w2 w') := fun W hW => by
      have := refseal_any ⟨la.toArray⟩ W (by simp [ByteArray.size]; unfold maxLen; omega)
      rw [show (ByteArray.mk la.toArray).data.toList = la by simp] at this
      exact this.mono fun e w' ⟨h1, h2⟩ => ⟨h1, h2, below_on hW h2⟩
    have HB : Hid (Below w.heap.size w w2) := hb12
    clear hb12 hown1 hown2 hb1 hb2 hsa hsb hla hlb hna hcb
    generalize (⟨(sealB la).toArray⟩ : ByteArray) = t at *
    generalize (⟨(openB lb).1.toArray⟩ : ByteArray) = y at *
    generalize (openB lb).1.length = m at *
    generalize (openB lb).2 = er at *
    generalize (⟨la.toArray⟩ : ByteArray) = s at *
    have hb0 : Below w2.heap.size w2 w2.drew := (Below.refl _ _).drew
    obtain ⟨hk1, hk2⟩ := HG.out _ hb0
    go_wp2
    go_region_with (first | (go_at_call 16; refine (HS.out _ (by assumption)).mono ?_; rintro e wn ⟨ay, cy, rfl, hcs, hbn⟩; have hcs0 := hcs _ (Below.refl _ _); have HCS := (show Hid _ from hcs); clear hcs; obtain ⟨hkn1, hkn2⟩ := HG.out _ hbn) | (go_at_call 17; refine (HR.out _ (by assumption)).mono ?_; rintro e wr ⟨rfl, hbr0, hbr⟩; have hcs1 := HCS.out _ hbr0; obtain ⟨hkr1, hkr2⟩ := HG.out _ hbr) | (go_at_call 9; refine (lives_any _).mono ?_; rintro e wz ⟨rfl, hbz⟩))
    all_goals
      go_wp2
      go_ret
      exact ⟨rfl, below_on HB.out (below_on hbr hbz)⟩
end Go.Proofs.Ytjdfjeaeoadmdaa
