/-
  The walk of CrcSums.
-/
import Derived.Test.YtjdfjeaeoadmdaaAr
import Derived.Deep.RegionHeld3
namespace Go.Proofs.Ytjdfjeaeoadmdaa
open Go.RowKit

theorem below_next {w W W' : World} (h : Below w.heap.size w W) (h' : Below W.heap.size W W') : Below w.heap.size w W' := h.trans (h'.mono h.size)

set_option maxHeartbeats 4000000 in
theorem sums_walk (a b : Option Addr) (ca cb : Nat) (la lb : List UInt8) (s : Nat) (w : World) (hsa : SlB w a la) (hsb : SlB w b lb) (hla : la.length ≤ 140737488355328) (hlb : lb.length ≤ 140737488355328) (hs : s < 4294967296) :
    Calls Try.prog 3 #[.slice a la.length ca, .slice b lb.length cb, .int .u32 (s : Int)] w fun e w' => e = .returned (.bool true) ∧ Below w.heap.size w w' := by
  by_cases hlong : 20000 < la.length + lb.length
  · have hlong2 : (20000 : Int) < (la.length : Int) + (lb.length : Int) := by omega
    go_enter Try.func3, Try.ntmps3
    go_wp2_with (go_at_call 9; go_must (refine (lives_any _).mono ?_); rintro e w' ⟨rfl, hb⟩)
    go_ret
    exact ⟨rfl, hb⟩
  · have hlong2 : ¬ ((20000 : Int) < (la.length : Int) + (lb.length : Int)) := by omega
    have HG : Hid (∀ W, Below w.heap.size w W → (convert 22 9 (.slice a la.length ca)).run Try.prog W = .ok (.string ⟨la.toArray⟩) W ∧ (convert 22 9 (.slice b lb.length cb)).run Try.prog W = .ok (.string ⟨lb.toArray⟩) W) := fun W hW => ⟨conv_slB (hsa.below hW), conv_slB (hsb.below hW)⟩
    have hcva := conv_slB (c := ca) hsa
    have hcvb := conv_slB (c := cb) hsb
    obtain ⟨V, hV⟩ : ∃ V : ByteArray → Nat, V = fun t => more 0 t.data.toList := ⟨_, rfl⟩
    obtain ⟨M, hM⟩ : ∃ M : Nat → Nat, M = fun x => more x lb := ⟨_, rfl⟩
    have hVA : V ⟨la.toArray⟩ = more 0 la := by rw [hV]
    have hVD : V (⟨la.toArray⟩ ++ ⟨lb.toArray⟩) = M (more 0 la) := by
      rw [hV, hM]
      simp only
      rw [more_more, ByteArray.data_append]
      simp
    have H1 : Hid (∀ W, Below w.heap.size w W → Calls Try.prog 10 #[.slice a la.length ca] W fun e w' => e = .returned (.int .u32 ((V ⟨la.toArray⟩ : Nat) : Int)) ∧ Below w.heap.size w w') := fun W hW => (sum_any a ca la W (hsa.below hW) (by unfold maxLen; omega)).mono fun e w' ⟨h1, h2⟩ => ⟨by rw [h1, hVA], below_next hW h2⟩
    have H2 : Hid (∀ (t : ByteArray) W, t.size ≤ 9223372036854775807 → Calls Try.prog 11 #[.string t] W fun e w' => e = .returned (.int .u32 ((V t : Nat) : Int)) ∧ w' = W) := fun t W ht => by
      have := refsum_any t W ht
      rwa [hV]
    have H3 : Hid (∀ (x : Nat) W, x < 4294967296 → Below w.heap.size w W → Calls Try.prog 12 #[.int .u32 (x : Int), .slice b lb.length cb] W fun e w' => e = .returned (.int .u32 ((M x : Nat) : Int)) ∧ Below w.heap.size w w') := fun x W hx hW => by
      rw [hM]
      exact (more_any x b cb lb W (hsb.below hW) hx (by unfold maxLen; omega)).mono fun e w' ⟨h1, h2⟩ => ⟨h1, below_next hW h2⟩
    have H6 : Hid (∀ W, Calls Try.prog 13 #[.int .u32 (s : Int), .string ⟨lb.toArray⟩] W fun e w' => e = .returned (.int .u32 ((M s : Nat) : Int)) ∧ w' = W) := fun W => by
      have := refmore_any s ⟨lb.toArray⟩ W hs (by simp [ByteArray.size]; unfold maxLen; omega)
      rw [hM]
      simpa using this
    have hzA : (ByteArray.mk la.toArray).size ≤ 9223372036854775807 := by simp [ByteArray.size]; omega
    have hzD : (ByteArray.mk la.toArray ++ ⟨lb.toArray⟩).size ≤ 9223372036854775807 := by rw [ByteArray.size_append]; simp [ByteArray.size]; omega
    have hAl : V ⟨la.toArray⟩ < 4294967296 := by rw [hVA]; exact more_lt _ _
    rw [← hVA] at hVD
    clear hVA hV hM hsa hsb hla hlb hlong
    go_enter Try.func3, Try.ntmps3
    go_wp2_with fail
    have hb0 : Below w.heap.size w w.drew := (Below.refl _ _).drew
    obtain ⟨hk1, hk2⟩ := HG.out _ hb0
    clear hcva hcvb
    generalize (⟨la.toArray⟩ ++ ⟨lb.toArray⟩ : ByteArray) = bo at *
    generalize (⟨la.toArray⟩ : ByteArray) = sA at *
    generalize (⟨lb.toArray⟩ : ByteArray) = sB at *
    have HZA := (show Hid _ from hzA)
    have HZD := (show Hid _ from hzD)
    have HAL := (show Hid _ from hAl)
    have HSL := (show Hid _ from hs)
    clear hzA hzD hAl hs hlong2
    have HT : Hid (∀ W, Below w.heap.size w W → (Below w.heap.size w W ∧ (convert 22 9 (.slice a la.length ca)).run Try.prog W = .ok (.string sA) W ∧ (convert 22 9 (.slice b lb.length cb)).run Try.prog W = .ok (.string sB) W)) := fun W hW => ⟨hW, HG.out W hW⟩
    have hS0 := HT.out _ hb0
    clear hk1 hk2 hb0 HG
    go_region_held3 (fun W => Below w.heap.size w W ∧ (convert 22 9 (.slice a la.length ca)).run Try.prog W = .ok (.string sA) W ∧ (convert 22 9 (.slice b lb.length cb)).run Try.prog W = .ok (.string sB) W) (first | assumption | exact HT.out _ (Below.refl _ _).drew) (first | (go_at_call 10; refine (H1.out _ (And.left (by assumption))).mono ?_; rintro e wn ⟨rfl, hbn⟩; have hSn := HT.out _ hbn; clear hbn) | (go_at_call 11; refine (H2.out _ _ (by first | exact HZA.out | exact HZD.out)).mono ?_; rintro e wn ⟨rfl, hw⟩; obtain rfl := hw.symm) | (go_at_call 12; refine (H3.out _ _ (by first | exact HAL.out | exact HSL.out) (And.left (by assumption))).mono ?_; rintro e wn ⟨rfl, hbn⟩; have hSn := HT.out _ hbn; clear hbn) | (go_at_call 13; refine (H6.out _).mono ?_; rintro e wn ⟨rfl, hw⟩; obtain rfl := hw.symm) | (go_at_call 9; refine (lives_any _).mono ?_; rintro e wz ⟨rfl, hbz⟩; have hSz := HT.out _ (below_next (And.left (by assumption)) hbz)))
    all_goals
      go_wp2
      go_ret
      exact ⟨rfl, hSz.1⟩
end Go.Proofs.Ytjdfjeaeoadmdaa
