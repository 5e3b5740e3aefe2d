/-
  The walk of the document's Open.
-/
import Derived.Test.YtjhjicokbdloiaaOp
namespace Go.Proofs.Ytjhjicokbdloiaa
open Go.RowKit

theorem refopen_any (b : ByteArray) (w : World) (hl : b.size ≤ 1000000000) :
    Calls Try.prog 53 #[.string b] w fun e w' => e = .returned (.tuple #[.string ⟨(openB b.data.toList).1.toArray⟩, .int .i64 (openB b.data.toList).2]) ∧ Below w.heap.size w w' := by
  have hlen : b.data.toList.length = b.size := by simp
  by_cases h4 : b.size < 4
  · rw [show openB b.data.toList = ([], 4) by unfold openB; rw [if_pos (by omega)]]
    clear hlen
    go_enter Try.func53, Try.ntmps53
    go_wp2
    refine bodyPost_ret (v := .tuple #[.string ⟨#[]⟩, .int .i64 4]) (by simp [results, Try.results53, go_sem]) rfl ⟨rfl, Below.refl _ _⟩
  · obtain ⟨m, hm⟩ : ∃ m : Nat, b.size = m + 4 := ⟨b.size - 4, by omega⟩
    have hmi : (b.size : Int) - 4 = (m : Int) := by omega
    have hm0 : (0 : Int) ≤ (m : Int) := by omega
    have hm1 : (m : Int) ≤ (b.size : Int) := by omega
    have hb4 : ¬ ((b.size : Int) < 4) := by omega
    have HO : Hid (openB b.data.toList = if leN (b.data.toList.drop m) = more 0 (b.data.toList.take m) then (b.data.toList.take m, 0) else ([], 6)) := by
      show _ = _
      unfold openB
      rw [if_neg (by omega), show b.data.toList.length - 4 = m by omega]
    have hS := more_lt 0 (b.data.toList.take m)
    have hdl : (b.data.toList.drop m).length = 4 := by simp; omega
    have hiff := four_iff (b.data.toList.drop m) _ hdl hS
    have H1 : Hid (∀ W, Calls Try.prog 66 #[.string (b.extract 0 m)] W fun e w' => e = .returned (.int .u32 ((more 0 (b.data.toList.take m) : Nat) : Int)) ∧ w' = W) := fun W => by
      have := refsum_any (b.extract 0 m) W (by rw [ByteArray.size_extract]; unfold maxLen; omega)
      rwa [extract_list] at this
    have hxe : b.extract m b.size = ⟨(b.data.toList.drop m).toArray⟩ := by
      apply ByteArray.ext
      apply Array.ext'
      rw [Lib.extract_data]
      simp
      exact List.take_of_length_le (by simp)
    have hte : Hid ((⟨(b.data.toList.take m).toArray⟩ : ByteArray) = b.extract 0 m) := by
      show _ = _
      apply ByteArray.ext
      apply Array.ext'
      rw [extract_list]
    generalize more 0 (b.data.toList.take m) = S at *
    by_cases heq : b.data.toList.drop m = leB S 4
    · have HP : Hid (openB b.data.toList = (b.data.toList.take m, 0)) := by show _ = _; rw [HO.out, if_pos (hiff.1 heq)]
      rw [heq] at hxe
      clear hm HO hiff hdl heq hlen
      go_enter Try.func53, Try.ntmps53
      go_wp2
      go_region_with (first | (go_at_call 66; refine (H1.out _).mono ?_; rintro e wn ⟨rfl, hw⟩; obtain rfl := hw.symm) | (go_at_call 65; refine (four_any _ _ hS).mono ?_; rintro e wn ⟨rfl, hbn⟩))
      all_goals
        have hbw : Below w.heap.size w wn := (Below.refl _ _).drew.trans (hbn.mono (by simp))
        clear hxe
        go_wp2
        refine bodyPost_ret (v := .tuple #[.string (b.extract 0 m), .int .i64 0]) (by simp [results, Try.results53, go_sem]) rfl ⟨?_, hbw⟩
        rw [HP.out]
        simp only
        rw [hte.out]
    · have HP : Hid (openB b.data.toList = ([], 6)) := by show _ = _; rw [HO.out, if_neg (fun h => heq (hiff.2 h))]
      have hne : ((b.extract m b.size).toList == leB S 4) = false := by
        rw [hxe]
        simpa using heq
      clear hm HO hiff hdl heq hlen hxe
      go_enter Try.func53, Try.ntmps53
      go_wp2
      go_region_with (first | (go_at_call 66; refine (H1.out _).mono ?_; rintro e wn ⟨rfl, hw⟩; obtain rfl := hw.symm) | (go_at_call 65; refine (four_any _ _ hS).mono ?_; rintro e wn ⟨rfl, hbn⟩))
      all_goals
        have hbw : Below w.heap.size w wn := (Below.refl _ _).drew.trans (hbn.mono (by simp))
        go_wp2
        refine bodyPost_ret (v := .tuple #[.string ⟨#[]⟩, .int .i64 6]) (by simp [results, Try.results53, go_sem]) rfl ⟨?_, hbw⟩
        rw [HP.out]
end Go.Proofs.Ytjhjicokbdloiaa
