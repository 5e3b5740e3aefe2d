/-
  What a nil pool answers; PoolNils.
-/
import Derived.Test.YtcloinonhpaojaaQl
namespace Go.Proofs.Ytcloinonhpaojaa
open Go.RowKit

theorem putx_nil (v : Value) (l : Int) (w : World) : Calls Try.prog 25 #[.pointer none, v, .int .u64 l] w fun e w' => e = .returned (.int .i64 1) ∧ w' = w := by
  go_enter Try.func25, Try.ntmps25
  go_wp2
  go_ret
  exact ⟨rfl, rfl⟩
theorem spare_nil (w : World) : Calls Try.prog 22 #[.pointer none] w fun e w' => e = .returned (.tuple #[.int .i64 0, .int .i64 1]) ∧ w' = w := by
  go_enter Try.func22, Try.ntmps22
  go_wp2
  exact bodyPost_ret (v := .tuple #[.int .i64 0, .int .i64 1]) (by simp [results, Try.results22, go_sem]) rfl ⟨rfl, rfl⟩
theorem room_nil (w : World) : Calls Try.prog 21 #[.pointer none] w fun e w' => e = .returned (.int .i64 0) ∧ w' = w := by
  go_enter Try.func21, Try.ntmps21
  go_wp2
  go_ret
  exact ⟨rfl, rfl⟩
theorem pages_nil (w : World) : Calls Try.prog 17 #[.pointer none] w fun e w' => e = .returned (.slice none 0 0) ∧ w' = w := by
  have HH := toHid has_nil
  go_enter Try.func17, Try.ntmps17
  go_wp2_with fail
  go_loopw [5, 3] (fun i l wr => ∃ k : Nat, k ≤ 16 ∧ i = .int .i64 (k : Int) ∧ l = .slice none 0 0 ∧ wr = w) (fun i _ _ => 16 - (intOf i).toNat)
  case atStart => exact ⟨0, by decide, rfl, rfl, rfl⟩
  case round =>
    obtain ⟨k, hk, rfl, rfl, rfl⟩ := hrel
    by_cases hlt : k < 16
    · have hd : (k : Int) < 16 := by omega
      go_wp2_with fail
      refine Calls.mono (HH.out _ _) ?_
      rintro e w1 ⟨rfl, hw⟩
      obtain rfl := hw.symm
      go_wp2_with fail
      go_roundw
      case rel => exact ⟨k + 1, by omega, by simp, rfl, trivial⟩
      case measure => first | omega | (simp only [intOf]; omega)
    · have hd : ¬ (k : Int) < 16 := by omega
      go_wp2
      go_ret
      exact ⟨rfl, rfl⟩
theorem dirty_nil (w : World) : Calls Try.prog 16 #[.pointer none] w fun e w' => e = .returned (.slice none 0 0) ∧ w' = w := by
  have HH := toHid (pages_nil w)
  go_enter Try.func16, Try.ntmps16
  go_wp2_with fail
  refine Calls.mono HH.out ?_
  rintro e w1 ⟨rfl, hw⟩
  obtain rfl := hw.symm
  go_wp2_with fail
  go_loopw [10, 3] (fun i l wr => i = .int .i64 0 ∧ l = .slice none 0 0 ∧ wr = w) (fun _ _ _ => 0)
  case atStart => exact ⟨rfl, rfl, rfl⟩
  case round =>
    obtain ⟨rfl, rfl, rfl⟩ := hrel
    go_wp2
    go_ret
    exact ⟨rfl, rfl⟩

set_option maxRecDepth 20000 in
set_option maxHeartbeats 2000000 in
theorem nils_walk (n id at_ : Int) (w : World) : Calls Try.prog 6 #[.int .i64 n, .int .i64 id, .int .u64 at_] w fun e w' => e = .returned (.bool true) ∧ Below w.heap.size w w' := by
  have HN := toHid (newp_none n w)
  have HT := toHid (take_nil id)
  have HS := toHid spare_nil
  have HL := toHid (load_nil id)
  have HP := toHid (putx_nil (.pointer none) at_)
  have HSo := toHid (soil_nil id at_)
  have HC := toHid (clean_nil id)
  have HG := toHid (get_nil id)
  have HH := toHid (has_nil id)
  have HR := toHid room_nil
  have HD := toHid dirty_nil
  have HPg := toHid pages_nil
  have HLv := toHid lives_any
  go_enter Try.func6, Try.ntmps6
  go_wp2_with fail
  refine Calls.mono HN.out ?_
  rintro e w1 ⟨rfl, hb⟩
  have HB := toHid hb
  clear hb HN
  go_wp2_with fail
  refine Calls.mono (HT.out _) ?_
  rintro e w2 ⟨rfl, hw⟩
  obtain rfl := hw.symm
  go_wp2_with fail
  refine Calls.mono (HS.out _) ?_
  rintro e w2 ⟨rfl, hw⟩
  obtain rfl := hw.symm
  go_wp2_with fail
  refine Calls.mono (HL.out _) ?_
  rintro e w2 ⟨rfl, hw⟩
  obtain rfl := hw.symm
  go_wp2_with fail
  refine Calls.mono (HP.out _) ?_
  rintro e w2 ⟨rfl, hw⟩
  obtain rfl := hw.symm
  go_wp2_with fail
  refine Calls.mono (HSo.out _) ?_
  rintro e w2 ⟨rfl, hw⟩
  obtain rfl := hw.symm
  go_wp2_with fail
  refine Calls.mono (HC.out _) ?_
  rintro e w2 ⟨rfl, hw⟩
  obtain rfl := hw.symm
  go_wp2_with fail
  refine Calls.mono (HG.out _) ?_
  rintro e w2 ⟨rfl, hw⟩
  obtain rfl := hw.symm
  go_wp2_with fail
  refine Calls.mono (HH.out _) ?_
  rintro e w2 ⟨rfl, hw⟩
  obtain rfl := hw.symm
  go_wp2_with fail
  refine Calls.mono (HR.out _) ?_
  rintro e w2 ⟨rfl, hw⟩
  obtain rfl := hw.symm
  go_wp2_with fail
  refine Calls.mono (HD.out _) ?_
  rintro e w2 ⟨rfl, hw⟩
  obtain rfl := hw.symm
  go_wp2_with fail
  refine Calls.mono (HPg.out _) ?_
  rintro e w2 ⟨rfl, hw⟩
  obtain rfl := hw.symm
  go_wp2_with fail
  refine Calls.mono (HLv.out _) ?_
  rintro e w3 ⟨rfl, hb3⟩
  have hB := below_on HB.out hb3
  go_wp2
  go_ret
  exact ⟨rfl, hB⟩
end Go.Proofs.Ytcloinonhpaojaa
