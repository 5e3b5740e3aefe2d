/-
  The walk of StableStays.
-/
import Derived.Test.YtbigclhfgcaccaaSk
namespace Go.Proofs.Ytbigclhfgcaccaa
open Go.RowKit

set_option maxRecDepth 100000 in
set_option maxHeartbeats 3000000 in
theorem walkStays (at' : Int) (f : UInt8) (a : Option Addr) (c : Nat) (l : List Op) (w : World) (h : SlO w a l) :
    Calls Try.prog 7 #[.int .i64 at', .int .u8 (f.toNat : Int), .slice a l.length c] w fun e w' => e = .returned (.bool true) ∧ Below w.heap.size w w' := by
  have HO : Hid _ := h
  clear h
  go_enter Try.func7, Try.ntmps7
  refine wp_seq_k fun K hK => ?_
  have HK : Hid _ := hK
  clear hK
  go_wp2_with fail
  refine HK.out _ _ ?_
  clear HK K
  refine wp_seq_k fun K hK => ?_
  have HK : Hid _ := hK
  clear hK
  go_wp2_with fail
  refine (new_dev 4096 w (by omega) (by omega)).mono ?_
  rintro e W1 ⟨rfl, hD, hb1, z1⟩
  have HD : Hid _ := hD
  have HB : Hid _ := hb1
  have HZ : Hid _ := z1
  clear hD hb1 z1
  go_wp2_with fail
  refine HK.out _ _ ?_
  clear HK K
  refine wp_seq_k fun K hK => ?_
  have HK : Hid _ := hK
  clear hK
  go_wp2_with fail
  refine HK.out _ _ ?_
  clear HK K
  refine wp_seq_k fun K hK => ?_
  have HK : Hid _ := hK
  clear hK
  by_cases h0 : at' < 0
  · go_wp2_with fail
    exact HK.out _ _ (wp7 rfl rfl (rest7_wp 0 (by omega) f a c l w W1 HO.out HB.out HZ.out HD.out _ rfl rfl rfl rfl))
  · by_cases h1 : 63 < at'
    · go_wp2_with fail
      exact HK.out _ _ (wp7 rfl rfl (rest7_wp 0 (by omega) f a c l w W1 HO.out HB.out HZ.out HD.out _ rfl rfl rfl rfl))
    · obtain ⟨A, rfl⟩ := Int.eq_ofNat_of_zero_le (show 0 ≤ at' by omega)
      go_wp2_with fail
      exact HK.out _ _ (wp7 rfl rfl (rest7_wp A (by omega) f a c l w W1 HO.out HB.out HZ.out HD.out _ rfl rfl rfl rfl))

end Go.Proofs.Ytbigclhfgcaccaa
