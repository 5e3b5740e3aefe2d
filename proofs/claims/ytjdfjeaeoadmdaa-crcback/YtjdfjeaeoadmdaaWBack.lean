/-
  The walk of CrcBack.
-/
import Derived.Test.YtjdfjeaeoadmdaaAr
namespace Go.Proofs.Ytjdfjeaeoadmdaa
open Go.RowKit

theorem conv_own {w : World} {B : Nat} {a : Option Addr} {n c : Nat} {l : List UInt8} (h : w.ownsRow B 5 1 (.slice a n c) l.length (bcells l)) :
    (convert 22 9 (.slice a n c)).run Try.prog w = .ok (.string ⟨l.toArray⟩) w := by
  obtain ⟨hsl, rfl, _⟩ := slB_of_own h
  exact conv_slB hsl

theorem slB_own_at {w : World} {B g n c : Nat} {l : List UInt8} (h : w.ownsRow B 5 1 (.slice (some ⟨g, 0, none⟩) n c) n (bcells l)) (hn : n = l.length) : SlB w (some ⟨g, 0, none⟩) l := by
  subst hn
  exact (slB_of_own h).1

set_option maxHeartbeats 400000 in
theorem back_walk (a : Option Addr) (c : Nat) (l : List UInt8) (w : World) (hsl : SlB w a l) (hl : l.length ≤ 140737488355328) :
    Calls Try.prog 5 #[.slice a l.length c] w fun e w' => e = .returned (.bool true) ∧ Below w.heap.size w w' := by
  by_cases hlong : 20000 < l.length
  · go_enter Try.func5, Try.ntmps5
    go_wp2_with (go_at_call 9; go_must (refine (lives_any _).mono ?_); rintro e w' ⟨rfl, hb⟩)
    go_ret
    exact ⟨rfl, hb⟩
  · have hcv := conv_slB (c := c) hsl
    obtain ⟨cap1, W1, hcv1, hsl1, _, hW1, hb1⟩ := bytes_made w l
    have hseal := seal_any _ cap1 l W1 hsl1 (by omega) (fun h => by simp at h)
    clear hsl1 hsl
    go_enter Try.func5, Try.ntmps5
    go_wp2_with fail
    refine hseal.mono ?_
    rintro e w2 ⟨r2, rfl, hown2, hb2⟩
    obtain ⟨g, cx, rfl, hg1, hg2, hcx1, hcx2⟩ := own_some hown2 (by omega)
    have hsl2 := slB_own_at hown2 (sealB_length l).symm
    have hopen := open_any _ cx (sealB l) w2 hsl2 (by rw [sealB_length]; omega) (by rw [sealB_length]; omega)
    rw [openB_seal, sealB_length] at hopen
    have hrow2 := row8_of_own hown2 (sealB_length l).symm
    have hB2 : Below w.heap.size w w2 := hb1.trans (hb2.mono (by omega))
    have hs2 := hB2.size
    clear hseal hcv1 hown2 hsl2 hb2 hb1 hcv
    go_wp2_with fail
    refine hopen.mono ?_
    rintro e w3 ⟨r3, rfl, hown3, hb3⟩
    obtain ⟨ay, cy, rfl⟩ := ownsRow_shape hown3
    have hrow3 := hrow2.below hb3 hg2
    have hB3 : Below w.heap.size w w3 := hB2.trans (hb3.mono hs2)
    have hcv3 := conv_own hown3
    unfold maxLen at hcx2
    clear hopen hb3 hrow2
    go_wp2_with fail
    go_loopw [7] (fun i ws => ∃ k : Nat, k ≤ l.length + 4 ∧ i = .int .i64 k ∧ Row8 ws g (l.length + 4) ∧ ws.ownsRow w2.heap.size 5 1 (.slice ay l.length cy) l.length (bcells l) ∧ Below w.heap.size w ws) (fun i _ => l.length + 4 - (intOf i).toNat)
    case atStart => exact ⟨0, by omega, rfl, hrow3, hown3, hB3⟩
    case round =>
      obtain ⟨k, hk, rfl, hrow, hown, hB⟩ := hrel
      clear hrow3 hown3 hB3 hcv3
      by_cases hlt : k < l.length + 4
      · obtain ⟨z, hz⟩ := hrow.cell k hlt
        have hfz := hrow.free k hlt
        go_wp2
        go_roundw
        case rel => exact ⟨k + 1, by omega, by go_num, hrow.set k _, ownsRow_setCell_below hown (by simpa using hg2) _, hB.setCell (by simp; omega) _⟩
        case measure => simp [intOf]; omega
      · have hcv := conv_own hown
        have hsz := hB.size
        go_wp2_with (go_at_call 9; go_must (refine (lives_any _).mono ?_); rintro e w' ⟨rfl, hb⟩)
        go_ret
        exact ⟨rfl, hB.trans (hb.mono hsz)⟩
end Go.Proofs.Ytjdfjeaeoadmdaa
