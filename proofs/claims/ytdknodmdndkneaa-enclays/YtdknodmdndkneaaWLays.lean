/-
  The walk of EncLays.
-/
import Derived.Test.YtdknodmdndkneaaTs
import Derived.Test.YtdknodmdndkneaaLd
namespace Go.Proofs.Ytdknodmdndkneaa
open Go.RowKit

set_option maxHeartbeats 1000000 in
theorem lays_walk (a : Option Addr) (n c : Nat) (K N : Nat → Int) (S : Nat → ByteArray) (w : World) (hT : Things w a n K N S) (hn : n ≤ maxLen) :
    Calls Try.prog 3 #[.slice a n c] w fun e w' => e = .returned (.bool true) ∧ Below w.heap.size w w' := by
  unfold maxLen at hn
  go_enter Try.func3, Try.ntmps3
  go_wp2_with fail
  refine (new_any _).mono ?_
  rintro e w' ⟨rfl, rfl⟩
  go_wp2_with fail
  go_loopw [5, 6] (fun s i wr => ∃ k : Nat, k ≤ n ∧ k ≤ 60 ∧ i = .int .i64 k ∧ s = .string ⟨(encT K N S k).toArray⟩ ∧ (∃ v, WOk wr w.heap.size w.heap.size v (encT K N S k)) ∧ Below w.heap.size w wr) (fun _ i _ => 60 - (intOf i).toNat)
  case atStart => exact ⟨0, by omega, by omega, rfl, rfl, ⟨_, WOk.new w w.heap.size (Nat.le_refl _)⟩, (Below.refl _ _).alloc (Nat.le_refl _) _⟩
  case round =>
    obtain ⟨k, hk, hk60, rfl, rfl, ⟨v, hW⟩, hbel⟩ := hrel
    have hlen := encT_le K N S k
    by_cases hlt : k < n ∧ k < 60
    · obtain ⟨hlt1, hlt2⟩ := hlt
      obtain ⟨b, o, rfl, hb, hc0, hc1, hc2⟩ := hT.at hbel k hlt1
      obtain ⟨hN0, hN1, hS⟩ := hT.ok k hlt1
      go_wp2_with fail
      refine (lay_any _ _ _ _ (K k) (N k) (S k) _ hW hN0 hS (by omega)).mono ?_
      rintro e w1 ⟨rfl, ⟨v1, hW1⟩, hb1⟩
      clear hc0 hc1 hc2 hb hW
      have hbel1 := hbel.trans hb1
      obtain ⟨hb, hc0, hc1, hc2⟩ := hT.here hbel1 k hlt1
      go_wp2_with fail
      refine (lay_nil (K k) (N k) (S k) _).mono ?_
      rintro e w2 ⟨rfl, hb2⟩
      clear hc0 hc1 hc2 hb
      have hbel2 := hbel1.trans (hb2.mono hbel1.size)
      have hW2 := hW1.below hb2 (Nat.le_refl _)
      obtain ⟨hb, hc0, hc1, hc2⟩ := hT.here hbel2 k hlt1
      go_wp2_with fail
      refine (laid_any (K k) (N k) (S k) _ hN0 hN1 hS).mono ?_
      rintro e w3 ⟨rfl, hb3⟩
      have hbel3 := hbel2.trans (hb3.mono hbel2.size)
      have hW3 := hW2.below hb3 (Nat.le_refl _)
      have htl := thingB_le (K k) (N k) (S k)
      clear hc0 hc1 hc2 hb hW1 hW2 hb1 hb2 hb3 hbel hbel1 hbel2
      have hfin : Hid ((⟨(encT K N S k).toArray⟩ : ByteArray) ++ ⟨(thingB (K k) (N k) (S k)).toArray⟩ = ⟨(encT K N S (k + 1)).toArray⟩) := by
        unfold Hid
        rw [bytes_append]
        rfl
      go_wp2
      go_roundw
      case rel => exact ⟨k + 1, by omega, by omega, by go_num, by rw [hfin.out], ⟨_, hW3⟩, hbel3⟩
      case measure => simp [intOf]; omega
    · have hcs : ¬ (k < n) ∨ (k < n ∧ ¬ (k < 60)) := by omega
      clear hlt
      rcases hcs with hc4 | ⟨hc4, hc5⟩
      all_goals
        go_wp2_with fail
        refine (wdone_any _ _ _ _ _ hW (by omega)).mono ?_
        rintro e w1 ⟨r1, rfl, ho1, hb1⟩
        obtain ⟨ax, cx, rfl⟩ := ownsRow_shape ho1
        have hcv := conv_own ho1
        have hbel1 := hbel.trans (hb1.mono hbel.size)
        go_wp2_with (first | (go_at_call 11; go_must (refine (wdone_nil _).mono ?_); rintro e w2 ⟨rfl, rfl⟩) | (go_at_call 12; go_must (refine (lives_any _).mono ?_); rintro e w2 ⟨rfl, hb2⟩))
        go_ret
        exact ⟨rfl, hbel1.trans (hb2.mono hbel1.size)⟩

end Go.Proofs.Ytdknodmdndkneaa
