/-
  The walk of EncBack.
-/
import Derived.Test.YtdknodmdndkneaaTf
namespace Go.Proofs.Ytdknodmdndkneaa
open Go.RowKit

set_option maxHeartbeats 1000000 in
theorem back_walk (a : Option Addr) (n c : Nat) (K N : Nat → Int) (S : Nat → ByteArray) (w : World) (hT : Things w a n K N S) (hn : n ≤ maxLen) :
    Calls Try.prog 5 #[.slice a n c] w fun e w' => e = .returned (.bool true) ∧ Below w.heap.size w w' := by
  unfold maxLen at hn
  go_enter Try.func5, Try.ntmps5
  go_wp2_with fail
  refine (new_any _).mono ?_
  rintro e w' ⟨rfl, rfl⟩
  go_wp2_with fail
  go_loopw [4] (fun i wr => ∃ k : Nat, k ≤ n ∧ k ≤ 60 ∧ i = .int .i64 k ∧ (∀ j, j < k → (S j).size ≤ 65535) ∧ (∃ v, WOk wr w.heap.size w.heap.size v (encT K N S k)) ∧ Below w.heap.size w wr) (fun i _ => 60 - (intOf i).toNat)
  case atStart => exact ⟨0, by omega, by omega, rfl, fun j hj => by omega, ⟨_, WOk.new w w.heap.size (Nat.le_refl _)⟩, (Below.refl _ _).alloc (Nat.le_refl _) _⟩
  case round =>
    obtain ⟨k, hk, hk60, rfl, hsh, ⟨v, hW⟩, hbel⟩ := hrel
    have hlen := encT_le K N S k
    have Hsh : Hid (∀ j, j < k → (S j).size ≤ 65535) := hsh
    clear hsh
    by_cases hlt : k < n ∧ k < 60
    · obtain ⟨hlt1, hlt2⟩ := hlt
      obtain ⟨b, o, rfl, hb, hc0, hc1, hc2⟩ := hT.at hbel k hlt1
      obtain ⟨hN0, hN1, hS⟩ := hT.ok k hlt1
      by_cases hlong : 65535 < (S k).size
      · unfold maxLen at hS
        go_wp2_with (go_at_call 12; go_must (refine (lives_any _).mono ?_); rintro e w2 ⟨rfl, hb2⟩)
        go_ret
        exact ⟨rfl, hbel.trans (hb2.mono hbel.size)⟩
      · have hlay := lay_any _ _ _ _ (K k) (N k) (S k) _ hW hN0 hS (by omega)
        unfold maxLen at hS
        go_wp2_with (go_at_call 9; go_must (refine hlay.mono ?_); rintro e w1 ⟨rfl, hW1, hb1⟩)
        go_roundw
        case rel => exact ⟨k + 1, by omega, by omega, by go_num, fun j hj => by
          by_cases e : j = k
          · subst e; omega
          · exact Hsh.out j (by omega), hW1, hbel.trans hb1⟩
        case measure => simp [intOf]; omega
    · obtain ⟨hbel0, hsz0⟩ : Below w.heap.size w wr ∧ w.heap.size ≤ wr.heap.size := ⟨hbel, hbel.size⟩
      have hcs : ¬ (k < n) ∨ (k < n ∧ ¬ (k < 60)) := by omega
      clear hlt
      rcases hcs with hc4 | ⟨hc4, hc5⟩
      all_goals
        go_wp2_with fail
        refine (wdone_any _ _ _ _ _ hW (by omega)).mono ?_
        rintro e w1 ⟨r1, rfl, ho1, hb1⟩
        obtain ⟨ax, cx, rfl⟩ := ownsRow_shape ho1
        obtain ⟨hsl1, _, _⟩ := slB_of_own ho1
        have hnil : ax = none → cx = 0 := by
          rintro rfl
          rcases ho1.2 with ⟨h, _⟩ | ⟨_, _, _, h, _⟩ <;> simp at h
          exact h.2
        have hbel1 := hbel0.trans (hb1.mono hsz0)
        have hsz1 := hbel1.size
        have hrd := read_any ax cx (encT K N S k) w1 hsl1 (by omega) hnil
        clear hW ho1 hb1 hsl1 hnil hbel hbel0 hsz0
        go_wp2_with fail
        refine hrd.mono ?_
        rintro e w2 ⟨p, ar, cr, rfl, hr2, hb2⟩
        have hbel2 := hbel1.trans (hb2.mono hsz1)
        have he := encT_encR K N S k 0
        rw [show encT K N S 0 = [] from rfl, List.nil_append, Nat.zero_add] at he
        rw [← he] at hr2
        clear he hrd hb2
        go_wp2_with fail
        go_loopw [6] (fun i ws => ∃ j : Nat, j ≤ k ∧ i = .int .i64 j ∧ (∃ a c, ROk ws w1.heap.size p a c (encR K N S j (k - j)) 0) ∧ Below w.heap.size w ws) (fun i _ => 60 - (intOf i).toNat)
        case atStart => exact ⟨0, by omega, rfl, ⟨_, _, hr2⟩, hbel2⟩
        case round =>
          obtain ⟨j, hj, rfl, ⟨a3, c3, hr3⟩, hbel3⟩ := hrel
          clear hr2 hbel2
          have hsz3 := hbel3.size
          by_cases hjk : j < k
          · obtain ⟨b, o, rfl, hb, hc0, hc1, hc2⟩ := hT.at hbel3 j (by omega)
            obtain ⟨hN0, hN1, hS⟩ := hT.ok j (by omega)
            rw [show k - j = (k - (j + 1)) + 1 by omega, encR] at hr3
            have htk := taken_full _ _ _ _ _ (K j) (N j) (S j) _ hr3 hN0 hN1 (Hsh.out j hjk)
            clear hr3
            go_wp2_with (go_at_call 27; go_must (refine htk.mono ?_); rintro e w4 ⟨rfl, hr4, hb4⟩)
            go_roundw
            case rel => exact ⟨j + 1, by omega, by go_num, hr4, hbel3.trans (hb4.mono hsz1)⟩
            case measure => simp [intOf]; omega
          · obtain rfl : j = k := by omega
            rw [Nat.sub_self] at hr3
            have hen := rend_any _ _ _ _ _ _ _ hr3
            have hlf := rleft_any _ _ _ _ _ _ _ hr3
            rw [show endOf (encR K N S j 0) 0 = 0 from rfl] at hen
            rw [show ((encR K N S j 0).length : Int) = 0 from rfl] at hlf
            clear hr3
            go_wp2_with (first | (go_at_call 25; go_must (refine hen.mono ?_); rintro e w4 ⟨rfl, rfl⟩) | (go_at_call 22; go_must (refine hlf.mono ?_); rintro e w4 ⟨rfl, rfl⟩) | (go_at_call 12; go_must (refine (lives_any _).mono ?_); rintro e w5 ⟨rfl, hb5⟩))
            go_ret
            exact ⟨rfl, hbel3.trans (hb5.mono hsz3)⟩

end Go.Proofs.Ytdknodmdndkneaa
