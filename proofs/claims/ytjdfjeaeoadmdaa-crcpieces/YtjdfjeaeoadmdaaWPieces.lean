/-
  The walk of CrcPieces.
-/
import Derived.Test.YtjdfjeaeoadmdaaAr
namespace Go.Proofs.Ytjdfjeaeoadmdaa
open Go.RowKit

/-- A slice of slices of bytes. -/
structure Pieces (w : World) (a : Option Addr) (n : Nat) (A : Nat → Option Addr) (C : Nat → Nat) (L : Nat → List UInt8) : Prop where
  nonil : a = none → n = 0
  each : ∀ x, a = some x → ∀ i, i < n → x.spot = none ∧ w.cell? ⟨x.block, x.off + i, none⟩ = some (.slice (A i) (L i).length (C i)) ∧ SlB w (A i) (L i) ∧ (A i = none → C i = 0) ∧ (L i).length ≤ 9223372036854775807

/-- The first k pieces, one behind the other. -/
def firstP (L : Nat → List UInt8) : Nat → List UInt8
  | 0 => []
  | k + 1 => firstP L k ++ L k

set_option maxHeartbeats 400000 in
theorem pieces_walk (a : Option Addr) (n c : Nat) (A : Nat → Option Addr) (C : Nat → Nat) (L : Nat → List UInt8) (w : World) (hP : Pieces w a n A C L) (hn : n ≤ maxLen) :
    Calls Try.prog 6 #[.slice a n c] w fun e w' => e = .returned (.bool true) ∧ Below w.heap.size w w' := by
  unfold maxLen at hn
  go_enter Try.func6, Try.ntmps6
  go_wp2_with fail
  have hown0 : (w.alloc (.cells #[] 5)).ownsRow w.heap.size 5 1 (.slice (some ⟨w.heap.size, 0, none⟩) 0 0) 0 (bcells []) := World.ownsRow_made w #[] 0 (Nat.le_refl _) (by decide) rfl
  have hsum0 := sum_any none 0 [] (w.alloc (.cells #[] 5)) SlB.empty (by decide)
  refine hsum0.mono ?_
  rintro e w1 ⟨rfl, hb1⟩
  have hown1 := ownsRow_below hown0 hb1 (ownsRow_lt hown0)
  have hB1 : Below w.heap.size w w1 := ((Below.refl _ _).alloc (Nat.le_refl _) _).trans (hb1.mono (by simp))
  clear hsum0 hown0 hb1
  go_wp2_with fail
  go_loopw [3, 4, 5] (fun v s i ws => ∃ k : Nat, k ≤ n ∧ k ≤ 40 ∧ i = .int .i64 k ∧ s = .int .u32 ((more 0 (firstP L k) : Nat) : Int) ∧ (firstP L k).length ≤ 1000 * k ∧ ws.ownsRow w.heap.size 5 1 v (firstP L k).length (bcells (firstP L k)) ∧ Below w.heap.size w ws) (fun _ _ i _ => 40 - (intOf i).toNat)
  case atStart => exact ⟨0, by omega, by omega, rfl, rfl, by simp [firstP], hown1, hB1⟩
  case round =>
    obtain ⟨k, hkn, hk40, rfl, rfl, hlen, hown, hB⟩ := hrel
    clear hown1 hB1
    have hsz := hB.size
    by_cases hlt : k < n ∧ k < 40
    · obtain ⟨h1, h2⟩ := hlt
      cases a with
      | none => have := hP.nonil rfl; omega
      | some x =>
        obtain ⟨g, o, sp⟩ := x
        obtain ⟨hsp, hcell0, hsl, hnil, hll⟩ := hP.each _ rfl k h1
        obtain rfl : sp = none := hsp
        have hg0 := World.block_lt_of_cell? _ _ hcell0
        have hcell : wr.cell? ⟨g, o + k, none⟩ = some (.slice (A k) (L k).length (C k)) := by rw [hB.cell hg0]; exact hcell0
        have hg := World.block_lt_of_cell? _ _ hcell
        have hslr := hsl.below hB
        have HF : Hid (firstP L (k + 1) = firstP L k ++ L k) := rfl
        by_cases hlong : 1000 < (L k).length
        · go_wp2_with (go_at_call 9; go_must (refine (lives_any _).mono ?_); rintro e w' ⟨rfl, hb⟩)
          go_ret
          exact ⟨rfl, hB.trans (hb.mono hsz)⟩
        · have hmm := more_more 0 (firstP L k) (L k)
          have hS := more_lt 0 (firstP L k)
          go_wp2_with (at_builtin; go_must (refine wpList_append_slB rfl (.tmp 25) (.tmp 29) rfl w.heap.size _ _ _ rfl hown _ _ _ (L k) rfl rfl hslr hnil (by omega) hsz ?_); intro v5 w5 hown5 hb5; have hcell5 : w5.cell? ⟨g, o + k, none⟩ = some (.slice (A k) (L k).length (C k)) := (by rw [(hB.trans hb5).cell hg0]; exact hcell0))
          have hB5 := hB.trans hb5
          have hsl5 := hsl.below hB5
          have hsz5 := hB5.size
          have hmo := more_any (more 0 (firstP L k)) (A k) (C k) (L k) w5 hsl5 hS (by unfold maxLen; omega)
          rw [hmm] at hmo
          clear hmm hcell hslr hown hb5
          refine hmo.mono ?_
          rintro e w6 ⟨rfl, hb6⟩
          have hown6 := ownsRow_below hown5 hb6 (ownsRow_lt hown5)
          have hB6 := hB5.trans (hb6.mono hsz5)
          have hle : (firstP L (k + 1)).length = (firstP L k).length + (L k).length := by rw [HF.out, List.length_append]
          rw [← HF.out, ← hle] at hown6
          rw [← HF.out]
          have HLE : Hid ((firstP L (k + 1)).length ≤ 1000 * (k + 1)) := by show _ ≤ _; omega
          clear hle hmo hown5 hb6 hcell5 hsl5
          go_wp2
          go_roundw
          case rel => exact ⟨k + 1, by omega, by omega, by go_num, rfl, HLE.out, hown6, hB6⟩
          case measure => simp [intOf]; omega
    · have hcs : ¬ (k < n) ∨ (k < n ∧ ¬ (k < 40)) := by omega
      obtain ⟨ay, cy, rfl⟩ := ownsRow_shape hown
      have hslk := (slB_of_own hown).1
      have hsum := sum_any ay cy (firstP L k) wr hslk (by unfold maxLen; omega)
      generalize more 0 (firstP L k) = S at *
      clear hlt
      rcases hcs with h1 | ⟨h1, h2⟩
      all_goals
        go_wp2_with fail
        refine hsum.mono ?_
        rintro e w2 ⟨rfl, hb2⟩
        go_wp2_with (go_at_call 9; go_must (refine (lives_any _).mono ?_); rintro e w' ⟨rfl, hb⟩)
        go_ret
        exact ⟨rfl, hB.trans ((hb2.mono hsz).trans (hb.mono (by have := hb2.size; omega)))⟩
end Go.Proofs.Ytjdfjeaeoadmdaa
