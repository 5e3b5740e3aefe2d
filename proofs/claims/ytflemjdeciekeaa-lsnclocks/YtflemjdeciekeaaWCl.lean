/-
  The walk of LsnClocks.
-/
import Derived.Test.YtflemjdeciekeaaAr
namespace Go.Proofs.Ytflemjdeciekeaa
open Go.RowKit

set_option maxRecDepth 20000 in
set_option maxHeartbeats 2000000 in
theorem clocks_walk (i : Int) (a : Option Addr) (c : Nat) (l : List Nat) (w : World) (hsl : SlV w a (u64s l)) (hlb : ∀ y ∈ l, y < 18446744073709551616) (hll : l.length ≤ maxLen) :
    Calls Try.prog 5 #[.int .i64 i, .slice a l.length c] w fun e w' => e = .returned (.bool true) ∧ Below w.heap.size w w' := by
  unfold maxLen at hll
  go_enter Try.func5, Try.ntmps5
  go_wp2_with fail
  refine (see_nil 50 w).mono ?_
  rintro e w0 ⟨rfl, hw⟩
  obtain rfl := hw.symm
  go_wp2_with fail
  refine (tick_nil w).mono ?_
  rintro e w0 ⟨rfl, hw⟩
  obtain rfl := hw.symm
  go_wp2_with fail
  refine (now_nil w).mono ?_
  rintro e w0 ⟨rfl, hw⟩
  obtain rfl := hw.symm
  go_wp2_with fail
  by_cases hi : i < 0 ∨ 7 < i
  · refine (new_no i w hi).mono ?_
    rintro e w0 ⟨rfl, hw⟩
    obtain rfl := hw.symm
    have h' : i < 0 ∨ (¬ (i < 0) ∧ 7 < i) := by omega
    clear hi
    rcases h' with h | ⟨h, h3⟩
    all_goals
      go_wp2_with (go_at_call 15; go_must (refine (lives_any _).mono ?_); rintro e w' ⟨rfl, hb⟩)
      go_ret
      exact ⟨rfl, hb⟩
  · have hi0 : 0 ≤ i := by omega
    have hi7 : i < 8 := by omega
    refine (new_yes i w hi0 hi7).mono ?_
    rintro e w1 ⟨rfl, hC1, hb1, hs1⟩
    have hi1 : ¬ (i < 0) := by omega
    have hi2 : ¬ (7 < i) := by omega
    clear hi
    go_wp2_with fail
    have Hi : Hid (0 ≤ i ∧ i < 8) := ⟨hi0, hi7⟩
    clear hi1 hi2 hi0 hi7
    go_loopw [10, 11] (fun n j wr => ∃ (k m : Nat), k ≤ l.length ∧ k ≤ 100 ∧ n = .int .u64 (m : Int) ∧ j = .int .i64 k ∧ m ≤ 72057594037927936 ∧ COk wr w.heap.size i m ∧ Below w.heap.size w wr) (fun _ j _ => 100 - (intOf j).toNat)
    case atStart => exact ⟨0, 0, by omega, by omega, rfl, rfl, by omega, hC1, hb1⟩
    case round =>
      obtain ⟨k, m, hk, hk100, rfl, rfl, hm, hC, hB⟩ := hrel
      clear hC1 hb1 hs1
      by_cases hlt : k < l.length ∧ k < 100
      · obtain ⟨hlt1, hlt2⟩ := hlt
        obtain ⟨g, o, rfl, hcell, hg⟩ := (hsl.below hB).at k _ (u64s_at l k hlt1)
        have hx := hlb l[k] (List.getElem_mem hlt1)
        generalize l[k] = x at *
        have hHC : w.heap.size < wr.heap.size := hC.lt
        by_cases h3 : x % 3 = 0
        · have h3' : ((x : Int) % 3 == 0) = true := by simp; omega
          by_cases hmm : m < 72057594037927936
          · have hmk : ∀ W, Calls Try.prog 10 #[.int .u64 ((m : Int) + 1), .int .i64 i] W fun e w' => e = .returned (.tuple #[.int .u64 ((16 * (m + 1) + i.toNat : Nat) : Int), .int .i64 0]) ∧ w' = W := by
              intro W
              have h := refmake_any (m + 1) i W
              obtain ⟨e1, e2⟩ := mk_good (n := m + 1) (i := i) (by have := Hi.out; omega) (by omega)
              rw [e1, e2] at h
              exact h
            have htk := tick_yes w.heap.size i m wr hC Hi.out.1 Hi.out.2 hmm
            generalize (16 * (m + 1) + i.toNat : Nat) = q at *
            go_wp2_with fail
            refine htk.mono ?_
            rintro e w2 ⟨rfl, hC2, hg2, hs2⟩
            go_wp2_with fail
            refine (hmk _).mono ?_
            rintro e w0 ⟨rfl, hw⟩
            obtain rfl := hw.symm
            have hnow := now_any w.heap.size i (m + 1) w2 hC2
            have hB2 := hB.grown hg2 (by omega) (by simp)
            clear hmk htk hcell h3 h3' hx
            go_wp2_with fail
            refine hnow.mono ?_
            rintro e w0 ⟨rfl, hw⟩
            obtain rfl := hw.symm
            go_wp2
            go_roundw
            case rel => exact ⟨k + 1, m + 1, by omega, by omega, by go_num, by go_num, by omega, hC2, hB2⟩
            case measure => simp [intOf]; omega
          · obtain rfl : m = 72057594037927936 := by omega
            have hmk : ∀ W, Calls Try.prog 10 #[.int .u64 72057594037927937, .int .i64 i] W fun e w' => e = .returned (.tuple #[.int .u64 0, .int .i64 11]) ∧ w' = W := by
              intro W
              have h := refmake_any 72057594037927937 i W
              obtain ⟨e1, e2⟩ := mk_badCount (n := 72057594037927937) (i := i) (by have := Hi.out; omega) (by omega)
              rw [e1, e2] at h
              exact h
            have htk := tick_over w.heap.size i wr hC Hi.out.1 Hi.out.2
            clear hmm hm
            go_wp2_with fail
            refine htk.mono ?_
            rintro e w2 ⟨rfl, hC2, hg2, hs2⟩
            go_wp2_with fail
            refine (hmk _).mono ?_
            rintro e w0 ⟨rfl, hw⟩
            obtain rfl := hw.symm
            have hnow := now_any w.heap.size i 72057594037927936 w2 hC2
            have hB2 := hB.grown hg2 (by omega) (by simp)
            clear hmk htk hcell h3 h3' hx
            go_wp2_with fail
            refine hnow.mono ?_
            rintro e w0 ⟨rfl, hw⟩
            obtain rfl := hw.symm
            go_wp2
            go_roundw
            case rel => exact ⟨k + 1, 72057594037927936, by omega, by omega, rfl, by go_num, by omega, hC2, hB2⟩
            case measure => simp [intOf]; omega
        · have h3' : ((x : Int) % 3 == 0) = false := by simp; omega
          have hsee := see_any w.heap.size i m x wr hC hx
          have hrs := fun W => refsee_any m x W hx
          have hle := seeN_lt m x hm
          have hcell2 : ∀ W, wr.grownBy W (some w.heap.size) → W.cell? ⟨g, o + k, none⟩ = some (.int .u64 (x : Int)) := by
            intro W hW
            refine hW.cell hcell ?_
            intro e
            obtain ⟨g', o', e1, _, e3⟩ := hsl.at k _ (u64s_at l k hlt1)
            simp at e e1
            omega
          generalize seeN m x = q at *
          clear h3
          go_wp2_with fail
          refine hsee.mono ?_
          rintro e w2 ⟨rfl, hC2, hg2, hs2⟩
          have hc2 := hcell2 w2 hg2
          go_wp2_with fail
          refine (hrs _).mono ?_
          rintro e w0 ⟨rfl, hw⟩
          obtain rfl := hw.symm
          have hnow := now_any w.heap.size i q w2 hC2
          have hB2 := hB.grown hg2 (by omega) (by simp)
          go_wp2_with fail
          refine hnow.mono ?_
          rintro e w0 ⟨rfl, hw⟩
          obtain rfl := hw.symm
          go_wp2
          go_roundw
          case rel => exact ⟨k + 1, q, by omega, by omega, rfl, by go_num, hle, hC2, hB2⟩
          case measure => simp [intOf]; omega
      · have hcs : ¬ (k < l.length) ∨ (k < l.length ∧ ¬ (k < 100)) := by omega
        clear hlt
        have hsz := hB.size
        rcases hcs with hc4 | ⟨hc4, hc5⟩
        all_goals
          go_wp2_with (go_at_call 15; go_must (refine (lives_any _).mono ?_); rintro e w' ⟨rfl, hb⟩)
          go_ret
          exact ⟨rfl, hB.trans (hb.mono hsz)⟩
end Go.Proofs.Ytflemjdeciekeaa
