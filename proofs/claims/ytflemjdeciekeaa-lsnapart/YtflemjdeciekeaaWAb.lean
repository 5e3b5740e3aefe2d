/-
  The walk of LsnAbove.
-/
import Derived.Test.YtflemjdeciekeaaAr
namespace Go.Proofs.Ytflemjdeciekeaa
open Go.RowKit

theorem inst8 (i : Int) : ∃ k : Nat, wrap64 ((IntKind.u64.wrap i).tmod 8) = (k : Int) ∧ k < 8 := by
  have hx : 0 ≤ IntKind.u64.wrap i := by rw [IntKind.wrap_u64]; omega
  have h1 := Int.tmod_nonneg 8 hx
  have h2 := Int.tmod_lt_of_pos (IntKind.u64.wrap i) (show (0 : Int) < 8 by omega)
  generalize (IntKind.u64.wrap i).tmod 8 = y at *
  refine ⟨y.toNat, ?_, by omega⟩
  unfold wrap64
  omega

theorem seeN_ge (c l : Nat) : c ≤ seeN c l ∧ (okL l = true → l / 16 ≤ seeN c l) := by
  unfold seeN
  split
  · exact ⟨by omega, fun _ => by omega⟩
  · rename_i h
    exact ⟨by omega, fun h' => absurd h' h⟩

theorem okL_made (n k : Nat) (hk : k < 8) (h1 : 1 ≤ n) (h2 : n ≤ 72057594037927936) : okL (16 * n + k) = true := by
  simp [okL]
  omega

set_option maxRecDepth 20000 in
set_option maxHeartbeats 2000000 in
theorem above_walk (i : Int) (a : Option Addr) (c : Nat) (l : List Nat) (w : World) (hsl : SlV w a (u64s l)) (hlb : ∀ y ∈ l, y < 18446744073709551616) (hll : l.length ≤ maxLen) :
    Calls Try.prog 6 #[.int .i64 i, .slice a l.length c] w fun e w' => e = .returned (.bool true) ∧ Below w.heap.size w w' := by
  unfold maxLen at hll
  obtain ⟨s, hs, hs8⟩ := inst8 i
  go_enter Try.func6, Try.ntmps6
  go_wp2_with fail
  rw [hs]
  clear hs
  refine (new_yes (s : Int) w (by omega) (by omega)).mono ?_
  rintro e w1 ⟨rfl, hC1, hb1, hs1⟩
  go_wp2_with fail
  have HS : Hid (s < 8) := hs8
  clear hs8
  go_loopw [8, 9] (fun n j wr => ∃ (k m M : Nat), k ≤ l.length ∧ k ≤ 100 ∧ n = .int .u64 (M : Int) ∧ j = .int .i64 k ∧ m ≤ 72057594037927936 ∧ M < 16 * (m + 1) ∧ COk wr w.heap.size (s : Int) m ∧ Below w.heap.size w wr) (fun _ j _ => 100 - (intOf j).toNat)
  case atStart => exact ⟨0, 0, 0, by omega, by omega, rfl, rfl, by omega, by omega, hC1, hb1⟩
  case round =>
    obtain ⟨k, m, M, hk, hk100, rfl, rfl, hm, hM, hC, hB⟩ := hrel
    clear hC1 hb1 hs1
    by_cases hlt : k < l.length ∧ k < 100
    · obtain ⟨hlt1, hlt2⟩ := hlt
      obtain ⟨g, o, rfl, hcell, hg⟩ := (hsl.below hB).at k _ (u64s_at l k hlt1)
      have hx := hlb l[k] (List.getElem_mem hlt1)
      generalize l[k] = x at *
      have hHC : w.heap.size < wr.heap.size := hC.lt
      have hsee := see_any w.heap.size (s : Int) m x wr hC hx
      have hle := seeN_lt m x hm
      obtain ⟨hge, hge2⟩ := seeN_ge m x
      have hva := fun W => valid_any x W hx
      generalize seeN m x = q at *
      go_wp2_with fail
      refine hsee.mono ?_
      rintro e w2 ⟨rfl, hC2, hg2, hs2⟩
      have hB2 := hB.grown hg2 (by omega) (by simp)
      have hsz2 : w.heap.size < w2.heap.size := hC2.lt
      clear hsee hcell hB hC
      go_wp2_with fail
      refine (hva _).mono ?_
      rintro e w0 ⟨rfl, hw⟩
      obtain rfl := hw.symm
      obtain ⟨M', hM', hcs⟩ : ∃ M' : Nat, M' < 16 * (q + 1) ∧ ((okL x = true ∧ M < x ∧ M' = x) ∨ (okL x = true ∧ ¬ (M < x) ∧ M' = M) ∨ (okL x = false ∧ True ∧ M' = M)) := by
        cases hv : okL x with
        | false => exact ⟨M, by omega, .inr (.inr ⟨rfl, trivial, rfl⟩)⟩
        | true =>
          have := hge2 hv
          by_cases hc : M < x
          · exact ⟨x, by omega, .inl ⟨rfl, hc, rfl⟩⟩
          · exact ⟨M, by omega, .inr (.inl ⟨rfl, hc, rfl⟩)⟩
      clear hva hge2
      have htick : q < 72057594037927936 ∨ q = 72057594037927936 := by omega
      rcases hcs with ⟨hv, hc, rfl⟩ | ⟨hv, hc, rfl⟩ | ⟨hv, hc, rfl⟩
      all_goals
        rw [hv]
        clear hv
        rcases htick with hq | rfl
        · have htk := tick_yes w.heap.size (s : Int) q w2 hC2 (by omega) (by have := HS.out; omega) hq
          have hva2 := fun W => valid_any (16 * (q + 1) + s) W (by have := HS.out; omega)
          rw [okL_made (q + 1) s HS.out (by omega) (by omega)] at hva2
          have hin2 := fun W => inst_any (16 * (q + 1) + s) W (by have := HS.out; omega)
          rw [show (16 * (q + 1) + s) % 16 = s by have := HS.out; omega] at hin2
          rw [Int.toNat_natCast] at htk
          obtain ⟨y, Hy⟩ : ∃ y, Hid (y = 16 * (q + 1) + s) := ⟨_, rfl⟩
          rw [← Hy.out] at htk hva2 hin2
          have hyM : ¬ ((y : Int) ≤ (M' : Int)) := by have := Hy.out; omega
          have hyq : Hid (y < 16 * (q + 1 + 1)) := by have h1 := Hy.out; have h2 := HS.out; show _ < _; omega
          go_wp2_with fail
          refine htk.mono ?_
          rintro e w3 ⟨rfl, hC3, hg3, hs3⟩
          have hB3 := hB2.grown hg3 (by omega) (by simp)
          clear hc hM'
          go_wp2_with (first | (go_at_call 11; go_must (refine (hva2 _).mono ?_); rintro e w0 ⟨rfl, hw⟩; obtain rfl := hw.symm) | (go_at_call 14; go_must (refine (hin2 _).mono ?_); rintro e w0 ⟨rfl, hw⟩; obtain rfl := hw.symm))
          go_roundw
          case rel => exact ⟨k + 1, q + 1, y, by omega, by omega, rfl, by go_num, by omega, hyq.out, hC3, hB3⟩
          case measure => simp [intOf]; omega
        · have htk := tick_over w.heap.size (s : Int) w2 hC2 (by omega) (by have := HS.out; omega)
          go_wp2_with fail
          refine htk.mono ?_
          rintro e w3 ⟨rfl, hC3, hg3, hs3⟩
          have hB3 := hB2.grown hg3 (by omega) (by simp)
          have hnow := now_any w.heap.size (s : Int) 72057594037927936 w3 hC3
          clear hc
          go_wp2_with (go_at_call 20; go_must (refine hnow.mono ?_); rintro e w0 ⟨rfl, hw⟩; obtain rfl := hw.symm)
          go_roundw
          case rel => exact ⟨k + 1, 72057594037927936, M', by omega, by omega, rfl, by go_num, by omega, hM', hC3, hB3⟩
          case measure => simp [intOf]; omega
    · have hcs : ¬ (k < l.length) ∨ (k < l.length ∧ ¬ (k < 100)) := by omega
      clear hlt
      have hsz := hB.size
      rcases hcs with hc4 | ⟨hc4, hc5⟩
      all_goals
        go_wp2_with (go_at_call 15; go_must (refine (lives_any _).mono ?_); rintro e w' ⟨rfl, hb⟩)
        go_ret
        exact ⟨rfl, hB.trans (hb.mono hsz)⟩
end Go.Proofs.Ytflemjdeciekeaa
