/-
  The walk of NetNews.
-/
import Derived.Test.YtfdpmffoajjchaaRo
import Derived.Test.YtfdpmffoajjchaaSa
import Derived.Test.YtfdpmffoajjchaaCu
import Derived.Test.YtfdpmffoajjchaaFu
import Derived.Test.YtfdpmffoajjchaaPk
namespace Go.Proofs.Ytfdpmffoajjchaa
open Go.RowKit Go.Conc

theorem zeroV : msV (km 0) zeroP = .agg zeroC := rfl
theorem same_zero (w : World) : Calls Try.prog 11 #[.agg zeroC, .agg zeroC] w fun e w' => e = .returned (.bool true) ∧ Below w.heap.size w w' := same11 (km 0) zeroP zeroP w (mi_km _ _) (mi_km _ _) (lim_km _)

set_option maxRecDepth 100000 in
set_option maxHeartbeats 2000000 in
theorem news_low (w : World) (f t : Int) (n : Int) (hn : n < 1 ∨ 8 < n) (h1 : n < 1) : Calls Try.prog 3 #[.int .i64 n, .int .i64 f, .int .i64 t] w fun e w' => e = .returned (.bool true) ∧ Below w.heap.size w w' := by
  have HL := toHid lives17
  go_enter Try.func3, Try.ntmps3
  go_wp2_with fail
  go_at_call 9
  refine Calls.mono (new_no w n hn) ?_
  rintro e w1 ⟨rfl, hw1⟩
  obtain rfl := hw1.symm
  have HB1 : Hid (Below w.heap.size w w) := Below.refl _ _
  go_wp2_with fail
  go_at_call 10
  refine Calls.mono (take_nil _ 0 1) ?_
  rintro e w2 ⟨rfl, hB2⟩
  have HB2 := toHid (HB1.out.trans (hB2.mono HB1.out.size))
  have HT2 := toHid hB2
  clear hB2
  go_wp2_with fail
  have HB3 := toHid (HB2.out.alloc HB2.out.size (.cells zeroC 31))
  have HT3 := toHid (HT2.out.alloc HT2.out.size (.cells zeroC 31))
  go_at_call 11
  refine Calls.mono (same_zero _) ?_
  rintro e w4 ⟨rfl, hB4⟩
  have HB4 := toHid (HB3.out.trans (hB4.mono HB3.out.size))
  have HT4 := toHid (HT3.out.trans (hB4.mono HT3.out.size))
  clear hB4
  go_wp2_with fail
  go_at_call 12
  refine Calls.mono (send_nil _ 0 1 (km 0) zeroP) ?_
  rintro e w5 ⟨rfl, hB5⟩
  have HB5 := toHid (HB4.out.trans (hB5.mono HB4.out.size))
  have HT5 := toHid (HT4.out.trans (hB5.mono HT4.out.size))
  clear hB5
  go_wp2_with fail
  go_at_call 13
  refine Calls.mono (len_nil _ 0 1) ?_
  rintro e w6 ⟨rfl, hw6⟩
  obtain rfl := hw6.symm
  go_wp2_with fail
  go_at_call 14
  refine Calls.mono (sum_nil _) ?_
  rintro e w6 ⟨rfl, hw6⟩
  obtain rfl := hw6.symm
  go_wp2_with fail
  go_at_call 15
  refine Calls.mono (cut_nil _ 1) ?_
  rintro e w6 ⟨rfl, hw6⟩
  obtain rfl := hw6.symm
  go_wp2_with fail
  go_at_call 16
  refine Calls.mono (peek_no _ _ 0 1 (between_nil _ 0 1)) ?_
  rintro e w6 ⟨rfl, hw6⟩
  obtain rfl := hw6.symm
  go_wp2_with fail
  go_at_call 17
  refine Calls.mono (HL.out _) ?_
  rintro e w9 ⟨rfl, hB9⟩
  have HB9 := toHid (HB5.out.trans (hB9.mono HB5.out.size))
  clear hB9
  go_wp2_with fail
  go_ret
  exact ⟨rfl, HB9.out⟩

set_option maxRecDepth 100000 in
set_option maxHeartbeats 2000000 in
theorem news_high (w : World) (f t : Int) (n : Int) (hn : n < 1 ∨ 8 < n) (h1 : ¬ n < 1) (h2 : 8 < n) : Calls Try.prog 3 #[.int .i64 n, .int .i64 f, .int .i64 t] w fun e w' => e = .returned (.bool true) ∧ Below w.heap.size w w' := by
  have HL := toHid lives17
  go_enter Try.func3, Try.ntmps3
  go_wp2_with fail
  go_at_call 9
  refine Calls.mono (new_no w n hn) ?_
  rintro e w1 ⟨rfl, hw1⟩
  obtain rfl := hw1.symm
  have HB1 : Hid (Below w.heap.size w w) := Below.refl _ _
  go_wp2_with fail
  go_at_call 10
  refine Calls.mono (take_nil _ 0 1) ?_
  rintro e w2 ⟨rfl, hB2⟩
  have HB2 := toHid (HB1.out.trans (hB2.mono HB1.out.size))
  have HT2 := toHid hB2
  clear hB2
  go_wp2_with fail
  have HB3 := toHid (HB2.out.alloc HB2.out.size (.cells zeroC 31))
  have HT3 := toHid (HT2.out.alloc HT2.out.size (.cells zeroC 31))
  go_at_call 11
  refine Calls.mono (same_zero _) ?_
  rintro e w4 ⟨rfl, hB4⟩
  have HB4 := toHid (HB3.out.trans (hB4.mono HB3.out.size))
  have HT4 := toHid (HT3.out.trans (hB4.mono HT3.out.size))
  clear hB4
  go_wp2_with fail
  go_at_call 12
  refine Calls.mono (send_nil _ 0 1 (km 0) zeroP) ?_
  rintro e w5 ⟨rfl, hB5⟩
  have HB5 := toHid (HB4.out.trans (hB5.mono HB4.out.size))
  have HT5 := toHid (HT4.out.trans (hB5.mono HT4.out.size))
  clear hB5
  go_wp2_with fail
  go_at_call 13
  refine Calls.mono (len_nil _ 0 1) ?_
  rintro e w6 ⟨rfl, hw6⟩
  obtain rfl := hw6.symm
  go_wp2_with fail
  go_at_call 14
  refine Calls.mono (sum_nil _) ?_
  rintro e w6 ⟨rfl, hw6⟩
  obtain rfl := hw6.symm
  go_wp2_with fail
  go_at_call 15
  refine Calls.mono (cut_nil _ 1) ?_
  rintro e w6 ⟨rfl, hw6⟩
  obtain rfl := hw6.symm
  go_wp2_with fail
  go_at_call 16
  refine Calls.mono (peek_no _ _ 0 1 (between_nil _ 0 1)) ?_
  rintro e w6 ⟨rfl, hw6⟩
  obtain rfl := hw6.symm
  go_wp2_with fail
  go_at_call 17
  refine Calls.mono (HL.out _) ?_
  rintro e w9 ⟨rfl, hB9⟩
  have HB9 := toHid (HB5.out.trans (hB9.mono HB5.out.size))
  clear hB9
  go_wp2_with fail
  go_ret
  exact ⟨rfl, HB9.out⟩

set_option maxRecDepth 100000 in
set_option maxHeartbeats 2000000 in
theorem news_row (w : World) (f t : Int) (m : Nat) (hm : 1 ≤ m) (hm8 : m ≤ 8) (k : Nat) (hr : rix m f t = some k) : Calls Try.prog 3 #[.int .i64 m, .int .i64 f, .int .i64 t] w fun e w' => e = .returned (.bool true) ∧ Below w.heap.size w w' := by
  have HL := toHid lives17
  have hm1 : ¬ (m : Int) < 1 := by omega
  have hm2 : ¬ 8 < (m : Int) := by omega
  go_enter Try.func3, Try.ntmps3
  go_wp2_with fail
  go_at_call 9
  refine Calls.mono (new_yes w m hm hm8) ?_
  rintro e w1 ⟨rfl, hN1, hB1, hz1⟩
  have HB1 := toHid hB1
  have HN1 := toHid hN1
  clear hB1 hN1 hz1
  go_wp2_with fail
  go_at_call 10
  refine Calls.mono (take_nil _ 0 1) ?_
  rintro e w2 ⟨rfl, hB2⟩
  have HB2 := toHid (HB1.out.trans (hB2.mono HB1.out.size))
  have HT2 := toHid hB2
  clear hB2
  go_wp2_with fail
  have HB3 := toHid (HB2.out.alloc HB2.out.size (.cells zeroC 31))
  have HT3 := toHid (HT2.out.alloc HT2.out.size (.cells zeroC 31))
  go_at_call 11
  refine Calls.mono (same_zero _) ?_
  rintro e w4 ⟨rfl, hB4⟩
  have HB4 := toHid (HB3.out.trans (hB4.mono HB3.out.size))
  have HT4 := toHid (HT3.out.trans (hB4.mono HT3.out.size))
  clear hB4
  go_wp2_with fail
  go_at_call 12
  refine Calls.mono (send_nil _ 0 1 (km 0) zeroP) ?_
  rintro e w5 ⟨rfl, hB5⟩
  have HB5 := toHid (HB4.out.trans (hB5.mono HB4.out.size))
  have HT5 := toHid (HT4.out.trans (hB5.mono HT4.out.size))
  clear hB5
  go_wp2_with fail
  go_at_call 13
  refine Calls.mono (len_nil _ 0 1) ?_
  rintro e w6 ⟨rfl, hw6⟩
  obtain rfl := hw6.symm
  go_wp2_with fail
  go_at_call 14
  refine Calls.mono (sum_nil _) ?_
  rintro e w6 ⟨rfl, hw6⟩
  obtain rfl := hw6.symm
  go_wp2_with fail
  go_at_call 15
  refine Calls.mono (cut_nil _ 1) ?_
  rintro e w6 ⟨rfl, hw6⟩
  obtain rfl := hw6.symm
  go_wp2_with fail
  go_at_call 16
  refine Calls.mono (peek_no _ _ 0 1 (between_nil _ 0 1)) ?_
  rintro e w6 ⟨rfl, hw6⟩
  obtain rfl := hw6.symm
  go_wp2_with fail
  go_at_call 14
  refine Calls.mono (sum_any (HN1.out.below HT5.out)) ?_
  rintro e w7 ⟨rfl, q7, hw7⟩
  have HN7 : Hid (NetOk w7 w.heap.size m (fun _ => [])) := by rw [hw7]; exact (HN1.out.below HT5.out).drew q7
  have HB7 : Hid (Below w.heap.size w w7) := by rw [hw7]; exact below_drewN' HB5.out q7
  clear hw7
  rw [sumR_nil]
  go_wp2_with fail
  go_at_call 12
  refine Calls.mono (send_room HN7.out f t hr (by simp) (km 1) zeroP (mi_km _ _) (lim_km _)) ?_
  rintro e w8 ⟨rfl, b8, p8, hN8, hM8, hO8, hb8, hT8⟩
  have HB8 := toHid (hT8.to HB7.out (Nat.le_refl _) HB7.out.size)
  clear hN8 hM8 hO8 hb8 hT8
  go_wp2_with fail
  go_at_call 18
  refine Calls.mono (row18 m (.slice none 0 0) f t _) ?_
  rintro e w10 ⟨rfl, hB10⟩
  have HB10 := toHid (HB8.out.trans (hB10.mono HB8.out.size))
  clear hB10
  rw [hr]
  simp only [Option.isSome_some]
  go_wp2_with fail
  go_at_call 17
  refine Calls.mono (HL.out _) ?_
  rintro e w9 ⟨rfl, hB9⟩
  have HB9 := toHid (HB10.out.trans (hB9.mono HB10.out.size))
  clear hB9
  go_wp2_with fail
  go_ret
  exact ⟨rfl, HB9.out⟩

set_option maxRecDepth 100000 in
set_option maxHeartbeats 2000000 in
theorem news_none (w : World) (f t : Int) (m : Nat) (hm : 1 ≤ m) (hm8 : m ≤ 8) (hr : rix m f t = none) : Calls Try.prog 3 #[.int .i64 m, .int .i64 f, .int .i64 t] w fun e w' => e = .returned (.bool true) ∧ Below w.heap.size w w' := by
  have HL := toHid lives17
  have hm1 : ¬ (m : Int) < 1 := by omega
  have hm2 : ¬ 8 < (m : Int) := by omega
  go_enter Try.func3, Try.ntmps3
  go_wp2_with fail
  go_at_call 9
  refine Calls.mono (new_yes w m hm hm8) ?_
  rintro e w1 ⟨rfl, hN1, hB1, hz1⟩
  have HB1 := toHid hB1
  have HN1 := toHid hN1
  clear hB1 hN1 hz1
  go_wp2_with fail
  go_at_call 10
  refine Calls.mono (take_nil _ 0 1) ?_
  rintro e w2 ⟨rfl, hB2⟩
  have HB2 := toHid (HB1.out.trans (hB2.mono HB1.out.size))
  have HT2 := toHid hB2
  clear hB2
  go_wp2_with fail
  have HB3 := toHid (HB2.out.alloc HB2.out.size (.cells zeroC 31))
  have HT3 := toHid (HT2.out.alloc HT2.out.size (.cells zeroC 31))
  go_at_call 11
  refine Calls.mono (same_zero _) ?_
  rintro e w4 ⟨rfl, hB4⟩
  have HB4 := toHid (HB3.out.trans (hB4.mono HB3.out.size))
  have HT4 := toHid (HT3.out.trans (hB4.mono HT3.out.size))
  clear hB4
  go_wp2_with fail
  go_at_call 12
  refine Calls.mono (send_nil _ 0 1 (km 0) zeroP) ?_
  rintro e w5 ⟨rfl, hB5⟩
  have HB5 := toHid (HB4.out.trans (hB5.mono HB4.out.size))
  have HT5 := toHid (HT4.out.trans (hB5.mono HT4.out.size))
  clear hB5
  go_wp2_with fail
  go_at_call 13
  refine Calls.mono (len_nil _ 0 1) ?_
  rintro e w6 ⟨rfl, hw6⟩
  obtain rfl := hw6.symm
  go_wp2_with fail
  go_at_call 14
  refine Calls.mono (sum_nil _) ?_
  rintro e w6 ⟨rfl, hw6⟩
  obtain rfl := hw6.symm
  go_wp2_with fail
  go_at_call 15
  refine Calls.mono (cut_nil _ 1) ?_
  rintro e w6 ⟨rfl, hw6⟩
  obtain rfl := hw6.symm
  go_wp2_with fail
  go_at_call 16
  refine Calls.mono (peek_no _ _ 0 1 (between_nil _ 0 1)) ?_
  rintro e w6 ⟨rfl, hw6⟩
  obtain rfl := hw6.symm
  go_wp2_with fail
  go_at_call 14
  refine Calls.mono (sum_any (HN1.out.below HT5.out)) ?_
  rintro e w7 ⟨rfl, q7, hw7⟩
  have HN7 : Hid (NetOk w7 w.heap.size m (fun _ => [])) := by rw [hw7]; exact (HN1.out.below HT5.out).drew q7
  have HB7 : Hid (Below w.heap.size w w7) := by rw [hw7]; exact below_drewN' HB5.out q7
  clear hw7
  rw [sumR_nil]
  go_wp2_with fail
  go_at_call 12
  refine Calls.mono (send_none HN7.out f t hr (km 1) zeroP) ?_
  rintro e w8 ⟨rfl, hB8⟩
  have HB8 := toHid (HB7.out.trans (hB8.mono HB7.out.size))
  clear hB8
  go_wp2_with fail
  go_at_call 18
  refine Calls.mono (row18 m (.slice none 0 0) f t _) ?_
  rintro e w10 ⟨rfl, hB10⟩
  have HB10 := toHid (HB8.out.trans (hB10.mono HB8.out.size))
  clear hB10
  rw [hr]
  simp only [Option.isSome_none]
  go_wp2_with fail
  go_at_call 17
  refine Calls.mono (HL.out _) ?_
  rintro e w9 ⟨rfl, hB9⟩
  have HB9 := toHid (HB10.out.trans (hB9.mono HB10.out.size))
  clear hB9
  go_wp2_with fail
  go_ret
  exact ⟨rfl, HB9.out⟩

theorem news_walk (n f t : Int) (w : World) : Calls Try.prog 3 #[.int .i64 n, .int .i64 f, .int .i64 t] w fun e w' => e = .returned (.bool true) ∧ Below w.heap.size w w' := by
  by_cases h1 : n < 1
  · exact news_low w f t n (.inl h1) h1
  · by_cases h2 : 8 < n
    · exact news_high w f t n (.inr h2) h1 h2
    · obtain ⟨m, rfl⟩ : ∃ m : Nat, n = m := ⟨n.toNat, by omega⟩
      cases hr : rix m f t with
      | none => exact news_none w f t m (by omega) (by omega) hr
      | some k => exact news_row w f t m (by omega) (by omega) k hr

end Go.Proofs.Ytfdpmffoajjchaa
