/-
  The walk of StableNews.
-/
import Derived.Test.YtbigclhfgcaccaaNb
import Derived.Test.YtbigclhfgcaccaaNc
import Derived.Test.YtbigclhfgcaccaaNd
import Derived.Test.YtbigclhfgcaccaaNe
namespace Go.Proofs.Ytbigclhfgcaccaa
open Go.RowKit

theorem refnew_no (size : Int) (w : World) (h : ¬ (0 ≤ size ∧ size ≤ 65536 ∧ size % 64 = 0)) : Calls Try.prog 10 #[.int .i64 size] w fun e w' => e = .returned (.tuple #[.agg (refN ⟨#[]⟩), .bool false]) ∧ Below w.heap.size w w' := by
  by_cases h0 : size < 0
  · exact refnew_a size w h0
  · by_cases h1 : 65536 < size
    · exact refnew_b size w h1
    · exact refnew_c size w (by omega) (by omega) (fun e => h ⟨by omega, by omega, e⟩)

theorem clone_nil (w : World) : Calls Try.prog 21 #[.pointer none] w fun e w' => e = .returned (.pointer none) ∧ w' = w := by
  go_enter Try.func21, Try.ntmps21
  go_wp2_with fail
  go_ret
  exact ⟨rfl, rfl⟩

set_option maxRecDepth 20000 in
set_option maxHeartbeats 3000000 in
theorem walkNews (size : Int) (w : World) : Calls Try.prog 3 #[.int .i64 size] w fun e w' => e = .returned (.bool true) ∧ Below w.heap.size w w' := by
  have HI : Hid ((Try.prog.info? 30).map (·.size) = some 25) := by show _ = _; kernel_rfl
  by_cases hs : 0 ≤ size ∧ size ≤ 65536 ∧ size % 64 = 0
  · obtain ⟨n, rfl⟩ := Int.eq_ofNat_of_zero_le hs.1
    go_enter Try.func3, Try.ntmps3
    go_wp2_with fail
    refine (new_yes n w (by omega) (by omega)).mono ?_
    rintro e W1 ⟨rfl, hW1⟩
    have hD := Dev.new n w [] (fun k hk => by simp at hk) (by omega) (by omega)
    have hb1 : Below w.heap.size w W1 := by rw [hW1]; exact ((Below.refl _ w).alloc (Nat.le_refl _) _).alloc (by simp) _
    rw [← hW1] at hD
    clear hW1
    go_wp2_with fail
    refine (refnew_yes n W1 (by omega) (by omega)).mono ?_
    rintro e W2 ⟨rfl, hb2⟩
    rename_i hKc
    refine hKc _ _ ?_
    clear hKc
    have hD2 := hD.below hb2
    have hbw2 := below_on hb1 hb2
    refine wpList_plain rfl fun K hK => ?_
    go_simp
    refine hK _ _ ?_
    clear hK K
    refine wpList_plain rfl fun K hK => ?_
    go_simp
    refine hK _ _ ?_
    clear hK K
    refine wpList_plain rfl fun K hK => ?_
    go_simp
    refine hK _ _ ?_
    clear hK K
    refine wpList_plain rfl fun K hK => ?_
    go_simp
    refine hK _ _ ?_
    clear hK K
    refine wpList_store_row rfl 30 (.tmp 5) (.tmp 21) rfl W2.heap.size (refN (txt (List.replicate n 0))) rfl rfl 30 _ (heap_alloc_new _ _) HI.out rfl (by simp [Value.oneCell']) ?_
    have hg := setRow_heap _ W2.heap.size _ (refN (txt (List.replicate n 0))) 30 (0, 0) (heap_alloc_new W2 (.cells (refN ⟨#[]⟩) 30))
    have hb3 : Below W2.heap.size W2 ((W2.alloc (.cells (refN ⟨#[]⟩) 30)).setRow W2.heap.size (refN (txt (List.replicate n 0)))) := ((Below.refl _ W2).alloc (Nat.le_refl _) _).trans ⟨rfl, rfl, rfl, by simp, fun k hk => setRow_other _ _ _ _ (by omega)⟩
    have z3 : ((W2.alloc (.cells (refN ⟨#[]⟩) 30)).setRow W2.heap.size (refN (txt (List.replicate n 0)))).heap.size = W2.heap.size + 1 := by simp
    generalize (W2.alloc (.cells (refN ⟨#[]⟩) 30)).setRow W2.heap.size (refN (txt (List.replicate n 0))) = W3 at *
    have hD3 := hD2.below hb3
    have hbw3 := below_on hbw2 hb3
    clear hD hD2 hb1 hb2 hbw2 hb3
    go_wp2_with fail
    refine (read_nil 0 0 W3).mono ?_
    rintro e w4 ⟨rfl, hw4⟩
    obtain rfl := hw4.symm
    go_wp2_with fail
    refine (flying_nil 0 W3).mono ?_
    rename_i K1 hK1 K2 hK2
    have HK1 : Hid _ := hK1
    clear hK1
    rintro e w4 ⟨rfl, hw4⟩
    obtain rfl := hw4.symm
    go_wp2_with fail
    refine HK1.out _ _ ?_
    clear HK1
    refine wp_seq_k fun K3 hK3 => ?_
    refine wp_region_lit ?_
    refine wpList_step (fun K hK => ?_)
    go_simp
    refine hK _ _ ?_
    clear hK K
    refine wpList_step (fun K hK => ?_)
    go_simp
    refine hK _ _ ?_
    clear hK K
    refine wpList_step (fun K hK => ?_)
    go_simp
    refine hK _ _ ?_
    clear hK K
    refine wpList_step (fun K hK => ?_)
    go_simp
    refine hK _ _ ?_
    clear hK K
    refine wpList_step (fun K hK => ?_)
    go_simp
    refine hK _ _ ?_
    clear hK K
    refine wpList_step (fun K hK => ?_)
    go_simp
    refine hK _ _ ?_
    clear hK K
    refine wpList_step (fun K hK => ?_)
    go_simp
    refine hK _ _ ?_
    clear hK K
    refine wpList_step (fun K hK => ?_)
    go_simp
    refine hK _ _ ?_
    clear hK K
    refine wpList_step (fun K hK => ?_)
    rw [if_pos (by rfl)]
    refine wp_load_row 30 (.tmp 5) rfl W2.heap.size rfl 30 (refN (txt (List.replicate n 0))) (0, 0) _ hg Try.underlying30 rfl HI.out ?_
    refine hK _ _ ?_
    clear hK K
    go_wp2_with fail
    refine (alike_new n _ _ W3 hD3).mono ?_
    rintro e w5 ⟨rfl, hb5⟩
    have hbw5 := below_on hbw3 hb5
    clear hb5 hbw3 hD3 hg z3 hw4
    go_wp2_with fail
    refine (size_nil w5).mono ?_
    rintro e w6 ⟨rfl, hw6⟩
    obtain rfl := hw6.symm
    go_wp2_with fail
    refine (filled_any 64 1 w5 (by omega)).mono ?_
    rintro e w6 ⟨rfl, _, _, hb6⟩
    have hbw6 := below_on hbw5 hb6
    clear hb6 hbw5
    go_wp2_with fail
    refine (start_nil 0 0 _ w6).mono ?_
    rintro e w7 ⟨rfl, hw7⟩
    obtain rfl := hw7.symm
    go_wp2_with fail
    refine (finish_nil 0 w6).mono ?_
    rintro e w7 ⟨rfl, hb7⟩
    have hbw7 := below_on hbw6 hb7
    clear hb7 hbw6
    go_wp2_with fail
    refine (crash_nil 0 1 w7).mono ?_
    rintro e w8 ⟨rfl, hb8⟩
    have hbw8 := below_on hbw7 hb8
    clear hb8 hbw7
    go_wp2_with fail
    refine (trim_nil 0 w8).mono ?_
    rintro e w9 ⟨rfl, hw9⟩
    obtain rfl := hw9.symm
    go_wp2_with fail
    refine (clone_nil w8).mono ?_
    rintro e w9 ⟨rfl, hw9⟩
    obtain rfl := hw9.symm
    go_wp2_with fail
    refine (lives_any w8).mono ?_
    rintro e w9 ⟨rfl, hb9⟩
    have hbw9 := below_on hbw8 hb9
    go_wp2_with fail
    go_ret
    exact ⟨rfl, hbw9⟩
  · go_enter Try.func3, Try.ntmps3
    go_wp2_with fail
    refine (new_no size w hs).mono ?_
    rintro e W1 ⟨rfl, hW1⟩
    obtain rfl := hW1.symm
    go_wp2_with fail
    refine (refnew_no size w hs).mono ?_
    rintro e W2 ⟨rfl, hb2⟩
    rename_i hKc
    refine hKc _ _ ?_
    clear hKc
    refine wpList_plain rfl fun K hK => ?_
    go_simp
    refine hK _ _ ?_
    clear hK K
    refine wpList_plain rfl fun K hK => ?_
    go_simp
    refine hK _ _ ?_
    clear hK K
    refine wpList_plain rfl fun K hK => ?_
    go_simp
    refine hK _ _ ?_
    clear hK K
    refine wpList_plain rfl fun K hK => ?_
    go_simp
    refine hK _ _ ?_
    clear hK K
    refine wpList_store_row rfl 30 (.tmp 5) (.tmp 21) rfl W2.heap.size (refN ⟨#[]⟩) rfl rfl 30 _ (heap_alloc_new _ _) HI.out rfl (by simp [Value.oneCell']) ?_
    have hg := setRow_heap _ W2.heap.size _ (refN ⟨#[]⟩) 30 (0, 0) (heap_alloc_new W2 (.cells (refN ⟨#[]⟩) 30))
    have hb3 : Below W2.heap.size W2 ((W2.alloc (.cells (refN ⟨#[]⟩) 30)).setRow W2.heap.size (refN ⟨#[]⟩)) := ((Below.refl _ W2).alloc (Nat.le_refl _) _).trans ⟨rfl, rfl, rfl, by simp, fun k hk => setRow_other _ _ _ _ (by omega)⟩
    have z3 : ((W2.alloc (.cells (refN ⟨#[]⟩) 30)).setRow W2.heap.size (refN ⟨#[]⟩)).heap.size = W2.heap.size + 1 := by simp
    generalize (W2.alloc (.cells (refN ⟨#[]⟩) 30)).setRow W2.heap.size (refN ⟨#[]⟩) = W3 at *
    have hbw3 := below_on hb2 hb3
    clear hb3 hg hb2
    go_wp2_with fail
    refine (lives_any _).mono ?_
    rintro e w4 ⟨rfl, hb4⟩
    go_wp2
    go_ret
    exact ⟨rfl, below_on hbw3 hb4⟩

end Go.Proofs.Ytbigclhfgcaccaa
