/-
  The law OwnNils: its walk.
-/
import Derived.Test.YtdlanenbbmnbhaaLv
import Derived.Test.YtdlanenbbmnbhaaCj
namespace Go.Proofs.Ytdlanenbbmnbhaa
open Go.RowKit

theorem nils_math (pg k : Int) : (pageB (newL 3 [true]) pg = true ∧ instB k = true ∧ (needL (newL 3 [true]) pg k).2.2 = 0 ∧ (needL (newL 3 [true]) pg k).2.1.length = 1) ∨ (¬ (0 ≤ pg ∧ pg < 3 ∧ 1 ≤ k ∧ k ≤ 8) ∧ (needL (newL 3 [true]) pg k).2.2 = 1 ∧ (needL (newL 3 [true]) pg k).2.1.length = 0) := by
  by_cases h : pageB (newL 3 [true]) pg = true ∧ instB k = true
  · left
    refine ⟨h.1, h.2, ?_⟩
    have hp := page_iff.1 h.1
    rw [new_len] at hp
    have hk := inst_iff.1 h.2
    have h1 : pg = 0 ∨ pg = 1 ∨ pg = 2 := by omega
    have h2 : k = 1 ∨ k = 2 ∨ k = 3 ∨ k = 4 ∨ k = 5 ∨ k = 6 ∨ k = 7 ∨ k = 8 := by omega
    rcases h1 with rfl | rfl | rfl <;> rcases h2 with rfl | rfl | rfl | rfl | rfl | rfl | rfl | rfl <;> decide +kernel
  · right
    rw [need_arg h]
    refine ⟨fun e => h ⟨page_iff.2 ⟨e.1, by rw [new_len]; omega⟩, inst_iff.2 ⟨e.2.2.1, e.2.2.2⟩⟩, rfl, rfl⟩

set_option maxHeartbeats 4000000 in
theorem nils_walk (pg k : Int) (w : World) : Calls Try.prog 7 #[.int .i64 pg, .int .i64 k] w fun e w' => e = .returned (.bool true) ∧ Below w.heap.size w w' := by
  have H1 := toHid (need_nil pg k w)
  have H2 := toHid (back_nil pg k w)
  have H3 := toHid (mend_nil pg w)
  have H4 := toHid (owner_nil pg w)
  have H5 := toHid (waits_nil pg w)
  have H6 := toHid (has_nil k w)
  have H7 := toHid (fail_nil k w)
  have H8 := toHid (lost_nil pg w)
  have H9 := toHid (fast_nil pg w)
  go_enter Try.func7, Try.ntmps7
  go_wp2_with fail
  refine Calls.mono H1.out ?_
  rintro e w1 ⟨rfl, hw⟩
  obtain rfl := hw.symm
  clear H1 hw
  go_wp2_with fail
  refine Calls.mono H2.out ?_
  rintro e w1 ⟨rfl, hw⟩
  obtain rfl := hw.symm
  clear H2 hw
  go_wp2_with fail
  refine Calls.mono H3.out ?_
  rintro e w1 ⟨rfl, hw⟩
  obtain rfl := hw.symm
  clear H3 hw
  go_wp2_with fail
  refine Calls.mono H4.out ?_
  rintro e w1 ⟨rfl, hw⟩
  obtain rfl := hw.symm
  clear H4 hw
  go_wp2_with fail
  refine Calls.mono H5.out ?_
  rintro e w1 ⟨rfl, hw⟩
  obtain rfl := hw.symm
  clear H5 hw
  go_wp2_with fail
  refine Calls.mono H6.out ?_
  rintro e w1 ⟨rfl, hw⟩
  obtain rfl := hw.symm
  clear H6 hw
  go_wp2_with fail
  refine Calls.mono H7.out ?_
  rintro e w1 ⟨rfl, hw⟩
  obtain rfl := hw.symm
  clear H7 hw
  go_wp2_with fail
  refine Calls.mono H8.out ?_
  rintro e w1 ⟨rfl, hw⟩
  obtain rfl := hw.symm
  clear H8 hw
  go_wp2_with fail
  refine Calls.mono H9.out ?_
  rintro e w1 ⟨rfl, hw⟩
  obtain rfl := hw.symm
  clear H9 hw
  have HB0 := toHid ((Below.refl w.heap.size w).alloc (Nat.le_refl _) (.cells #[.bool true] 4))
  have hb0 := heap_alloc_new w (.cells #[.bool true] 4)
  have HN := toHid (new_yes 3 (some ⟨w.heap.size, 0, none⟩) 1 [true] (w.alloc (.cells #[.bool true] 4)) (by omega) (by omega) (by simp) ⟨fun j hj => ⟨w.heap.size, 0, rfl, by
    obtain rfl : j = 0 := by simpa using hj
    unfold World.cell?
    rw [hb0]
    simp⟩⟩)
  clear hb0
  go_wp2_with fail
  refine Calls.mono HN.out ?_
  rintro e w1 ⟨⟨p, q, rfl, hb, hp, hq⟩, hB⟩
  have HB1 := toHid (HB0.out.trans (hB.mono (by simp)))
  have hsz := hB.size
  have hq' : w.heap.size ≤ q := by simp at hq; omega
  have HF0 := toHid (fast_any p q _ 0 w1 hb)
  have HF1 := toHid (fast_any p q _ 1 w1 hb)
  rw [show (lfAt (newL 3 [true]) 0).fast = true from by decide +kernel] at HF0
  rw [show (lfAt (newL 3 [true]) 1).fast = false from by decide +kernel] at HF1
  have HNd := toHid (need_any p q _ pg k w1 hb (new_ok 3 [true]))
  have hqs : w.heap.size ≤ w1.heap.size := HB1.out.size
  clear HN HB0 hb hB hsz hp hq
  go_wp2_with fail
  refine Calls.mono HF0.out ?_
  rintro e w2 ⟨rfl, hw⟩
  obtain rfl := hw.symm
  clear HF0 hw
  go_wp2_with fail
  refine Calls.mono HF1.out ?_
  rintro e w2 ⟨rfl, hw⟩
  obtain rfl := hw.symm
  clear HF1 hw
  go_wp2_with fail
  refine Calls.mono HNd.out ?_
  rintro e w2 ⟨⟨v, rfl, a1, c1, rfl, s1, n1⟩, hb, ho⟩
  have HL := toHid (lives_any w2)
  have HB2 := toHid (HB1.out.trans (ho.below hq' hqs))
  clear HNd s1 n1 hb ho HB1
  have HM := nils_math pg k
  generalize needL (newL 3 [true]) pg k = R at HM ⊢
  obtain ⟨R0, R1, R2⟩ := R
  simp only at HM ⊢
  rcases HM with ⟨hp, hk, rfl, e2⟩ | ⟨hn, rfl, e2⟩
  · rw [e2]
    rw [page_iff, new_len] at hp
    rw [inst_iff] at hk
    obtain ⟨p0, p1⟩ := hp
    obtain ⟨k0, k1⟩ := hk
    have p2 : pg < 3 := by omega
    clear e2 p1
    go_wp2_with fail
    refine Calls.mono HL.out ?_
    rintro e w3 ⟨rfl, hb3⟩
    have HB3 := toHid (HB2.out.trans (hb3.mono HB2.out.size))
    clear hb3
    go_wp2
    go_ret
    exact ⟨rfl, HB3.out⟩
  · rw [e2]
    clear e2
    by_cases p0 : 0 ≤ pg
    · by_cases p1 : pg < 3
      · by_cases k0 : 1 ≤ k
        · have k1 : ¬ k ≤ 8 := fun e => hn ⟨p0, p1, k0, e⟩
          clear hn
          go_wp2_with fail
          refine Calls.mono HL.out ?_
          rintro e w3 ⟨rfl, hb3⟩
          have HB3 := toHid (HB2.out.trans (hb3.mono HB2.out.size))
          clear hb3
          go_wp2
          go_ret
          exact ⟨rfl, HB3.out⟩
        · clear hn
          go_wp2_with fail
          refine Calls.mono HL.out ?_
          rintro e w3 ⟨rfl, hb3⟩
          have HB3 := toHid (HB2.out.trans (hb3.mono HB2.out.size))
          clear hb3
          go_wp2
          go_ret
          exact ⟨rfl, HB3.out⟩
      · clear hn
        go_wp2_with fail
        refine Calls.mono HL.out ?_
        rintro e w3 ⟨rfl, hb3⟩
        have HB3 := toHid (HB2.out.trans (hb3.mono HB2.out.size))
        clear hb3
        go_wp2
        go_ret
        exact ⟨rfl, HB3.out⟩
    · clear hn
      go_wp2_with fail
      refine Calls.mono HL.out ?_
      rintro e w3 ⟨rfl, hb3⟩
      have HB3 := toHid (HB2.out.trans (hb3.mono HB2.out.size))
      clear hb3
      go_wp2
      go_ret
      exact ⟨rfl, HB3.out⟩
end Go.Proofs.Ytdlanenbbmnbhaa
