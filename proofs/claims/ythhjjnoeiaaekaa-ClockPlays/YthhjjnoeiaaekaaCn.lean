/-
  ClockNews: of how many frames a ring can be, and what it is at first.
-/
import Derived.Test.YthhjjnoeiaaekaaMb
import Derived.Laws.StructEq
namespace Go.Proofs.Ythhjjnoeiaaekaa
open Go.RowKit

theorem Try.held31 : Try.prog.stoodInHeld 31 = false := by kernel_rfl
theorem Try.struct31 : Try.prog.underlying 31 = some (.struct (Try.prog.fieldsOf 31)) := by kernel_rfl
theorem eq31 (f g : Fr) (w : World) : (Op.equalIn 10000 31 (.agg #[.int .i64 f.page, .bool f.used, .int .i64 f.pins]) (.agg #[.int .i64 g.page, .bool g.used, .int .i64 g.pins])).run Try.prog w = .ok (decide (f = g)) w := by
  obtain ⟨a, b, c⟩ := f
  obtain ⟨a', b', c'⟩ := g
  simp only
  rw [show (10000 : Nat) = 9999 + 1 from rfl, run_equalIn_struct w 9999 31 _ _ Try.struct31 Try.held31]
  simp [Program.fieldsOf, Try.underlying31, Op.eqFields, go_sem, Try.underlying3, Try.underlying4]
  by_cases h1 : a = a' <;> by_cases h2 : b = b' <;> by_cases h3 : c = c' <;> simp [h1, h2, h3]

set_option maxHeartbeats 2000000 in
theorem news_walk (n : Int) (w : World) : Calls Try.prog 3 #[.int .i64 n] w fun e w' => e = .returned (.bool true) ∧ Below w.heap.size w w' := by
  by_cases hn : 1 ≤ n ∧ n ≤ 16
  · obtain ⟨h1, h2⟩ := hn
    obtain ⟨m, rfl⟩ : ∃ m : Nat, n = (m : Int) := ⟨n.toNat, by omega⟩
    have hm1 : 1 ≤ m := by omega
    have hm2 : m ≤ 16 := by omega
    have hM := new_may hm1 hm2
    obtain ⟨R, hR, hM, hRl, hRh, hRf⟩ : ∃ R : Rg, Hid (newR (m : Int) = (R, 0)) ∧ MayR R ∧ R.fr.length = m ∧ R.hand = 0 ∧ Hid (∀ j (hj : j < R.fr.length), R.fr[j] = ⟨-1, false, 0⟩) := ⟨_, toHid (newR_yes hm1 hm2), hM, by simp, rfl, toHid fun j hj => by simp⟩
    go_enter Try.func3, Try.ntmps3
    go_wp2_with fail
    refine Calls.mono (new_any (m : Int) w) ?_
    rintro e w1 ⟨a, c, rfl, hs1, hb1⟩
    rw [hR.out] at hs1 ⊢
    simp only at hs1 ⊢
    clear hR
    simp only [rgV, rgC]
    have HL := toHid hRl
    rw [hRl, hRh]
    obtain ⟨i0, i1, i2⟩ := al1 w1 (.cells #[.slice a m c, .int .i64 0] 24)
    have hs2 := hs1.below i2
    have hB2 := below_on hb1 i2
    have hck := check_yes a c R _ hs2 hM
    simp only [rgV, rgC] at hck
    rw [hRl, hRh] at hck
    have HC := toHid hck
    clear hs1 hb1 hRl hRh hM hck
    go_wp2_with fail
    generalize World.alloc _ _ = W at i0 i1 i2 hs2 hB2 HC ⊢
    refine Calls.mono HC.out ?_
    rintro e w2 ⟨rfl, hb2⟩
    have hs3 := hs2.below hb2
    have hB3 := below_on hB2 hb2
    have hk := box_in' i0 hb2
    obtain ⟨p0, p1, p2, p3, p4⟩ := cell2 hk
    clear hs2 hb2 hB2 hk i0 i1 i2 HC
    go_wp2_with fail
    go_loop [5] (fun i => ∃ k : Nat, k ≤ m ∧ i = .int .i64 k) (fun i => m - (intOf i).toNat)
    case atStart => exact ⟨0, Nat.zero_le _, rfl⟩
    case round =>
      obtain ⟨k, hk, rfl⟩ := hrel
      by_cases hlt : k < m
      · have hkl : k < R.fr.length := by have := HL.out; omega
        obtain ⟨b, o, rfl, hbl, c0, c1, c2⟩ := hs3.at k hkl
        rw [hRf.out k hkl] at c0 c1 c2
        have hE := fun W => eq31 ⟨-1, false, 0⟩ ⟨-1, false, 0⟩ W
        simp only [decide_true] at hE
        go_wp2_with fail
        go_round
        case rel => exact ⟨k + 1, by omega, by simp⟩
        case measure => first | omega | (simp only [intOf]; omega)
      · obtain rfl : k = m := by omega
        go_wp2_with fail
        refine Calls.mono (lives_any w2) ?_
        rintro e w3 ⟨rfl, hb3⟩
        have HB := toHid (below_on hB3 hb3)
        clear hb3 hB3 hs3 p0 p1 p2 p3 p4
        go_wp2
        go_ret
        exact ⟨rfl, HB.out⟩
  · have hR := newR_no hn
    go_enter Try.func3, Try.ntmps3
    go_wp2_with fail
    refine Calls.mono (new_any n w) ?_
    rintro e w1 ⟨a, c, rfl, hs1, hb1⟩
    rw [hR] at hs1 ⊢
    have ha : a = none ∨ ∃ x, a = some x := by cases a <;> simp
    simp only [rgV, rgC, Rg.zero, List.length_nil] at hs1 ⊢
    obtain ⟨i0, i1, i2⟩ := al1 w1 (.cells #[.slice a 0 c, .int .i64 0] 24)
    have hB2 := below_on hb1 i2
    clear hb1 hs1 hR ha
    by_cases h1 : n < 1
    · go_wp2_with fail
      generalize World.alloc _ _ = W at i0 i1 i2 hB2 ⊢
      refine Calls.mono (lives_any W) ?_
      rintro e w3 ⟨rfl, hb3⟩
      have HB := toHid (below_on hB2 hb3)
      clear hb3 hB2 i0 i1 i2
      go_wp2
      go_ret
      exact ⟨rfl, HB.out⟩
    · have h2 : 16 < n := by omega
      go_wp2_with fail
      generalize World.alloc _ _ = W at i0 i1 i2 hB2 ⊢
      refine Calls.mono (lives_any W) ?_
      rintro e w3 ⟨rfl, hb3⟩
      have HB := toHid (below_on hB2 hb3)
      clear hb3 hB2 i0 i1 i2
      go_wp2
      go_ret
      exact ⟨rfl, HB.out⟩
end Go.Proofs.Ythhjjnoeiaaekaa
