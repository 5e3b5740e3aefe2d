/-
  Owner, Lost, Fast, Waits, Has, quit, Fail.
-/
import Derived.Test.YtdlanenbbmnbhaaCb
import Derived.Deep.RegionHeld3
namespace Go.Proofs.Ytdlanenbbmnbhaa
open Go.RowKit

theorem owner_nil (k : Int) (w : World) : Calls Try.prog 19 #[.pointer none, .int .i64 k] w fun e w' => e = .returned (.int .i64 0) ∧ w' = w := by
  have HA := toHid (at_nil k w)
  go_enter Try.func19, Try.ntmps19
  go_wp2_with fail
  refine Calls.mono HA.out ?_
  rintro e w1 ⟨rfl, hw⟩
  obtain rfl := hw.symm
  clear HA
  go_wp2
  go_ret
  exact ⟨rfl, rfl⟩
theorem lost_nil (k : Int) (w : World) : Calls Try.prog 20 #[.pointer none, .int .i64 k] w fun e w' => e = .returned (.bool false) ∧ w' = w := by
  have HA := toHid (at_nil k w)
  go_enter Try.func20, Try.ntmps20
  go_wp2_with fail
  refine Calls.mono HA.out ?_
  rintro e w1 ⟨rfl, hw⟩
  obtain rfl := hw.symm
  clear HA
  go_wp2
  go_ret
  exact ⟨rfl, rfl⟩
theorem fast_nil (k : Int) (w : World) : Calls Try.prog 23 #[.pointer none, .int .i64 k] w fun e w' => e = .returned (.bool false) ∧ w' = w := by
  have HA := toHid (at_nil k w)
  go_enter Try.func23, Try.ntmps23
  go_wp2_with fail
  refine Calls.mono HA.out ?_
  rintro e w1 ⟨rfl, hw⟩
  obtain rfl := hw.symm
  clear HA
  go_wp2
  go_ret
  exact ⟨rfl, rfl⟩
theorem waits_nil (k : Int) (w : World) : Calls Try.prog 21 #[.pointer none, .int .i64 k] w fun e w' => e = .returned (.slice none 0 0) ∧ w' = w := by
  have HA := toHid (at_nil k w)
  go_enter Try.func21, Try.ntmps21
  go_wp2_with fail
  refine Calls.mono HA.out ?_
  rintro e w1 ⟨rfl, hw⟩
  obtain rfl := hw.symm
  clear HA
  go_wp2
  go_ret
  exact ⟨rfl, rfl⟩
theorem has_nil (k : Int) (w : World) : Calls Try.prog 22 #[.pointer none, .int .i64 k] w fun e w' => e = .returned (.slice none 0 0) ∧ w' = w := by
  go_enter Try.func22, Try.ntmps22
  go_wp2
  go_ret
  exact ⟨rfl, rfl⟩
theorem quit_nil (k : Int) (w : World) : Calls Try.prog 37 #[.pointer none, .int .i64 k] w fun e w' => e = .returned (.tuple #[]) ∧ w' = w := by
  go_enter Try.func37, Try.ntmps37
  go_wp2
  refine bodyPost_ret (results_none rfl _ _ _) rfl ?_
  exact ⟨rfl, rfl⟩

theorem owner_any (p q : Nat) (l : List Lf) (k : Int) (w : World) (h : Bk w p q l) :
    Calls Try.prog 19 #[.pointer (some ⟨p, 0, none⟩), .int .i64 k] w fun e w' => e = .returned (.int .i64 (lfAt l k).owner) ∧ w' = w := by
  by_cases hk : 0 ≤ k ∧ k < l.length
  · obtain ⟨i, rfl⟩ := Int.eq_ofNat_of_zero_le hk.1
    have hi : i < l.length := by omega
    have HA := toHid (at_yes p q l i w h hi)
    obtain ⟨a, c, -, -, c2, -⟩ := h.page i hi
    rw [lfAt_yes hi]
    clear h hk
    go_enter Try.func19, Try.ntmps19
    go_wp2_with fail
    refine Calls.mono HA.out ?_
    rintro e w1 ⟨rfl, hw⟩
    obtain rfl := hw.symm
    clear HA
    go_wp2
    go_ret
    exact ⟨rfl, rfl⟩
  · have HA := toHid (at_no p q l k w h hk)
    rw [lfAt_no hk]
    clear h hk
    go_enter Try.func19, Try.ntmps19
    go_wp2_with fail
    refine Calls.mono HA.out ?_
    rintro e w1 ⟨rfl, hw⟩
    obtain rfl := hw.symm
    clear HA
    go_wp2
    go_ret
    exact ⟨rfl, rfl⟩
theorem lost_any (p q : Nat) (l : List Lf) (k : Int) (w : World) (h : Bk w p q l) :
    Calls Try.prog 20 #[.pointer (some ⟨p, 0, none⟩), .int .i64 k] w fun e w' => e = .returned (.bool (lfAt l k).lost) ∧ w' = w := by
  by_cases hk : 0 ≤ k ∧ k < l.length
  · obtain ⟨i, rfl⟩ := Int.eq_ofNat_of_zero_le hk.1
    have hi : i < l.length := by omega
    have HA := toHid (at_yes p q l i w h hi)
    obtain ⟨a, c, -, -, -, c3, -⟩ := h.page i hi
    rw [lfAt_yes hi]
    clear h hk
    go_enter Try.func20, Try.ntmps20
    go_wp2_with fail
    refine Calls.mono HA.out ?_
    rintro e w1 ⟨rfl, hw⟩
    obtain rfl := hw.symm
    clear HA
    go_wp2
    go_ret
    exact ⟨rfl, rfl⟩
  · have HA := toHid (at_no p q l k w h hk)
    rw [lfAt_no hk]
    clear h hk
    go_enter Try.func20, Try.ntmps20
    go_wp2_with fail
    refine Calls.mono HA.out ?_
    rintro e w1 ⟨rfl, hw⟩
    obtain rfl := hw.symm
    clear HA
    go_wp2
    go_ret
    exact ⟨rfl, rfl⟩
theorem fast_any (p q : Nat) (l : List Lf) (k : Int) (w : World) (h : Bk w p q l) :
    Calls Try.prog 23 #[.pointer (some ⟨p, 0, none⟩), .int .i64 k] w fun e w' => e = .returned (.bool (lfAt l k).fast) ∧ w' = w := by
  by_cases hk : 0 ≤ k ∧ k < l.length
  · obtain ⟨i, rfl⟩ := Int.eq_ofNat_of_zero_le hk.1
    have hi : i < l.length := by omega
    have HA := toHid (at_yes p q l i w h hi)
    obtain ⟨a, c, -, c1, -⟩ := h.page i hi
    rw [lfAt_yes hi]
    clear h hk
    go_enter Try.func23, Try.ntmps23
    go_wp2_with fail
    refine Calls.mono HA.out ?_
    rintro e w1 ⟨rfl, hw⟩
    obtain rfl := hw.symm
    clear HA
    go_wp2
    go_ret
    exact ⟨rfl, rfl⟩
  · have HA := toHid (at_no p q l k w h hk)
    rw [lfAt_no hk]
    clear h hk
    go_enter Try.func23, Try.ntmps23
    go_wp2_with fail
    refine Calls.mono HA.out ?_
    rintro e w1 ⟨rfl, hw⟩
    obtain rfl := hw.symm
    clear HA
    go_wp2
    go_ret
    exact ⟨rfl, rfl⟩

/-- A row of numbers is told that lies in memory where nothing turns. -/
def IntR (q : Nat) (w : World) (v : Value) (l : List Int) : Prop := ∃ a c, v = .slice a l.length c ∧ SlI w a l ∧ (∀ x, a = some x → x.block ≠ q) ∧ l.length ≤ c

set_option maxHeartbeats 2000000 in
theorem waits_any (p q : Nat) (l : List Lf) (k : Int) (w : World) (h : Bk w p q l) (hok : BkOk l) :
    Calls Try.prog 21 #[.pointer (some ⟨p, 0, none⟩), .int .i64 k] w fun e w' => (∃ v, e = .returned v ∧ IntR q w' v (lfAt l k).ws) ∧ Below w.heap.size w w' := by
  by_cases hk : 0 ≤ k ∧ k < l.length
  · obtain ⟨i, rfl⟩ := Int.eq_ofNat_of_zero_le hk.1
    have hi : i < l.length := by omega
    have HA := toHid (at_yes p q l i w h hi)
    obtain ⟨a, c, -, -, -, -, -, c5, hs, ho, hc, -⟩ := h.page i hi
    have hlen := (hok.at hi).len
    rw [lfAt_yes hi]
    have hlt := h.lt.2.1
    clear h hk hok
    generalize l[i].ws = ws at *
    have HS := toHid (hs.below (Below.refl _ _).drew)
    have HO := toHid ho
    have HB := toHid (Below.refl w.heap.size w).drew
    clear hs ho
    go_enter Try.func21, Try.ntmps21
    go_wp2_with fail
    refine Calls.mono HA.out ?_
    rintro e w1 ⟨rfl, hw⟩
    obtain rfl := hw.symm
    clear HA
    go_wp2_with fail
    go_region_law (refine step_fullI rfl (.tmp 15) (.tmp 19) 61 rfl Try.underlying61 a [] 0 0 ws.length (by rfl) rfl rfl (SlI.nil _ _) a c ws (by rfl) rfl HS.out (by simp; omega) ?_; intro a' d w2 hb hsl hle hnw _)
    all_goals
      have HB2 := toHid (HB.out.trans (hb.mono (Nat.le_refl _)))
      rw [List.nil_append] at hsl
      have HS2 := toHid hsl
      rw [List.nil_append] at hle
      have HL2 := toHid hle
      have HN2 := toHid hnw
      clear hb hsl hle hnw
      go_wp2
      go_ret
      refine ⟨⟨_, rfl, a', d, by simp [Act.put], HS2.out, fun x hx => ?_, HL2.out⟩, HB2.out⟩
      rcases HN2.out with ⟨-, rfl⟩ | ⟨g, rfl, hg⟩
      · exact HO.out x hx
      · cases hx
        have hg' : w.heap.size ≤ g := hg
        simp only
        omega
  · have HA := toHid (at_no p q l k w h hk)
    rw [lfAt_no hk]
    clear h hk
    go_enter Try.func21, Try.ntmps21
    go_wp2_with fail
    refine Calls.mono HA.out ?_
    rintro e w1 ⟨rfl, hw⟩
    obtain rfl := hw.symm
    clear HA
    go_wp2
    go_ret
    exact ⟨⟨_, rfl, none, 0, rfl, SlI.nil _ _, fun x e => by simp at e, Nat.le_refl _⟩, Below.refl _ _⟩
end Go.Proofs.Ytdlanenbbmnbhaa
