/-
  The Reader's walks: Text, Read.
-/
import Derived.Test.YtjhjicokbdloiaaRd
namespace Go.Proofs.Ytjhjicokbdloiaa
open Go.RowKit

theorem rtext_err (B p : Nat) (a : Option Addr) (c : Nat) (l : List UInt8) (most : Int) (err : Int) (w : World) (hR : ROk w B p a c l err) (he : err ≠ 0) :
    Calls Try.prog 83 #[.pointer (some ⟨p, 0, none⟩), .int .i64 most] w fun en w' => en = .returned (.string ByteArray.empty) ∧ w' = w := by
  have h1 := rhas_err B p a c l err 2 w hR he
  clear he
  go_enter Try.func83, Try.ntmps83
  go_wp2_with (go_at_call 86; go_must (refine h1.mono ?_); rintro e w' ⟨rfl, rfl⟩)
  go_ret
  exact ⟨rfl, rfl⟩

theorem rtext_short (B p : Nat) (a : Option Addr) (c : Nat) (l : List UInt8) (most : Int) (w : World) (hR : ROk w B p a c l 0) (hl : l.length < 2) :
    Calls Try.prog 83 #[.pointer (some ⟨p, 0, none⟩), .int .i64 most] w fun en w' => en = .returned (.string ByteArray.empty) ∧ w' = w.setCell ⟨p, 1, none⟩ (.int .i64 4) := by
  have h1 := rhas_short B p a c l 2 w hR (by omega)
  go_enter Try.func83, Try.ntmps83
  go_wp2_with (go_at_call 86; go_must (refine h1.mono ?_); rintro e w' ⟨rfl, rfl⟩)
  go_ret
  exact ⟨rfl, rfl⟩

theorem leV_two (l : List UInt8) : leV (l.take 2) < 65536 := by
  have := leV_lt (l.take 2)
  have h : (l.take 2).length ≤ 2 := by simp; omega
  have := Nat.pow_le_pow_right (show 0 < 256 by decide) h
  omega

set_option maxHeartbeats 400000 in
theorem rtext_long (B p : Nat) (a : Option Addr) (c : Nat) (l : List UInt8) (most : Int) (w : World) (hR : ROk w B p a c l 0) (hl : 2 ≤ l.length) (hn : max most 0 < (leV (l.take 2) : Int)) :
    Calls Try.prog 83 #[.pointer (some ⟨p, 0, none⟩), .int .i64 most] w fun en w' => en = .returned (.string ByteArray.empty) ∧ ROk w' B p a c l 3 ∧ w.grownBy w' (some p) := by
  have hm : l.length ≤ maxLen := Nat.le_trans hR.len hR.cap
  have h1 := rhas_yes B p a c l 2 w hR (by omega)
  have h2 := rfirst_any a c l 2 w hR.sl hR.spot hm hl (by decide)
  have hv := leV_two l
  obtain ⟨c0, c1, f0, f1⟩ := two_cells hR.blk
  have hpl := lt_of_block hR.blk
  have hbase := hR.base
  have hR1 : ROk (w.alloc (.cells #[.slice a l.length c] 91)) B p a c l 0 := hR.below ((Below.refl _ _).alloc (Nat.le_refl _) _) (Nat.le_refl _)
  have h3 := rfail_ok B p a c l 3 _ hR1
  generalize leV (l.take 2) = n at *
  have hn0 : 0 < (n : Int) := by omega
  have hn1 : most < (n : Int) := by omega
  have hR2 := (hR.fail 3).below ((Below.refl _ _).alloc (Nat.le_refl _) (.cells #[.slice a l.length c] 91)) (Nat.le_refl _)
  have h4 := rhas_err B p a c l 3 (2 + n) _ hR2 (by decide)
  clear hn
  by_cases hm0 : most < 0
  all_goals
    go_enter Try.func83, Try.ntmps83
    go_wp2_with fail
    refine h1.mono ?_
    rintro e w' ⟨rfl, rfl⟩
    go_wp2_with fail
    refine h2.mono ?_
    rintro e w' ⟨rfl, rfl⟩
    go_wp2_with fail
    refine h3.mono ?_
    rintro e w' ⟨rfl, rfl⟩
    go_wp2_with fail
    refine h4.mono ?_
    rintro e w' ⟨rfl, rfl⟩
    go_wp2
    go_ret
    exact ⟨rfl, hR2, galloc (gset _ _ _ _) _⟩

set_option maxRecDepth 20000 in
set_option maxHeartbeats 400000 in
theorem rtext_yes (B p : Nat) (a : Option Addr) (c : Nat) (l : List UInt8) (most : Int) (w : World) (hR : ROk w B p a c l 0) (hl : 2 ≤ l.length) (hn : (leV (l.take 2) : Int) ≤ max most 0) (hl2 : 2 + leV (l.take 2) ≤ l.length) :
    Calls Try.prog 83 #[.pointer (some ⟨p, 0, none⟩), .int .i64 most] w fun en w' => en = .returned (.string ⟨((l.drop 2).take (leV (l.take 2))).toArray⟩) ∧ (∃ a' c', ROk w' B p a' c' (l.drop (2 + leV (l.take 2))) 0) ∧ w.grownBy w' (some p) := by
  have hm : l.length ≤ maxLen := Nat.le_trans hR.len hR.cap
  have h1 := rhas_yes B p a c l 2 w hR (by omega)
  have h2 := rfirst_any a c l 2 w hR.sl hR.spot hm hl (by decide)
  have hv := leV_two l
  obtain ⟨c0, c1, f0, f1⟩ := two_cells hR.blk
  have hpl := lt_of_block hR.blk
  have hbase := hR.base
  have hR1 : ROk (w.alloc (.cells #[.slice a l.length c] 91)) B p a c l 0 := hR.below ((Below.refl _ _).alloc (Nat.le_refl _) _) (Nat.le_refl _)
  generalize leV (l.take 2) = n at *
  have h4 := rhas_yes B p a c l (2 + n) _ hR1 (by omega)
  have hlen := hR.len
  have hcap := hR.cap
  unfold maxLen at hm hcap
  cases a with
  | none => have := hR.sl.nonil rfl; subst this; simp at hl
  | some x =>
    obtain ⟨g, o, sp⟩ := x
    obtain rfl : sp = none := hR.spot _ rfl
    have hcs : (most < 0 ∧ (n : Int) ≤ 0) ∨ (0 ≤ most ∧ (n : Int) ≤ most) := by omega
    clear hn
    have hfin : Hid (l.drop (2 + n) = l.drop (2 + n)) := rfl
    have hsl1 := hR1.sl
    by_cases hc2 : c = 2
    · subst hc2
      obtain rfl : n = 0 := by omega
      have hcv := run_convert_bytes_back (P := Try.prog) (w.alloc (.cells #[.slice (some ⟨g, o, none⟩) l.length 2] 91)) 34 9 5 ⟨g, o, none⟩ 0 [] Try.underlying34 Try.underlying5 Try.underlying9 (by intro j hj; simp at hj)
      simp only [List.length_nil] at hcv
      have R : ROk (w.setCell ⟨p, 0, none⟩ (.slice (some ⟨g, o, none⟩) 0 0)) B p (some ⟨g, o, none⟩) 0 (l.drop 2) 0 := by
        have := hR.adv0 2 rfl
        rwa [show l.length - 2 = 0 by omega] at this
      rcases hcs with ⟨hm0, hn0⟩ | ⟨hm0, hn0⟩
      all_goals
        go_enter Try.func83, Try.ntmps83
        go_wp2_with fail
        refine h1.mono ?_
        rintro e w' ⟨rfl, rfl⟩
        go_wp2_with fail
        refine h2.mono ?_
        rintro e w' ⟨rfl, rfl⟩
        go_wp2_with fail
        refine h4.mono ?_
        rintro e w' ⟨rfl, rfl⟩
        go_wp2_with fail
        go_ret
        exact ⟨by simp, ⟨_, _, R.below ((Below.refl _ _).alloc (Nat.le_refl _) _) (Nat.le_refl _)⟩, galloc (gset _ _ _ _) _⟩
    · have hLl : ((l.drop 2).take n).length = n := by simp; omega
      have hcv := run_convert_bytes_back (P := Try.prog) (w.alloc (.cells #[.slice (some ⟨g, o, none⟩) l.length c] 91)) 34 9 5 ⟨g, o + 2, none⟩ (c - 2) ((l.drop 2).take n) Try.underlying34 Try.underlying5 Try.underlying9 (by
        intro j hj
        have h5 := (hsl1.shift' 2).cells _ rfl j (.int .u8 ((((l.drop 2).take n)[j]'hj).toNat : Int)) (by
          have hj' : j < n := by omega
          simp only [bcells, List.getElem?_map]
          rw [List.getElem?_eq_getElem (by simp; omega)]
          simp)
        exact h5)
      rw [hLl] at hcv
      clear hLl
      by_cases hce : c = 2 + n
      · subst hce
        have R : ROk (w.setCell ⟨p, 0, none⟩ (.slice (some ⟨g, o, none⟩) 0 0)) B p (some ⟨g, o, none⟩) 0 (l.drop (2 + n)) 0 := by
          have := hR.adv0 (2 + n) rfl
          rwa [show l.length - (2 + n) = 0 by omega] at this
        simp only [Nat.add_sub_cancel_left] at hcv
        rcases hcs with ⟨hm0, hn0⟩ | ⟨hm0, hn0⟩
        · omega
        · have hnz : ¬ (n = 0) := by omega
          clear hc2
          go_enter Try.func83, Try.ntmps83
          go_wp2_with fail
          refine h1.mono ?_
          rintro e w' ⟨rfl, rfl⟩
          go_wp2_with fail
          refine h2.mono ?_
          rintro e w' ⟨rfl, rfl⟩
          go_wp2_with fail
          refine h4.mono ?_
          rintro e w' ⟨rfl, rfl⟩
          go_wp2_with fail
          go_ret
          exact ⟨by simp, ⟨_, _, R.below ((Below.refl _ _).alloc (Nat.le_refl _) _) (Nat.le_refl _)⟩, galloc (gset _ _ _ _) _⟩
      · have R := hR.adv (2 + n)
        rcases hcs with ⟨hm0, hn0⟩ | ⟨hm0, hn0⟩
        all_goals
          go_enter Try.func83, Try.ntmps83
          go_wp2_with fail
          refine h1.mono ?_
          rintro e w' ⟨rfl, rfl⟩
          go_wp2_with fail
          refine h2.mono ?_
          rintro e w' ⟨rfl, rfl⟩
          go_wp2_with fail
          refine h4.mono ?_
          rintro e w' ⟨rfl, rfl⟩
          go_wp2_with fail
          go_ret
          exact ⟨by simp, ⟨_, _, R.below ((Below.refl _ _).alloc (Nat.le_refl _) _) (Nat.le_refl _)⟩, galloc (gset _ _ _ _) _⟩

theorem rtext_cut (B p : Nat) (a : Option Addr) (c : Nat) (l : List UInt8) (most : Int) (w : World) (hR : ROk w B p a c l 0) (hl : 2 ≤ l.length) (hn : (leV (l.take 2) : Int) ≤ max most 0) (hl2 : l.length < 2 + leV (l.take 2)) :
    Calls Try.prog 83 #[.pointer (some ⟨p, 0, none⟩), .int .i64 most] w fun en w' => en = .returned (.string ByteArray.empty) ∧ ROk w' B p a c l 4 ∧ w.grownBy w' (some p) := by
  have hm : l.length ≤ maxLen := Nat.le_trans hR.len hR.cap
  have h1 := rhas_yes B p a c l 2 w hR (by omega)
  have h2 := rfirst_any a c l 2 w hR.sl hR.spot hm hl (by decide)
  have hv := leV_two l
  obtain ⟨c0, c1, f0, f1⟩ := two_cells hR.blk
  have hpl := lt_of_block hR.blk
  have hbase := hR.base
  have hR1 : ROk (w.alloc (.cells #[.slice a l.length c] 91)) B p a c l 0 := hR.below ((Below.refl _ _).alloc (Nat.le_refl _) _) (Nat.le_refl _)
  generalize leV (l.take 2) = n at *
  have h4 := rhas_short B p a c l (2 + n) _ hR1 (by omega)
  have R := (hR.fail 4).below ((Below.refl _ _).alloc (Nat.le_refl _) (.cells #[.slice a l.length c] 91)) (Nat.le_refl _)
  have hcs : (most < 0 ∧ (n : Int) ≤ 0) ∨ (0 ≤ most ∧ (n : Int) ≤ most) := by omega
  clear hn
  rcases hcs with ⟨hm0, hn0⟩ | ⟨hm0, hn0⟩
  · omega
  · skip
    go_enter Try.func83, Try.ntmps83
    go_wp2_with fail
    refine h1.mono ?_
    rintro e w' ⟨rfl, rfl⟩
    go_wp2_with fail
    refine h2.mono ?_
    rintro e w' ⟨rfl, rfl⟩
    go_wp2_with fail
    refine h4.mono ?_
    rintro e w' ⟨rfl, rfl⟩
    go_wp2_with fail
    go_ret
    exact ⟨rfl, R, galloc (gset _ _ _ _) _⟩

theorem rtext_any (B p : Nat) (a : Option Addr) (c : Nat) (l : List UInt8) (most : Int) (err : Int) (w : World) (hR : ROk w B p a c l err) :
    Calls Try.prog 83 #[.pointer (some ⟨p, 0, none⟩), .int .i64 most] w fun en w' => en = .returned (.string ⟨(takeT most l err).2.2.toArray⟩) ∧ (∃ a' c', ROk w' B p a' c' (takeT most l err).1 (takeT most l err).2.1) ∧ w.grownBy w' (some p) := by
  by_cases he : err = 0
  · subst he
    by_cases hl : l.length < 2
    · have e : takeT most l 0 = (l, 4, []) := by simp [takeT, hl]
      rw [e]
      refine (rtext_short B p a c l most w hR hl).mono ?_
      rintro e w' ⟨rfl, rfl⟩
      exact ⟨rfl, ⟨_, _, hR.fail 4⟩, gset _ _ _ _⟩
    · by_cases hn : max most 0 < (leV (l.take 2) : Int)
      · have e : takeT most l 0 = (l, 3, []) := by simp only [takeT, hl, hn]; simp
        rw [e]
        refine (rtext_long B p a c l most w hR (by omega) hn).mono ?_
        rintro e w' ⟨rfl, h1, h2⟩
        exact ⟨rfl, ⟨_, _, h1⟩, h2⟩
      · by_cases hl2 : l.length < 2 + leV (l.take 2)
        · have e : takeT most l 0 = (l, 4, []) := by simp only [takeT, hl, hn, hl2]; simp
          rw [e]
          refine (rtext_cut B p a c l most w hR (by omega) (by omega) hl2).mono ?_
          rintro e w' ⟨rfl, h1, h2⟩
          exact ⟨rfl, ⟨_, _, h1⟩, h2⟩
        · have e : takeT most l 0 = (l.drop (2 + leV (l.take 2)), 0, (l.drop 2).take (leV (l.take 2))) := by simp only [takeT, hl, hn, hl2]; simp
          rw [e]
          exact rtext_yes B p a c l most w hR (by omega) (by omega) (by omega)
  · have e : takeT most l err = (l, err, []) := by simp [takeT, he]
    rw [e]
    refine (rtext_err B p a c l most err w hR he).mono ?_
    rintro e w' ⟨rfl, rfl⟩
    exact ⟨rfl, ⟨_, _, hR⟩, grefl _ _⟩

theorem rtext_nil (most : Int) (w : World) :
    Calls Try.prog 83 #[.pointer none, .int .i64 most] w fun en w' => en = .returned (.string ByteArray.empty) ∧ w' = w := by
  go_enter Try.func83, Try.ntmps83
  go_wp2_with (go_at_call 86; go_must (refine (rhas_nil _ _).mono ?_); rintro e w' ⟨rfl, rfl⟩)
  go_ret
  exact ⟨rfl, rfl⟩

/-- Read. -/
theorem read_any (a : Option Addr) (c : Nat) (l : List UInt8) (w : World) (hv : SlB w a l) (hl : l.length ≤ 140737488355328) (hnil : a = none → c = 0) :
    Calls Try.prog 46 #[.slice a l.length c] w fun e w' => ∃ p a' c', e = .returned (.pointer (some ⟨p, 0, none⟩)) ∧ ROk w' w.heap.size p a' c' l 0 ∧ Below w.heap.size w w' := by
  have h1 := copied_any a c l w hv hl hnil
  go_enter Try.func46, Try.ntmps46
  go_wp2_with (go_at_call 58; go_must (refine h1.mono ?_); rintro e w' ⟨r, rfl, hown, hbel⟩; obtain ⟨ax, cx, rfl⟩ := ownsRow_shape hown)
  go_ret
  refine ⟨_, ax, cx, rfl, ?_, hbel.alloc hbel.size _⟩
  obtain ⟨hsl, _, _⟩ := slB_of_own hown
  refine ⟨hbel.size, heap_alloc_new _ _, hsl.below ((Below.refl _ _).alloc (Nat.le_refl _) _), ?_, ?_, ?_, ?_⟩
  all_goals
    rcases hown.2 with ⟨h, h0⟩ | ⟨g, cap, cur, h, hB, hh, hcc, hm, _⟩
    · simp at h
      obtain ⟨rfl, h2, rfl⟩ := h
      simp_all
    · simp at h
      obtain ⟨rfl, rfl⟩ := h
      have := lt_of_block hh
      first | (intro x hx; simp at hx; subst hx; exact ⟨rfl, by simp; omega, by simp; omega, hB⟩) | omega | (intro h; simp at h)

end Go.Proofs.Ytjhjicokbdloiaa
