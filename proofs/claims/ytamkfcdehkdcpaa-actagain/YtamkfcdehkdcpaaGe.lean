/-
  The walk of ActAgain.
-/
import Derived.Test.YtamkfcdehkdcpaaGc
import Derived.Test.YtamkfcdehkdcpaaGd
namespace Go.Proofs.Ytamkfcdehkdcpaa
open Go.RowKit

set_option maxRecDepth 100000 in
set_option maxHeartbeats 3000000 in
theorem last7 (w : World) (s lsn : Nat) (L : List Cl) (v rv : Value) (R : List Rc) (u : Nat → Value) (wr : World) (h7 : u 7 = .pointer (some ⟨s + 1, 0, none⟩)) (h14 : u 14 = .string (txt (pageB 4 lsn L))) (hG : Ag7 w s lsn L v rv R wr) :
    Code.wp Try.prog (tailOf 8 body7) (bodyPost Try.prog Try.f7 fun e w'' => e = .returned (.bool true) ∧ Below w.heap.size w w'') (frame7 u) wr := by
  have hl := pageB_length 4 lsn L hG.good.room
  have HB : Hid _ := bytes_any (s + 1) (s + 1) 4 lsn v L wr hG.pg hG.good (by omega)
  have HG : Hid _ := hG
  rw [frame7_open, h7, h14]
  clear h7 h14 hG
  conv => arg 2; whnf
  go_wp2_with fail
  refine Calls.mono HB.out ?_
  rintro e w2 ⟨G, rfl, _, hB2, hb2⟩
  have cb := conv_buf hB2 hl
  have HG2 : Hid _ := (HG.out.on hb2).bel
  have HS : Hid _ := HG.out.sz
  clear hB2 hb2 HB
  go_wp2_with fail
  refine (lives_any _).mono ?_
  rintro e w3 ⟨rfl, hb3⟩
  go_wp2_with fail
  go_ret
  exact ⟨rfl, below_on (by have := HG2.out; rw [HS.out] at this; exact this) hb3⟩

set_option maxRecDepth 100000 in
set_option maxHeartbeats 3000000 in
theorem rest7 (w : World) (a : Option Addr) (c : Nat) (l : List Ac) (fr : Int) (s lsn : Nat) (L : List Cl) (v rv : Value) (R : List Rc) (hR : R.length ≤ 40) (u : Nat → Value) (wr : World) (hu : Sl7 a c l fr s u) (h9 : u 9 = rv) (hG : Ag7 w s lsn L v rv R wr) :
    Code.wp Try.prog (tailOf 5 body7) (bodyPost Try.prog Try.f7 fun e w'' => e = .returned (.bool true) ∧ Below w.heap.size w w'') (frame7 u) wr := by
  obtain ⟨h1, h2, h7⟩ := hu
  have hl := pageB_length 4 lsn L hG.good.room
  have HB : Hid _ := bytes_any (s + 1) (s + 1) 4 lsn v L wr hG.pg hG.good (by omega)
  have HG : Hid _ := hG
  obtain ⟨ra, rc, rfl⟩ := ownsRow_shape hG.row
  rw [frame7_open, h1, h2, h7, h9]
  clear h1 h2 h7 h9 hG
  conv => arg 2; whnf
  go_wp2_with fail
  refine Calls.mono HB.out ?_
  rintro e w2 ⟨G, rfl, _, hB2, hb2⟩
  have cb := conv_buf hB2 hl
  have HG2 : Hid _ := HG.out.on hb2
  clear hB2 hb2 HB
  by_cases hf0 : fr < 0
  · go_wp2_with fail
    rename_i Kr hKr
    refine wp7 rfl rfl (loop7b_wp w s lsn L ra rc R (txt (pageB 4 lsn L)) hR 0 (by omega) _ _ v rfl rfl rfl (by first | rfl | (show Value.int .i64 _ = _; simp; try omega)) HG2.out _ ?_)
    intro u' w' v' e7 e14 hG'
    exact hKr _ _ (last7 w s lsn L v' _ R u' w' e7 e14 hG')
  · by_cases hf1 : (R.length : Int) < fr
    · go_wp2_with fail
      rename_i Kr hKr
      refine wp7 rfl rfl (loop7b_wp w s lsn L ra rc R (txt (pageB 4 lsn L)) hR 0 (by omega) _ _ v rfl rfl rfl (by first | rfl | (show Value.int .i64 _ = _; simp; try omega)) HG2.out _ ?_)
      intro u' w' v' e7 e14 hG'
      exact hKr _ _ (last7 w s lsn L v' _ R u' w' e7 e14 hG')
    · obtain ⟨f0, rfl⟩ := Int.eq_ofNat_of_zero_le (show 0 ≤ fr by omega)
      go_wp2_with fail
      rename_i Kr hKr
      refine wp7 rfl rfl (loop7b_wp w s lsn L ra rc R (txt (pageB 4 lsn L)) hR f0 (by omega) _ _ v rfl rfl rfl (by first | rfl | (show Value.int .i64 _ = _; simp; try omega)) HG2.out _ ?_)
      intro u' w' v' e7 e14 hG'
      exact hKr _ _ (last7 w s lsn L v' _ R u' w' e7 e14 hG')

set_option maxRecDepth 100000 in
set_option maxHeartbeats 3000000 in
theorem walkAgain (a0 : Option Addr) (c0 : Nat) (l0 : List Pr) (a : Option Addr) (c : Nat) (l : List Ac) (fr : Int) (w : World) (h : SlP w a0 l0) (hl : l0.length ≤ maxLen) (hA : SlA w a l) :
    Calls Try.prog 7 #[.slice a0 l0.length c0, .slice a l.length c, .int .i64 fr] w fun e w' => e = .returned (.bool true) ∧ Below w.heap.size w w' := by
  have HP := (show Hid _ from pair_any 4 (by decide) a0 c0 l0 w h hl)
  have HA := (show Hid _ from hA)
  clear h hl hA
  go_enter Try.func7, Try.ntmps7
  go_wp2_with fail
  refine Calls.mono HP.out ?_
  rintro e w1 ⟨L0, v0, a1, c1, rfl, hp0, hb0⟩
  have hBa := (Below.refl w1.heap.size w1).alloc (Nat.le_refl _) (.cells #[.int .i64 4, .int .u64 0, .slice a1 L0.length c1] 29)
  have HG : Hid (Ag7 w w.heap.size 0 L0 v0 (.slice none 0 0) [] (w1.alloc (.cells #[.int .i64 4, .int .u64 0, .slice a1 L0.length c1] 29))) :=
    ⟨hp0.pg.below hBa (Nat.le_refl _), hp0.good, World.ownsRow_nil _ _ _ _, by simp, rfl, below_on hb0 hBa⟩
  clear hp0 hb0 hBa HP
  simp only [refP]
  go_wp2_with fail
  rename_i Kr hKr
  refine wp7 rfl rfl (loop7a_wp w a c l fr w.heap.size HA.out _ _ ⟨rfl, rfl, rfl⟩ L0 v0 rfl rfl HG.out _ ?_ ?_)
  · intro u' w' e6 hb
    rw [frame7_open, e6]
    go_ret
    exact ⟨rfl, hb⟩
  · intro u' w' lsn' L' v' rv' R' h1 h2 _ h4 h5
    exact hKr _ _ (rest7 w a c l fr w.heap.size lsn' L' v' rv' R' h4 u' w' h1 h2 h5)

end Go.Proofs.Ytamkfcdehkdcpaa
