/-
  ActAgain: the second loop.
-/
import Derived.Test.YtamkfcdehkdcpaaGb
namespace Go.Proofs.Ytamkfcdehkdcpaa
open Go.RowKit

/-- Between two records that are done again. -/
def J7 (w : World) (s lsn : Nat) (L : List Cl) (ra : Option Addr) (rc : Nat) (R : List Rc) (X : ByteArray) (i : Nat) (x : Act) (w' : World) : Prop :=
  ∃ (u : Nat → Value) (v : Value), x = frame7 u ∧ u 7 = .pointer (some ⟨s + 1, 0, none⟩) ∧ u 9 = .slice ra R.length rc ∧ u 14 = .string X ∧ u 15 = .int .i64 (i : Int) ∧ Ag7 w s lsn L v (.slice ra R.length rc) R w'

set_option maxRecDepth 100000 in
set_option maxHeartbeats 3000000 in
theorem round7b (w : World) (s lsn : Nat) (L : List Cl) (ra : Option Addr) (rc : Nat) (R : List Rc) (X : ByteArray) (i : Nat) (hi : i < R.length) (h40 : R.length ≤ 40) (u : Nat → Value) (wr : World) (v : Value) (h7 : u 7 = .pointer (some ⟨s + 1, 0, none⟩)) (h9 : u 9 = .slice ra R.length rc) (h14 : u 14 = .string X) (h15 : u 15 = .int .i64 (i : Int)) (hG : Ag7 w s lsn L v (.slice ra R.length rc) R wr) (Q0 : Exit → Act → World → Prop) :
    Code.wp Try.prog loop7b (Exit.then (fun x w'' => J7 w s lsn L ra rc R X (i + 1) x w'') Q0) (frame7 u) wr := by
  obtain ⟨_, g, rfl, hgl, hC⟩ := hG.told i hi
  have HRd := redo_any (s + 1) (s + 1) 4 lsn v L R[i] wr hG.pg hG.good
  rw [redo_again (hG.low R[i] (List.getElem_mem hi))] at HRd
  have HG : Hid _ := hG
  generalize R[i] = r at *
  obtain ⟨r0, r1, r2, r3, r4, r5, ⟨r6, r7, r8, r9⟩, ra', rn', rc', da', dn', dc'⟩ := r
  simp only [recV, recC] at HRd
  have c0 := hC 0 _ rfl
  have c1 := hC 1 _ rfl
  have c2 := hC 2 _ rfl
  have c3 := hC 3 _ rfl
  have c4 := hC 4 _ rfl
  have c5 := hC 5 _ rfl
  have c6 := hC 6 _ rfl
  have c7 := hC 7 _ rfl
  have c8 := hC 8 _ rfl
  have c9 := hC 9 _ rfl
  have c10 := hC 10 _ rfl
  have c11 := hC 11 _ rfl
  simp only [Nat.add_zero] at c0
  rw [frame7_open, h7, h9, h14, h15]
  clear h7 h9 h14 h15 hG hC
  conv => arg 2; whnf
  go_wp2_with fail
  refine HRd.mono ?_
  clear HRd
  rintro e w4 ⟨rfl, v4, hp4, ht4, _⟩
  have HG4 : Hid _ := HG.out.redo hp4 HG.out.good (Nat.le_refl _) ht4
  clear c0 c1 c2 c3 c4 c5 c6 c7 c8 c9 c10 c11 hp4 ht4
  go_wp2_with fail
  exact ⟨_, v4, frame7_lit _ rfl rfl, rfl, rfl, rfl, by show Value.int .i64 _ = _; simp, HG4.out⟩

set_option maxRecDepth 100000 in
set_option maxHeartbeats 3000000 in
theorem exit7b (s : Nat) (ra : Option Addr) (rc : Nat) (n : Nat) (X : ByteArray) (i : Nat) (hi : i = n) (u : Nat → Value) (wr : World) (h7 : u 7 = .pointer (some ⟨s + 1, 0, none⟩)) (h9 : u 9 = .slice ra n rc) (h14 : u 14 = .string X) (h15 : u 15 = .int .i64 (i : Int)) (Q0 : Exit → Act → World → Prop) (R : Act → World → Prop)
    (hexit : ∀ u', u' 7 = .pointer (some ⟨s + 1, 0, none⟩) → u' 14 = .string X → Q0 (.exit 2) (frame7 u') wr) :
    Code.wp Try.prog loop7b (Exit.then R Q0) (frame7 u) wr := by
  have HX : Hid _ := hexit
  clear hexit
  rw [frame7_open, h7, h9, h14, h15]
  clear h7 h9 h14 h15
  subst hi
  conv => arg 2; whnf
  go_wp2_with fail
  exact q7 rfl rfl (HX.out _ rfl rfl)

theorem loop7b_wp (w : World) (s lsn : Nat) (L : List Cl) (ra : Option Addr) (rc : Nat) (R : List Rc) (X : ByteArray) (h40 : R.length ≤ 40) (i0 : Nat) (hi0 : i0 ≤ R.length) (u : Nat → Value) (wr : World) (v : Value) (h7 : u 7 = .pointer (some ⟨s + 1, 0, none⟩)) (h9 : u 9 = .slice ra R.length rc) (h14 : u 14 = .string X) (h15 : u 15 = .int .i64 (i0 : Int)) (hG : Ag7 w s lsn L v (.slice ra R.length rc) R wr) (Q0 : Exit → Act → World → Prop)
    (hexit : ∀ u' w' v', u' 7 = .pointer (some ⟨s + 1, 0, none⟩) → u' 14 = .string X → Ag7 w s lsn L v' (.slice ra R.length rc) R w' → Q0 (.exit 2) (frame7 u') w') :
    Code.wp Try.prog (Code.loop loop7b) Q0 (frame7 u) wr := by
  refine wp_loop (fun x w' => ∃ i, i ≤ R.length ∧ J7 w s lsn L ra rc R X i x w') (fun x _ => R.length - (intOf (x.tmps.getD 15 undef)).toNat) ⟨i0, hi0, u, v, rfl, h7, h9, h14, h15, hG⟩ ?_
  rintro x w' ⟨i, hil, u', v', rfl, g7, g9, g14, g15, hG'⟩
  by_cases hi : i < R.length
  · refine Code.wp_mono ?_ (round7b w s lsn L ra rc R X i hi h40 u' w' v' g7 g9 g14 g15 hG' Q0)
    intro e x w'' h'
    cases e <;> first | exact h' | skip
    refine ⟨⟨i + 1, by omega, h'⟩, ?_⟩
    obtain ⟨u'', _, rfl, _, _, _, k15, _⟩ := h'
    show R.length - (intOf (u'' 15)).toNat < R.length - (intOf (u' 15)).toNat
    rw [k15, g15]
    simp only [intOf]
    omega
  · exact exit7b s ra rc R.length X i (by omega) u' w' g7 g9 g14 g15 Q0 _ (fun u'' h1 h2 => hexit u'' w' v' h1 h2 hG')

end Go.Proofs.Ytamkfcdehkdcpaa
