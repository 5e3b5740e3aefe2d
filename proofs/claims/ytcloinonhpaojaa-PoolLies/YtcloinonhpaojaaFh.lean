/-
  Put, Drop, Touch, Pin.
-/
import Derived.Test.YtcloinonhpaojaaFf
namespace Go.Proofs.Ytcloinonhpaojaa.Ck
open Go.RowKit

/-- A ring and an error that were told. -/
def RetR (w w' : World) (x : Rg × Int) (e : Ending) : Prop := ∃ a c, e = .returned (.tuple #[rgV a c x.1, .int .i64 x.2]) ∧ SlF w' a x.1.fr ∧ Below w.heap.size w w' ∧ ∀ y, a = some y → w.heap.size ≤ y.block
theorem retR_zero {w w' : World} {x : Int} {e : Ending} (he : e = .returned (.tuple #[.agg #[.slice none 0 0, .int .i64 0], .int .i64 x])) (hb : Below w.heap.size w w') : RetR w w' (.zero, x) e := ⟨none, 0, he, SlF.nil _, hb, fun _ h => by simp at h⟩
theorem withR_len (r : Rg) (k : Nat) (f : Fr) : (withR r k f).fr.length = r.fr.length := by simp [withR]

theorem putR_arg {r : Rg} {p : Int} (h : ¬ (MayR r ∧ knownB p = true)) : putR r p = (.zero, 1) := by
  unfold putR
  rw [if_neg (by rw [mayB_true]; exact h)]
theorem putR_twice {r : Rg} {p : Int} (h : MayR r) (hk : knownB p = true) (hf : firI r.fr p ≠ -1) : putR r p = (.zero, 9) := by
  unfold putR
  rw [if_pos (by rw [mayB_true]; exact ⟨h, hk⟩), if_pos hf]
theorem putR_busy {r : Rg} {p : Int} (h : MayR r) (hk : knownB p = true) (hf : firI r.fr p = -1) (hn : firI r.fr (-1) = -1) : putR r p = (.zero, 15) := by
  unfold putR
  rw [if_pos (by rw [mayB_true]; exact ⟨h, hk⟩), if_neg (by simpa using hf), if_pos hn]
theorem putR_ok {r : Rg} {p : Int} {k : Nat} (h : MayR r) (hk : knownB p = true) (hf : firI r.fr p = -1) (hn : firI r.fr (-1) = (k : Int)) : putR r p = (withR r k ⟨p, true, 0⟩, 0) := by
  unfold putR
  rw [if_pos (by rw [mayB_true]; exact ⟨h, hk⟩), if_neg (by simpa using hf), if_neg (by omega), hn]
  rfl

set_option maxHeartbeats 2000000 in
theorem put_any (a : Option Addr) (c : Nat) (r : Rg) (p : Int) (w : World) (h : SlF w a r.fr) (hl : r.fr.length ≤ maxLen) :
    Calls Try.prog 27 #[rgV a c r, .int .i64 p] w fun e w' => RetR w w' (putR r p) e := by
  by_cases hM : MayR r
  · have h16 := hM.most
    go_enter Try.func27, Try.ntmps27
    go_wp2_with fail
    obtain ⟨i0, i1, i2, i3⟩ := al2 w (.cells (rgC a c r) 36) (.cells #[.slice none 0 0, .int .i64 0] 36)
    generalize World.alloc (World.alloc _ _) _ = W at i0 i1 i2 i3 ⊢
    have hsW := h.below i3
    refine Calls.mono (check_yes a c r W hsW hM) ?_
    rintro e w1 ⟨rfl, hb1⟩
    have hB1 := below_on i3 hb1
    have k0 := box_in' i0 hb1
    have k1 := box_in' i1 hb1
    have hs1 := hsW.below hb1
    clear i0 i1 i2 i3 hsW h hb1
    obtain ⟨p0, p1, p2, p3, p4⟩ := cell2 k0
    obtain ⟨q0, q1, q2, q3, q4⟩ := cell2 k1
    have HB := toHid hB1
    have HQ := toHid k1
    have HP := toHid k0
    clear hB1 k1 k0
    cases hk : knownB p
    · go_wp2_with fail
      refine Calls.mono (known_no p _ hk) ?_
      rintro e w' ⟨rfl, hw⟩
      obtain rfl := hw.symm
      go_wp2
      obtain ⟨r0, r1, -⟩ := cell2 (ring_set (u := .slice none 0 0) (v := .int .i64 0) HQ.out)
      refine bodyPost_ret (v := .tuple #[.agg #[.slice none 0 0, .int .i64 0], .int .i64 1]) (by simp [results, Try.results27, go_sem, r0, r1]) rfl ?_
      rw [putR_arg (fun x => by simp [hk] at x)]
      exact retR_zero rfl ((HB.out.setCell (p := ⟨w.heap.size + 1, 0, none⟩) (by simp; try omega) _).setCell (p := ⟨w.heap.size + 1, 1, none⟩) (by simp; try omega) _)
    · go_wp2_with fail
      refine Calls.mono (known_yes p _ hk) ?_
      rintro e w' ⟨rfl, hw⟩
      obtain rfl := hw.symm
      go_wp2_with fail
      refine Calls.mono (first_any a c r.fr p _ hs1 (by omega)) ?_
      rintro e w2 ⟨rfl, hb2⟩
      have HB2 := toHid (below_on HB.out hb2)
      have HQ2 := toHid (box_in' HQ.out hb2)
      have HP2 := toHid (box_in' HP.out hb2)
      have hs2 := hs1.below hb2
      clear HB HQ HP hs1 hb2 p0 p1 p2 p3 p4 q0 q1 q2 q3 q4
      obtain ⟨p0, p1, p2, p3, p4⟩ := cell2 HP2.out
      obtain ⟨q0, q1, q2, q3, q4⟩ := cell2 HQ2.out
      rcases firI_cases r.fr p with ⟨hf, -⟩ | ⟨j, hj, hf, -⟩
      · have HF := toHid hf
        rw [hf]
        clear hf
        go_wp2_with fail
        refine Calls.mono (first_any a c r.fr (-1) _ hs2 (by omega)) ?_
        rintro e w3 ⟨rfl, hb3⟩
        have HB3 := toHid (below_on HB2.out hb3)
        have HQ3 := toHid (box_in' HQ2.out hb3)
        have HP3 := toHid (box_in' HP2.out hb3)
        have hs3 := hs2.below hb3
        clear HB2 HQ2 HP2 hs2 hb3 p0 p1 p2 p3 p4 q0 q1 q2 q3 q4
        obtain ⟨p0, p1, p2, p3, p4⟩ := cell2 HP3.out
        obtain ⟨q0, q1, q2, q3, q4⟩ := cell2 HQ3.out
        rcases firI_cases r.fr (-1) with ⟨hg, -⟩ | ⟨j, hj, hg, -⟩
        · have HG := toHid hg
          rw [hg]
          clear hg
          go_wp2
          obtain ⟨r0, r1, -⟩ := cell2 (ring_set (u := .slice none 0 0) (v := .int .i64 0) HQ3.out)
          refine bodyPost_ret (v := .tuple #[.agg #[.slice none 0 0, .int .i64 0], .int .i64 15]) (by simp [results, Try.results27, go_sem, r0, r1]) rfl ?_
          rw [putR_busy hM hk HF.out HG.out]
          exact retR_zero rfl ((HB3.out.setCell (p := ⟨w.heap.size + 1, 0, none⟩) (by simp; try omega) _).setCell (p := ⟨w.heap.size + 1, 1, none⟩) (by simp; try omega) _)
        · have HG := toHid hg
          rw [hg]
          clear hg
          go_wp2_with fail
          refine Calls.mono (with_any a c r j ⟨p, true, 0⟩ _ hs3 hM hj) ?_
          rintro e w4 ⟨g, c', rfl, hg, hrow, hb4⟩
          have HB4 := toHid (below_on HB3.out hb4)
          have HQ4 := toHid (box_in' HQ3.out hb4)
          have HR := toHid hrow
          have hgl := hrow.lt
          have hn : w.heap.size + 1 < g := by omega
          clear HB3 HQ3 HP3 hs3 hb4 hrow p0 p1 p2 p3 p4 q0 q1 q2 q3 q4
          obtain ⟨q0, q1, q2, q3, q4⟩ := cell2 HQ4.out
          go_wp2
          obtain ⟨r0, r1, -⟩ := cell2 (ring_set (u := .slice (some ⟨g, 0, none⟩) (withR r j ⟨p, true, 0⟩).fr.length c') (v := .int .i64 (withR r j ⟨p, true, 0⟩).hand) HQ4.out)
          refine bodyPost_ret (v := .tuple #[rgV (some ⟨g, 0, none⟩) c' (withR r j ⟨p, true, 0⟩), .int .i64 0]) (by simp [results, Try.results27, go_sem, r0, r1]) rfl ?_
          rw [putR_ok hM hk HF.out HG.out]
          exact ⟨_, _, rfl, ((HR.out.other ⟨w.heap.size + 1, 0, none⟩ _ (by simp; omega)).other ⟨w.heap.size + 1, 1, none⟩ _ (by simp; omega)).sl, (HB4.out.setCell (p := ⟨w.heap.size + 1, 0, none⟩) (by simp) _).setCell (p := ⟨w.heap.size + 1, 1, none⟩) (by simp) _, fun y hy => by simp at hy; subst hy; simp only; omega⟩
      · have HF := toHid hf
        rw [hf]
        clear hf
        go_wp2
        obtain ⟨r0, r1, -⟩ := cell2 (ring_set (u := .slice none 0 0) (v := .int .i64 0) HQ2.out)
        refine bodyPost_ret (v := .tuple #[.agg #[.slice none 0 0, .int .i64 0], .int .i64 9]) (by simp [results, Try.results27, go_sem, r0, r1]) rfl ?_
        rw [putR_twice hM hk (by rw [HF.out]; omega)]
        exact retR_zero rfl ((HB2.out.setCell (p := ⟨w.heap.size + 1, 0, none⟩) (by simp; try omega) _).setCell (p := ⟨w.heap.size + 1, 1, none⟩) (by simp; try omega) _)
  · go_enter Try.func27, Try.ntmps27
    go_wp2_with fail
    obtain ⟨i0, i1, i2, i3⟩ := al2 w (.cells (rgC a c r) 36) (.cells #[.slice none 0 0, .int .i64 0] 36)
    generalize World.alloc (World.alloc _ _) _ = W at i0 i1 i2 i3 ⊢
    have hsW := h.below i3
    refine Calls.mono (check_no a c r W hsW hl hM) ?_
    rintro e w1 ⟨rfl, hb1⟩
    have hB1 := below_on i3 hb1
    have k1 := box_in' i1 hb1
    clear i0 i1 i2 i3 hsW h hb1
    obtain ⟨q0, q1, q2, q3, q4⟩ := cell2 k1
    have HB := toHid hB1
    have HQ := toHid k1
    clear hB1 k1
    go_wp2
    obtain ⟨r0, r1, -⟩ := cell2 (ring_set (u := .slice none 0 0) (v := .int .i64 0) HQ.out)
    refine bodyPost_ret (v := .tuple #[.agg #[.slice none 0 0, .int .i64 0], .int .i64 1]) (by simp [results, Try.results27, go_sem, r0, r1]) rfl ?_
    rw [putR_arg (fun x => hM x.1)]
    exact retR_zero rfl ((HB.out.setCell (p := ⟨w.heap.size + 1, 0, none⟩) (by simp; try omega) _).setCell (p := ⟨w.heap.size + 1, 1, none⟩) (by simp; try omega) _)
end Go.Proofs.Ytcloinonhpaojaa.Ck

/-
  Drop, Touch, Pin.
-/
namespace Go.Proofs.Ytcloinonhpaojaa.Ck
open Go.RowKit

theorem place_cases (r : Rg) (p : Int) : (placeR r p = (0, 1) ∧ ¬ MayR r) ∨ (placeR r p = (0, 8) ∧ MayR r ∧ (knownB p = false ∨ firI r.fr p = -1)) ∨ ∃ k, ∃ hk : k < r.fr.length, placeR r p = ((k : Int), 0) ∧ MayR r ∧ knownB p = true ∧ firI r.fr p = (k : Int) ∧ r.fr[k].page = p := by
  by_cases hM : MayR r
  · right
    cases hkn : knownB p
    · exact .inl ⟨placeR_none hM (atR_un hkn), hM, .inl rfl⟩
    · rcases firI_cases r.fr p with ⟨hf, -⟩ | ⟨j, hj, hf, hp, -⟩
      · exact .inl ⟨placeR_none hM (by rw [atR_yes hM hkn]; exact hf), hM, .inr hf⟩
      · refine .inr ⟨j, hj, ?_, hM, rfl, hf, hp⟩
        rw [placeR_yes hM (by rw [atR_yes hM hkn, hf]; omega), atR_yes hM hkn, hf]
  · exact .inl ⟨placeR_no hM, hM⟩

theorem dropR_err {r : Rg} {p : Int} {x : Int} (h : placeR r p = (0, x)) (hx : x ≠ 0) : dropR r p = (.zero, x) := by
  unfold dropR
  rw [h]
  simp [hx]
theorem dropR_pin {r : Rg} {p : Int} {k : Nat} (h : placeR r p = ((k : Int), 0)) (hk : k < r.fr.length) (hp : 0 < r.fr[k].pins) : dropR r p = (.zero, 10) := by
  unfold dropR
  rw [h]
  simp only [Int.toNat_natCast, getD_at hk]
  simp [hp]
theorem dropR_ok {r : Rg} {p : Int} {k : Nat} (h : placeR r p = ((k : Int), 0)) (hk : k < r.fr.length) (hp : ¬ 0 < r.fr[k].pins) : dropR r p = (withR r k ⟨-1, false, 0⟩, 0) := by
  unfold dropR
  rw [h]
  simp only [Int.toNat_natCast, getD_at hk]
  simp [hp]
theorem pinR_err {r : Rg} {p n : Int} {t : Bool} {x : Int} (h : placeR r p = (0, x)) (hx : x ≠ 0) : pinR r p n t = (.zero, x) := by
  unfold pinR
  rw [h]
  simp [hx]
theorem pinR_state {r : Rg} {p n : Int} {t : Bool} {k : Nat} (h : placeR r p = ((k : Int), 0)) (hk : k < r.fr.length) (hp : n < -r.fr[k].pins ∨ 1048576 - r.fr[k].pins < n) : pinR r p n t = (.zero, 10) := by
  unfold pinR
  rw [h]
  simp only [Int.toNat_natCast, getD_at hk]
  rw [if_neg (by simp), if_pos hp]
theorem pinR_ok {r : Rg} {p n : Int} {t : Bool} {k : Nat} (h : placeR r p = ((k : Int), 0)) (hk : k < r.fr.length) (hp : ¬ (n < -r.fr[k].pins ∨ 1048576 - r.fr[k].pins < n)) : pinR r p n t = (withR r k ⟨r.fr[k].page, r.fr[k].used || t, r.fr[k].pins + n⟩, 0) := by
  unfold pinR
  rw [h]
  simp only [Int.toNat_natCast, getD_at hk]
  rw [if_neg (by simp), if_neg hp]

set_option maxHeartbeats 2000000 in
theorem drop_any (a : Option Addr) (c : Nat) (r : Rg) (p : Int) (w : World) (h : SlF w a r.fr) (hl : r.fr.length ≤ maxLen) :
    Calls Try.prog 39 #[rgV a c r, .int .i64 p] w fun e w' => RetR w w' (dropR r p) e := by
  go_enter Try.func39, Try.ntmps39
  go_wp2_with fail
  obtain ⟨i0, i1, i2, i3⟩ := al2 w (.cells (rgC a c r) 36) (.cells #[.slice none 0 0, .int .i64 0] 36)
  generalize World.alloc (World.alloc _ _) _ = W at i0 i1 i2 i3 ⊢
  have hsW := h.below i3
  refine Calls.mono (place_any a c r p W hsW hl) ?_
  rintro e w1 ⟨rfl, hb1⟩
  have hB1 := below_on i3 hb1
  have k0 := box_in' i0 hb1
  have k1 := box_in' i1 hb1
  have hs1 := hsW.below hb1
  clear i0 i1 i2 i3 hsW h hb1
  obtain ⟨p0, p1, p2, p3, p4⟩ := cell2 k0
  obtain ⟨q0, q1, q2, q3, q4⟩ := cell2 k1
  have HB := toHid hB1
  have HQ := toHid k1
  have HP := toHid k0
  clear hB1 k1 k0
  rcases place_cases r p with ⟨hpl, -⟩ | ⟨hpl, -, -⟩ | ⟨k, hk, hpl, hM, hkn, hf, hpg⟩
  · have HE := toHid hpl
    rw [hpl]
    clear hpl
    go_wp2
    obtain ⟨r0, r1, -⟩ := cell2 (ring_set (u := .slice none 0 0) (v := .int .i64 0) HQ.out)
    refine bodyPost_ret (v := .tuple #[.agg #[.slice none 0 0, .int .i64 0], .int .i64 1]) (by simp [results, Try.results39, go_sem, r0, r1]) rfl ?_
    rw [dropR_err HE.out (by decide)]
    exact retR_zero rfl ((HB.out.setCell (p := ⟨w.heap.size + 1, 0, none⟩) (by simp; try omega) _).setCell (p := ⟨w.heap.size + 1, 1, none⟩) (by simp; try omega) _)
  · have HE := toHid hpl
    rw [hpl]
    clear hpl
    go_wp2
    obtain ⟨r0, r1, -⟩ := cell2 (ring_set (u := .slice none 0 0) (v := .int .i64 0) HQ.out)
    refine bodyPost_ret (v := .tuple #[.agg #[.slice none 0 0, .int .i64 0], .int .i64 8]) (by simp [results, Try.results39, go_sem, r0, r1]) rfl ?_
    rw [dropR_err HE.out (by decide)]
    exact retR_zero rfl ((HB.out.setCell (p := ⟨w.heap.size + 1, 0, none⟩) (by simp; try omega) _).setCell (p := ⟨w.heap.size + 1, 1, none⟩) (by simp; try omega) _)
  · have HE := toHid hpl
    rw [hpl]
    clear hpl hpg hf
    obtain ⟨b, o, rfl, hbl, c0, c1, c2⟩ := hs1.at k hk
    by_cases hp : 0 < r.fr[k].pins
    · go_wp2
      obtain ⟨r0, r1, -⟩ := cell2 (ring_set (u := .slice none 0 0) (v := .int .i64 0) HQ.out)
      refine bodyPost_ret (v := .tuple #[.agg #[.slice none 0 0, .int .i64 0], .int .i64 10]) (by simp [results, Try.results39, go_sem, r0, r1]) rfl ?_
      rw [dropR_pin HE.out hk hp]
      exact retR_zero rfl ((HB.out.setCell (p := ⟨w.heap.size + 1, 0, none⟩) (by simp; try omega) _).setCell (p := ⟨w.heap.size + 1, 1, none⟩) (by simp; try omega) _)
    · have hp' : r.fr[k].pins ≤ 0 := by omega
      go_wp2_with fail
      refine Calls.mono (with_any _ c r k ⟨-1, false, 0⟩ _ hs1 hM hk) ?_
      rintro e w4 ⟨g, c', rfl, hg, hrow, hb4⟩
      have HB4 := toHid (below_on HB.out hb4)
      have HQ4 := toHid (box_in' HQ.out hb4)
      have HR := toHid hrow
      have hgl := hrow.lt
      have hn : w.heap.size + 1 < g := by omega
      clear HB HQ HP hs1 hb4 hrow p0 p1 p2 p3 p4 q0 q1 q2 q3 q4
      obtain ⟨q0, q1, q2, q3, q4⟩ := cell2 HQ4.out
      go_wp2
      obtain ⟨r0, r1, -⟩ := cell2 (ring_set (u := .slice (some ⟨g, 0, none⟩) (withR r k ⟨-1, false, 0⟩).fr.length c') (v := .int .i64 (withR r k ⟨-1, false, 0⟩).hand) HQ4.out)
      refine bodyPost_ret (v := .tuple #[rgV (some ⟨g, 0, none⟩) c' (withR r k ⟨-1, false, 0⟩), .int .i64 0]) (by simp [results, Try.results39, go_sem, r0, r1]) rfl ?_
      rw [dropR_ok HE.out hk (by omega)]
      exact ⟨_, _, rfl, ((HR.out.other ⟨w.heap.size + 1, 0, none⟩ _ (by simp; omega)).other ⟨w.heap.size + 1, 1, none⟩ _ (by simp; omega)).sl, (HB4.out.setCell (p := ⟨w.heap.size + 1, 0, none⟩) (by simp) _).setCell (p := ⟨w.heap.size + 1, 1, none⟩) (by simp) _, fun y hy => by simp at hy; subst hy; simp only; omega⟩

set_option maxHeartbeats 2000000 in
theorem touch_any (a : Option Addr) (c : Nat) (r : Rg) (p : Int) (w : World) (h : SlF w a r.fr) (hl : r.fr.length ≤ maxLen) :
    Calls Try.prog 30 #[rgV a c r, .int .i64 p] w fun e w' => RetR w w' (pinR r p 0 true) e := by
  go_enter Try.func30, Try.ntmps30
  go_wp2_with fail
  obtain ⟨i0, i1, i2, i3⟩ := al2 w (.cells (rgC a c r) 36) (.cells #[.slice none 0 0, .int .i64 0] 36)
  generalize World.alloc (World.alloc _ _) _ = W at i0 i1 i2 i3 ⊢
  have hsW := h.below i3
  refine Calls.mono (place_any a c r p W hsW hl) ?_
  rintro e w1 ⟨rfl, hb1⟩
  have hB1 := below_on i3 hb1
  have k0 := box_in' i0 hb1
  have k1 := box_in' i1 hb1
  have hs1 := hsW.below hb1
  clear i0 i1 i2 i3 hsW h hb1
  obtain ⟨p0, p1, p2, p3, p4⟩ := cell2 k0
  obtain ⟨q0, q1, q2, q3, q4⟩ := cell2 k1
  have HB := toHid hB1
  have HQ := toHid k1
  have HP := toHid k0
  clear hB1 k1 k0
  rcases place_cases r p with ⟨hpl, -⟩ | ⟨hpl, -, -⟩ | ⟨k, hk, hpl, hM, hkn, hf, hpg⟩
  · have HE := toHid hpl
    rw [hpl]
    clear hpl
    go_wp2
    obtain ⟨r0, r1, -⟩ := cell2 (ring_set (u := .slice none 0 0) (v := .int .i64 0) HQ.out)
    refine bodyPost_ret (v := .tuple #[.agg #[.slice none 0 0, .int .i64 0], .int .i64 1]) (by simp [results, Try.results30, go_sem, r0, r1]) rfl ?_
    rw [pinR_err HE.out (by decide)]
    exact retR_zero rfl ((HB.out.setCell (p := ⟨w.heap.size + 1, 0, none⟩) (by simp; try omega) _).setCell (p := ⟨w.heap.size + 1, 1, none⟩) (by simp; try omega) _)
  · have HE := toHid hpl
    rw [hpl]
    clear hpl
    go_wp2
    obtain ⟨r0, r1, -⟩ := cell2 (ring_set (u := .slice none 0 0) (v := .int .i64 0) HQ.out)
    refine bodyPost_ret (v := .tuple #[.agg #[.slice none 0 0, .int .i64 0], .int .i64 8]) (by simp [results, Try.results30, go_sem, r0, r1]) rfl ?_
    rw [pinR_err HE.out (by decide)]
    exact retR_zero rfl ((HB.out.setCell (p := ⟨w.heap.size + 1, 0, none⟩) (by simp; try omega) _).setCell (p := ⟨w.heap.size + 1, 1, none⟩) (by simp; try omega) _)
  · have HE := toHid hpl
    rw [hpl]
    clear hpl hpg hf
    obtain ⟨b, o, rfl, hbl, c0, c1, c2⟩ := hs1.at k hk
    have hpn := mayF_pins (hM.up.may k hk hk)
    go_wp2_with fail
    obtain ⟨m0, m1, m2⟩ := al1 w1 (.cells #[.int .i64 r.fr[k].page, .bool true, .int .i64 r.fr[k].pins] 123)
    generalize World.alloc _ _ = W1 at m0 m1 m2 ⊢
    have HB' := toHid (below_on HB.out m2)
    have HQ' := toHid (box_in' HQ.out m2)
    have HP' := toHid (box_in' HP.out m2)
    have hs1' := hs1.below m2
    clear HB HQ HP hs1 p0 p1 p2 p3 p4 q0 q1 q2 q3 q4 m2
    have HB := HB'
    have HQ := HQ'
    have HP := HP'
    have hs1 := hs1'
    clear HB' HQ' HP' hs1'
    obtain ⟨p0, p1, p2, p3, p4⟩ := cell2 HP.out
    obtain ⟨q0, q1, q2, q3, q4⟩ := cell2 HQ.out
    refine Calls.mono (with_any _ c r k ⟨r.fr[k].page, true, r.fr[k].pins⟩ _ hs1 hM hk) ?_
    rintro e w4 ⟨g, c', rfl, hg, hrow, hb4⟩
    have HB4 := toHid (below_on HB.out hb4)
    have HQ4 := toHid (box_in' HQ.out hb4)
    have HR := toHid hrow
    have hgl := hrow.lt
    have hn : w.heap.size + 1 < g := by omega
    clear HB HQ HP hs1 hb4 hrow p0 p1 p2 p3 p4 q0 q1 q2 q3 q4
    obtain ⟨q0, q1, q2, q3, q4⟩ := cell2 HQ4.out
    go_wp2
    obtain ⟨r0, r1, -⟩ := cell2 (ring_set (u := .slice (some ⟨g, 0, none⟩) (withR r k ⟨r.fr[k].page, true, r.fr[k].pins⟩).fr.length c') (v := .int .i64 (withR r k ⟨r.fr[k].page, true, r.fr[k].pins⟩).hand) HQ4.out)
    refine bodyPost_ret (v := .tuple #[rgV (some ⟨g, 0, none⟩) c' (withR r k ⟨r.fr[k].page, true, r.fr[k].pins⟩), .int .i64 0]) (by simp [results, Try.results30, go_sem, r0, r1]) rfl ?_
    rw [show pinR r p 0 true = (withR r k ⟨r.fr[k].page, true, r.fr[k].pins⟩, 0) by rw [pinR_ok HE.out hk (by omega)]; simp]
    exact ⟨_, _, rfl, ((HR.out.other ⟨w.heap.size + 1, 0, none⟩ _ (by simp; omega)).other ⟨w.heap.size + 1, 1, none⟩ _ (by simp; omega)).sl, (HB4.out.setCell (p := ⟨w.heap.size + 1, 0, none⟩) (by simp) _).setCell (p := ⟨w.heap.size + 1, 1, none⟩) (by simp) _, fun y hy => by simp at hy; subst hy; simp only; omega⟩

end Go.Proofs.Ytcloinonhpaojaa.Ck
