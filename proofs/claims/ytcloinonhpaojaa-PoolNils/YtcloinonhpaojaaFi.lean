/-
  Next: the frame that is given up.
-/
import Derived.Test.YtcloinonhpaojaaFh
import Derived.WalkMore
namespace Go.Proofs.Ytcloinonhpaojaa.Ck
open Go.RowKit

/-- A frame, a ring and an error that were told. -/
def RetN (w w' : World) (x : Int × Rg × Int) (e : Ending) : Prop := ∃ a c, e = .returned (.tuple #[.int .i64 x.1, rgV a c x.2.1, .int .i64 x.2.2]) ∧ SlF w' a x.2.1.fr ∧ Below w.heap.size w w'
/-- The same, and the ring lies in new memory. -/
def RetM (w w' : World) (x : Int × Rg × Int) (e : Ending) : Prop := ∃ a c, e = .returned (.tuple #[.int .i64 x.1, rgV a c x.2.1, .int .i64 x.2.2]) ∧ SlF w' a x.2.1.fr ∧ Below w.heap.size w w' ∧ ∀ y, a = some y → w.heap.size ≤ y.block
theorem RetM.n {w w' : World} {x : Int × Rg × Int} {e : Ending} : RetM w w' x e → RetN w w' x e := fun ⟨a, c, h1, h2, h3, _⟩ => ⟨a, c, h1, h2, h3⟩
theorem retN_zero {w w' : World} {x : Int} {e : Ending} (he : e = .returned (.tuple #[.int .i64 0, .agg #[.slice none 0 0, .int .i64 0], .int .i64 x])) (hb : Below w.heap.size w w') : RetM w w' (0, .zero, x) e := ⟨none, 0, he, SlF.nil _, hb, fun _ h => by simp at h⟩

theorem nextR_arg {r : Rg} (h : ¬ MayR r) : nextR r = (0, .zero, 1) := by
  unfold nextR
  rw [if_neg (by rw [mayB_true]; exact h)]
theorem nextR_busy {r : Rg} (h : MayR r) (hn : lookN r.fr.length (2 * r.fr.length) r.fr r.hand.toNat = none) : nextR r = (0, .zero, 15) := by
  unfold nextR
  rw [if_pos (by rw [mayB_true]; exact h), hn]
theorem nextR_told {r : Rg} {i : Nat} {l : List Fr} {h' : Nat} (h : MayR r) (hn : lookN r.fr.length (2 * r.fr.length) r.fr r.hand.toNat = some (i, l, h')) : nextR r = ((i : Int), ⟨l, (h' : Int)⟩, 0) := by
  unfold nextR
  rw [if_pos (by rw [mayB_true]; exact h), hn]

set_option maxHeartbeats 4000000 in
theorem next_new (a : Option Addr) (c : Nat) (r : Rg) (w : World) (h : SlF w a r.fr) (hl : r.fr.length ≤ maxLen) :
    Calls Try.prog 53 #[rgV a c r] w fun e w' => RetM w w' (nextR r) e := by
  by_cases hM : MayR r
  · have h16 := hM.most
    have h01 := hM.one
    go_enter Try.func53, Try.ntmps53
    go_wp2_with fail
    go_step3
    go_wp2_with fail
    obtain ⟨i0, i1, i2, i3⟩ := al2 w (.cells (rgC a c r) 36) (.cells #[.slice none 0 0, .int .i64 0] 36)
    generalize World.alloc (World.alloc _ _) _ = W at i0 i1 i2 i3 ⊢
    have hsW := h.below i3
    refine Calls.mono (check_yes a c r W hsW hM) ?_
    rintro e w1 ⟨rfl, hb1⟩
    have hB1 := below_on i3 hb1
    have k0 := box_in' i0 hb1
    have k1 := box_in' i1 hb1
    have hs1 := hsW.below hb1
    clear i0 i1 i2 i3 hsW h hb1
    obtain ⟨p0, p1, p2, p3, p4⟩ := cell2 k0
    have HB := toHid hB1
    have HQ := toHid k1
    clear hB1 k1 k0
    go_wp2_with fail
    refine Calls.mono (copied_any a c r w1 hs1 hM) ?_
    rintro e w2 ⟨g, rfl, hg, hrow, hb2⟩
    have HB2 := toHid (below_on HB.out hb2)
    have HQ2 := toHid (box_in' HQ.out hb2)
    have HR := toHid hrow
    have hgl := hrow.lt
    have hqg : w.heap.size + 1 < g := by have := (Array.getElem?_eq_some_iff.mp HQ.out).1; omega
    clear HB HQ hs1 hb2 hrow p0 p1 p2 p3 p4
    obtain ⟨n, hn⟩ : ∃ n, Hid (r.fr.length = n) := ⟨_, toHid rfl⟩
    obtain ⟨hd, hhd⟩ : ∃ hd : Nat, Hid (r.hand = (hd : Int)) := ⟨r.hand.toNat, toHid (by have := hM.h0; omega)⟩
    have hdn : hd < n := by have := hM.h1; have := hn.out; have := hhd.out; omega
    have hn1 : 1 ≤ n := by have := hn.out; omega
    have hn16 : n ≤ 16 := by have := hn.out; omega
    simp only [rgV, rgC]
    rw [hn.out, hhd.out]
    clear h16 h01
    go_wp2_with fail
    go_step3
    go_wp2_with fail
    obtain ⟨m0, m1, m2⟩ := al1 w2 (.cells #[.slice (some ⟨g, 0, none⟩) n n, .int .i64 (hd : Int)] 36)
    generalize World.alloc _ _ = W2 at m0 m1 m2 ⊢
    have HB3 := toHid (below_on HB2.out m2)
    have HQ3 := toHid (box_in' HQ2.out m2)
    have HR3 := toHid (HR.out.below m2)
    obtain ⟨P, hP⟩ : ∃ P, P = w2.heap.size := ⟨_, rfl⟩
    rw [← hP] at m0 ⊢
    have hPg : g < P := by omega
    clear HB2 HQ2 HR m1 m2 hP hgl
    go_loopw [19, 6] (fun i t wr => ∃ k hh : Nat, ∃ l : List Fr, k ≤ 2 * n ∧ hh < n ∧ l.length = n ∧ i = .int .i64 k ∧ t = .int .i64 (-1) ∧ wr.heap[P]? = some (.cells #[.slice (some ⟨g, 0, none⟩) n n, .int .i64 (hh : Int)] 36) ∧ wr.heap[w.heap.size + 1]? = some (.cells #[.slice none 0 0, .int .i64 0] 36) ∧ RowF wr g l ∧ lookN n (2 * n - k) l hh = lookN n (2 * n) r.fr hd ∧ Below w.heap.size w wr) (fun i _ _ => 2 * n - (intOf i).toNat)
    case atStart => exact ⟨0, hd, r.fr, Nat.zero_le _, hdn, hn.out, rfl, rfl, m0, HQ3.out, HR3.out, rfl, HB3.out⟩
    case round =>
      clear m0 HQ3 HR3 HB3
      obtain ⟨k, hh, l, hk, hhn, hln, rfl, rfl, hbox, hq, hrow, hlook, hB⟩ := hrel
      have HL := toHid hlook
      have HN := toHid hln
      have hhl : hh < l.length := by omega
      clear hlook hln
      have hqP : ¬ w.heap.size + 1 = P := by omega
      have hPg' : ¬ P = g := by omega
      have hPg2 : ¬ g = P := by omega
      by_cases hlt : k < 2 * n
      · obtain ⟨b0, b1, b2, b3, b4⟩ := cell2 hbox
        obtain ⟨c0, c1, c2, c3, c4, c5⟩ := hrow.at_ hh hhl
        obtain ⟨h', hm, HM⟩ : ∃ h' : Nat, ((hh : Int) + 1) % (n : Int) = (h' : Int) ∧ Hid (h' = (hh + 1) % n) := ⟨(hh + 1) % n, by simp, toHid rfl⟩
        have hh'n : h' < n := by rw [HM.out]; exact Nat.mod_lt _ (by omega)
        have hgl := hrow.lt
        have HBx := toHid hbox
        have HQ := toHid hq
        have HW := toHid hrow
        have HB := toHid hB
        have ek : 2 * n - k = (2 * n - (k + 1)) + 1 := by omega
        have HE := toHid ek
        clear hbox hq hrow hB ek
        by_cases hp : 0 < l[hh].pins
        · have HP := toHid (lookN_pin (n := n) (k := 2 * n - (k + 1)) hhl hp)
          go_wp2_with fail
          go_roundw
          case rel =>
            obtain ⟨e0, -, e2⟩ := al1 (wr.setCell ⟨P, 1, none⟩ (.int .i64 (h' : Int))) (.cells #[.int .i64 l[hh].page, .bool l[hh].used, .int .i64 l[hh].pins] 123)
            refine ⟨k + 1, h', l, by omega, hh'n, HN.out, by simp, rfl, box_in' (heap_setCell_same wr P 1 _ 36 _ HBx.out) e2, box_in' ((heap_setCell_other _ _ _ _ (by simpa using fun e => hqP e)).trans HQ.out) e2, (HW.out.other ⟨P, 1, none⟩ _ (by simpa using hPg')).below e2, ?_, ?_⟩
            · rw [← HL.out, HE.out, HP.out, HM.out]
            · have hb := HB.out.setCell (p := ⟨P, 1, none⟩) (by simp; omega) (.int .i64 (h' : Int))
              exact hb.alloc hb.size _
          case measure => first | omega | (simp only [intOf]; omega)
        · cases hu : l[hh].used
          · have HP := toHid (lookN_told (n := n) (k := 2 * n - (k + 1)) hhl hp hu)
            rw [hu] at c1
            have hp' : l[hh].pins ≤ 0 := by omega
            clear hp
            go_wp2_with fail
            obtain ⟨e0, -, e2⟩ := al1 (wr.setCell ⟨P, 1, none⟩ (.int .i64 (h' : Int))) (.cells #[.int .i64 l[hh].page, .bool false, .int .i64 l[hh].pins] 123)
            have hq3 := box_in' ((heap_setCell_other wr ⟨P, 1, none⟩ _ _ (by simpa using fun e => hqP e)).trans HQ.out) e2
            have hbx3 := box_in' (heap_setCell_same wr P 1 _ 36 (.int .i64 (h' : Int)) HBx.out) e2
            have hrow3 := (HW.out.other ⟨P, 1, none⟩ (.int .i64 (h' : Int)) (by simpa using hPg')).below e2
            have hb3 := HB.out.setCell (p := ⟨P, 1, none⟩) (by simp; omega) (.int .i64 (h' : Int))
            have hb4 := hb3.alloc hb3.size (.cells #[.int .i64 l[hh].page, .bool false, .int .i64 l[hh].pins] 123)
            generalize World.alloc _ _ = W4 at e0 e2 hq3 hbx3 hrow3 hb4 ⊢
            have HQ3 := toHid hq3
            have HR3 := toHid hrow3
            have HB4 := toHid hb4
            obtain ⟨s0, s1, s2, s3, s4⟩ := cell2 hq3
            obtain ⟨t0, t1, t2, t3, t4⟩ := cell2 (show W4.heap[P]? = some (.cells #[.slice (some ⟨g, 0, none⟩) n n, .int .i64 (h' : Int)] 36) from hbx3)
            clear hq3 hrow3 hb3 hb4 hbx3 e0 e2 HQ HW HB HBx b0 b1 b2 b3 b4 c0 c1 c2 c3 c4 c5
            go_region
            all_goals
              go_wp2
              rw [Exit.noGoto_ret]
              obtain ⟨r0, r1, -⟩ := cell2 (ring_set (u := .slice (some ⟨g, 0, none⟩) n n) (v := .int .i64 (h' : Int)) HQ3.out)
              refine bodyPost_ret (v := .tuple #[.int .i64 (hh : Int), .agg #[.slice (some ⟨g, 0, none⟩) n n, .int .i64 (h' : Int)], .int .i64 0]) (by simp [results, Try.results53, go_sem, r0, r1]) rfl ?_
              rw [nextR_told hM (i := hh) (l := l) (h' := h') (by rw [hn.out, hhd.out, Int.toNat_natCast, ← HL.out, HE.out, HP.out, HM.out])]
              refine ⟨some ⟨g, 0, none⟩, n, ?_, ?_, ?_, fun y hy => by simp at hy; subst hy; simp only; omega⟩
              · simp only [rgV, rgC]
                rw [HN.out]
              · exact (((HR3.out.other ⟨w.heap.size + 1, 0, none⟩ _ (by simp; omega)).other ⟨w.heap.size + 1, 1, none⟩ _ (by simp; omega)).below (Below.refl _ _).drew).sl
              · exact ((HB4.out.setCell (p := ⟨w.heap.size + 1, 0, none⟩) (by simp) _).setCell (p := ⟨w.heap.size + 1, 1, none⟩) (by simp) _).drew
          · have HP := toHid (lookN_used (n := n) (k := 2 * n - (k + 1)) hhl hp hu)
            rw [hu] at c1
            have hp' : l[hh].pins ≤ 0 := by omega
            clear hp
            go_wp2_with fail
            go_roundw
            case rel =>
              obtain ⟨e0, -, e2⟩ := al1 ((wr.setCell ⟨P, 1, none⟩ (.int .i64 (h' : Int))).setCell ⟨g, hh * 3 + 1, none⟩ (.bool false)) (.cells #[.int .i64 l[hh].page, .bool true, .int .i64 l[hh].pins] 123)
              refine ⟨k + 1, h', l.set hh ⟨l[hh].page, false, l[hh].pins⟩, by omega, hh'n, by simpa using HN.out, by simp, rfl, box_in' ((heap_setCell_other _ _ _ _ (by simpa using fun e => hPg' e)).trans (heap_setCell_same wr P 1 _ 36 _ HBx.out)) e2, box_in' ((heap_setCell_other _ _ _ _ (by simp; omega)).trans ((heap_setCell_other _ _ _ _ (by simpa using fun e => hqP e)).trans HQ.out)) e2, ((HW.out.other ⟨P, 1, none⟩ _ (by simpa using hPg')).setU hh hhl false).below e2, ?_, ?_⟩
              · rw [← HL.out, HE.out, HP.out, HM.out]
              · have hb := (HB.out.setCell (p := ⟨P, 1, none⟩) (by simp; omega) (.int .i64 (h' : Int))).setCell (p := ⟨g, hh * 3 + 1, none⟩) (by simp; omega) (.bool false)
                exact hb.alloc hb.size _
            case measure => first | omega | (simp only [intOf]; omega)
      · obtain rfl : k = 2 * n := by omega
        obtain ⟨q0, q1, q2, q3, q4⟩ := cell2 hq
        have HQ := toHid hq
        have HB := toHid hB
        clear hq hB hbox hrow
        go_wp2
        obtain ⟨r0, r1, -⟩ := cell2 (ring_set (u := .slice none 0 0) (v := .int .i64 0) HQ.out)
        rw [Exit.noGoto_ret]
        refine bodyPost_ret (v := .tuple #[.int .i64 0, .agg #[.slice none 0 0, .int .i64 0], .int .i64 15]) (by simp [results, Try.results53, go_sem, r0, r1]) rfl ?_
        rw [nextR_busy hM (by rw [hn.out, hhd.out, Int.toNat_natCast, ← HL.out]; simp [lookN])]
        exact retN_zero rfl ((HB.out.setCell (p := ⟨w.heap.size + 1, 0, none⟩) (by simp; try omega) _).setCell (p := ⟨w.heap.size + 1, 1, none⟩) (by simp; try omega) _)
  · go_enter Try.func53, Try.ntmps53
    go_wp2_with fail
    go_step3
    go_wp2_with fail
    obtain ⟨i0, i1, i2, i3⟩ := al2 w (.cells (rgC a c r) 36) (.cells #[.slice none 0 0, .int .i64 0] 36)
    generalize World.alloc (World.alloc _ _) _ = W at i0 i1 i2 i3 ⊢
    have hsW := h.below i3
    refine Calls.mono (check_no a c r W hsW hl hM) ?_
    rintro e w1 ⟨rfl, hb1⟩
    have hB1 := below_on i3 hb1
    have k1 := box_in' i1 hb1
    clear i0 i1 i2 i3 hsW h hb1
    obtain ⟨q0, q1, q2, q3, q4⟩ := cell2 k1
    have HB := toHid hB1
    have HQ := toHid k1
    clear hB1 k1
    go_wp2
    obtain ⟨r0, r1, -⟩ := cell2 (ring_set (u := .slice none 0 0) (v := .int .i64 0) HQ.out)
    rw [Exit.noGoto_ret]
    refine bodyPost_ret (v := .tuple #[.int .i64 0, .agg #[.slice none 0 0, .int .i64 0], .int .i64 1]) (by simp [results, Try.results53, go_sem, r0, r1]) rfl ?_
    rw [nextR_arg hM]
    exact retN_zero rfl ((HB.out.setCell (p := ⟨w.heap.size + 1, 0, none⟩) (by simp; try omega) _).setCell (p := ⟨w.heap.size + 1, 1, none⟩) (by simp; try omega) _)

theorem next_any (a : Option Addr) (c : Nat) (r : Rg) (w : World) (h : SlF w a r.fr) (hl : r.fr.length ≤ maxLen) :
    Calls Try.prog 53 #[rgV a c r] w fun e w' => RetN w w' (nextR r) e := (next_new a c r w h hl).mono fun _ _ h => h.n
end Go.Proofs.Ytcloinonhpaojaa.Ck
