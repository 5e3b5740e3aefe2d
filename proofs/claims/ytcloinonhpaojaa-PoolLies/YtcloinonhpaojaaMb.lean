/-
  Next: the frame that is given up.
-/
import Derived.Test.YtcloinonhpaojaaFh
import Derived.WalkMore
namespace Go.Proofs.Ytcloinonhpaojaa.Ck
open Go.RowKit

/-- A frame, a ring and an error that were told. -/
def RetN (w w' : World) (x : Int × Rg × Int) (e : Ending) : Prop := ∃ a c, e = .returned (.tuple #[.int .i64 x.1, rgV a c x.2.1, .int .i64 x.2.2]) ∧ SlF w' a x.2.1.fr ∧ Below w.heap.size w w'
/-- The same, and the ring lies in new memory. -/
def RetM (w w' : World) (x : Int × Rg × Int) (e : Ending) : Prop := ∃ a c, e = .returned (.tuple #[.int .i64 x.1, rgV a c x.2.1, .int .i64 x.2.2]) ∧ SlF w' a x.2.1.fr ∧ Below w.heap.size w w' ∧ ∀ y, a = some y → w.heap.size ≤ y.block
theorem RetM.n {w w' : World} {x : Int × Rg × Int} {e : Ending} : RetM w w' x e → RetN w w' x e := fun ⟨a, c, h1, h2, h3, _⟩ => ⟨a, c, h1, h2, h3⟩
theorem retN_zero {w w' : World} {x : Int} {e : Ending} (he : e = .returned (.tuple #[.int .i64 0, .agg #[.slice none 0 0, .int .i64 0], .int .i64 x])) (hb : Below w.heap.size w w') : RetM w w' (0, .zero, x) e := ⟨none, 0, he, SlF.nil _, hb, fun _ h => by simp at h⟩

theorem nextR_arg {r : Rg} (h : ¬ MayR r) : nextR r = (0, .zero, 1) := by
  unfold nextR
  rw [if_neg (by rw [mayB_true]; exact h)]
theorem nextR_busy {r : Rg} (h : MayR r) (hn : lookN r.fr.length (2 * r.fr.length) r.fr r.hand.toNat = none) : nextR r = (0, .zero, 15) := by
  unfold nextR
  rw [if_pos (by rw [mayB_true]; exact h), hn]
theorem nextR_told {r : Rg} {i : Nat} {l : List Fr} {h' : Nat} (h : MayR r) (hn : lookN r.fr.length (2 * r.fr.length) r.fr r.hand.toNat = some (i, l, h')) : nextR r = ((i : Int), ⟨l, (h' : Int)⟩, 0) := by
  unfold nextR
  rw [if_pos (by rw [mayB_true]; exact h), hn]

set_option maxHeartbeats 4000000 in
theorem next_new (a : Option Addr) (c : Nat) (r : Rg) (w : World) (h : SlF w a r.fr) (hl : r.fr.length ≤ maxLen) :
    Calls Try.prog 53 #[rgV a c r] w fun e w' => RetM w w' (nextR r) e := by
  by_cases hM : MayR r
  · have h16 := hM.most
    have h01 := hM.one
    go_enter Try.func53, Try.ntmps53
    go_wp2_with fail
    go_step3
    go_wp2_with fail
    obtain ⟨i0, i1, i2, i3⟩ := al2 w (.cells (rgC a c r) 36) (.cells #[.slice none 0 0, .int .i64 0] 36)
    generalize World.alloc (World.alloc _ _) _ = W at i0 i1 i2 i3 ⊢
    have hsW := h.below i3
    refine Calls.mono (check_yes a c r W hsW hM) ?_
    rintro e w1 ⟨rfl, hb1⟩
    have hB1 := below_on i3 hb1
    have k0 := box_in' i0 hb1
    have k1 := box_in' i1 hb1
    have hs1 := hsW.below hb1
    clear i0 i1 i2 i3 hsW h hb1
    obtain ⟨p0, p1, p2, p3, p4⟩ := cell2 k0
    have HB := toHid hB1
    have HQ := toHid k1
    clear hB1 k1 k0
    go_wp2_with fail
    refine Calls.mono (copied_any a c r w1 hs1 hM) ?_
    rintro e w2 ⟨g, rfl, hg, hrow, hb2⟩
    have HB2 := toHid (below_on HB.out hb2)
    have HQ2 := toHid (box_in' HQ.out hb2)
    have HR := toHid hrow
    have hgl := hrow.lt
    have hqg : w.heap.size + 1 < g := by have := (Array.getElem?_eq_some_iff.mp HQ.out).1; omega
    clear HB HQ hs1 hb2 hrow p0 p1 p2 p3 p4
    obtain ⟨n, hn⟩ : ∃ n, Hid (r.fr.length = n) := ⟨_, toHid rfl⟩
    obtain ⟨hd, hhd⟩ : ∃ hd : Nat, Hid (r.hand = (hd : Int)) := ⟨r.hand.toNat, toHid (by have := hM.h0; omega)⟩
    have hdn : hd < n := by have := hM.h1; have := hn.out; have := hhd.out; omega
    have hn1 : 1 ≤ n := by have := hn.out; omega
    have hn16 : n ≤ 16 := by have := hn.out; omega
    simp only [rgV, rgC]
    rw [hn.out, hhd.out]
    clear h16 h01
    go_wp2_with fail
    go_step3
    go_wp2_with fail
    obtain ⟨m0, m1, m2⟩ := al1 w2 (.cells #[.slice (some ⟨g, 0, none⟩) n n, .int .i64 (hd : Int)] 36)
    generalize World.alloc _ _ = W2 at m0 m1 m2 ⊢
    have HB3 := toHid (below_on HB2.out m2)
    have HQ3 := toHid (box_in' HQ2.out m2)
    have HR3 := toHid (HR.out.below m2)
    obtain ⟨P, hP⟩ : ∃ P, P = w2.heap.size := ⟨_, rfl⟩
    rw [← hP] at m0 ⊢
    have hPg : g < P := by omega
    clear HB2 HQ2 HR m1 m2 hP hgl
    go_loopw [19, 6] (fun i t wr => ∃ k hh : Nat, ∃ l : List Fr, k ≤ 2 * n ∧ hh < n ∧ l.length = n ∧ i = .int .i64 k ∧ t = .int .i64 (-1) ∧ wr.heap[P]? = some (.cells #[.slice (some ⟨g, 0, none⟩) n n, .int .i64 (hh : Int)] 36) ∧ wr.heap[w.heap.size + 1]? = some (.cells #[.slice none 0 0, .int .i64 0] 36) ∧ RowF wr g l ∧ lookN n (2 * n - k) l hh = lookN n (2 * n) r.fr hd ∧ Below w.heap.size w wr) (fun i _ _ => 2 * n - (intOf i).toNat)
    case atStart => exact ⟨0, hd, r.fr, Nat.zero_le _, hdn, hn.out, rfl, rfl, m0, HQ3.out, HR3.out, rfl, HB3.out⟩
    case round =>
      clear m0 HQ3 HR3 HB3
      obtain ⟨k, hh, l, hk, hhn, hln, rfl, rfl, hbox, hq, hrow, hlook, hB⟩ := hrel
      have HL := toHid hlook
      have HN := toHid hln
      have hhl : hh < l.length := by omega
      clear hlook hln
      have hqP : ¬ w.heap.size + 1 = P := by omega
      have hPg' : ¬ P = g := by omega
      have hPg2 : ¬ g = P := by omega
      by_cases hlt : k < 2 * n
      · obtain ⟨b0, b1, b2, b3, b4⟩ := cell2 hbox
        obtain ⟨c0, c1, c2, c3, c4, c5⟩ := hrow.at_ hh hhl
        obtain ⟨h', hm, HM⟩ : ∃ h' : Nat, ((hh : Int) + 1) % (n : Int) = (h' : Int) ∧ Hid (h' = (hh + 1) % n) := ⟨(hh + 1) % n, by simp, toHid rfl⟩
        have hh'n : h' < n := by rw [HM.out]; exact Nat.mod_lt _ (by omega)
        have hgl := hrow.lt
        have HBx := toHid hbox
        have HQ := toHid hq
        have HW := toHid hrow
        have HB := toHid hB
        have ek : 2 * n - k = (2 * n - (k + 1)) + 1 := by omega
        have HE := toHid ek
        clear hbox hq hrow hB ek
        by_cases hp : 0 < l[hh].pins
        · have HP := toHid (lookN_pin (n := n) (k := 2 * n - (k + 1)) hhl hp)
          go_wp2_with fail
          go_roundw
          case rel =>
            obtain ⟨e0, -, e2⟩ := al1 (wr.setCell ⟨P, 1, none⟩ (.int .i64 (h' : Int))) (.cells #[.int .i64 l[hh].page, .bool l[hh].used, .int .i64 l[hh].pins] 123)
            refine ⟨k + 1, h', l, by omega, hh'n, HN.out, by simp, rfl, box_in' (heap_setCell_same wr P 1 _ 36 _ HBx.out) e2, box_in' ((heap_setCell_other _ _ _ _ (by simpa using fun e => hqP e)).trans HQ.out) e2, (HW.out.other ⟨P, 1, none⟩ _ (by simpa using hPg')).below e2, ?_, ?_⟩
            · rw [← HL.out, HE.out, HP.out, HM.out]
            · have hb := HB.out.setCell (p := ⟨P, 1, none⟩) (by simp; omega) (.int .i64 (h' : Int))
              exact hb.alloc hb.size _
          case measure => first | omega | (simp only [intOf]; omega)
        · cases hu : l[hh].used
          · have HP := toHid (lookN_told (n := n) (k := 2 * n - (k + 1)) hhl hp hu)
            rw [hu] at c1
            have hp' : l[hh].pins ≤ 0 := by omega
            clear hp
            go_wp2_with fail
            obtain ⟨e0, -, e2⟩ := al1 (wr.setCell ⟨P, 1, none⟩ (.int .i64 (h' : Int))) (.cells #[.int .i64 l[hh].page, .bool false, .int .i64 l[hh].pins] 123)
            have hq3 := box_in' ((heap_setCell_other wr ⟨P, 1, none⟩ _ _ (by simpa using fun e => hqP e)).trans HQ.out) e2
            have hbx3 := box_in' (heap_setCell_same wr P 1 _ 36 (.int .i64 (h' : Int)) HBx.out) e2
            have hrow3 := (HW.out.other ⟨P, 1, none⟩ (.int .i64 (h' : Int)) (by simpa using hPg')).below e2
            have hb3 := HB.out.setCell (p := ⟨P, 1, none⟩) (by simp; omega) (.int .i64 (h' : Int))
            have hb4 := hb3.alloc hb3.size (.cells #[.int .i64 l[hh].page, .bool false, .int .i64 l[hh].pins] 123)
            generalize World.alloc _ _ = W4 at e0 e2 hq3 hbx3 hrow3 hb4 ⊢
            have HQ3 := toHid hq3
            have HR3 := toHid hrow3
            have HB4 := toHid hb4
            obtain ⟨s0, s1, s2, s3, s4⟩ := cell2 hq3
            obtain ⟨t0, t1, t2, t3, t4⟩ := cell2 (show W4.heap[P]? = some (.cells #[.slice (some ⟨g, 0, none⟩) n n, .int .i64 (h' : Int)] 36) from hbx3)
            clear hq3 hrow3 hb3 hb4 hbx3 e0 e2 HQ HW HB HBx b0 b1 b2 b3 b4 c0 c1 c2 c3 c4 c5
            go_region
            all_goals
              go_wp2
              rw [Exit.noGoto_ret]
              obtain ⟨r0, r1, -⟩ := cell2 (ring_set (u := .slice (some ⟨g, 0, none⟩) n n) (v := .int .i64 (h' : Int)) HQ3.out)
              refine bodyPost_ret (v := .tuple #[.int .i64 (hh : Int), .agg #[.slice (some ⟨g, 0, none⟩) n n, .int .i64 (h' : Int)], .int .i64 0]) (by simp [results, Try.results53, go_sem, r0, r1]) rfl ?_
              rw [nextR_told hM (i := hh) (l := l) (h' := h') (by rw [hn.out, hhd.out, Int.toNat_natCast, ← HL.out, HE.out, HP.out, HM.out])]
              refine ⟨some ⟨g, 0, none⟩, n, ?_, ?_, ?_, fun y hy => by simp at hy; subst hy; simp only; omega⟩
              · simp only [rgV, rgC]
                rw [HN.out]
              · exact (((HR3.out.other ⟨w.heap.size + 1, 0, none⟩ _ (by simp; omega)).other ⟨w.heap.size + 1, 1, none⟩ _ (by simp; omega)).below (Below.refl _ _).drew).sl
              · exact ((HB4.out.setCell (p := ⟨w.heap.size + 1, 0, none⟩) (by simp) _).setCell (p := ⟨w.heap.size + 1, 1, none⟩) (by simp) _).drew
          · have HP := toHid (lookN_used (n := n) (k := 2 * n - (k + 1)) hhl hp hu)
            rw [hu] at c1
            have hp' : l[hh].pins ≤ 0 := by omega
            clear hp
            go_wp2_with fail
            go_roundw
            case rel =>
              obtain ⟨e0, -, e2⟩ := al1 ((wr.setCell ⟨P, 1, none⟩ (.int .i64 (h' : Int))).setCell ⟨g, hh * 3 + 1, none⟩ (.bool false)) (.cells #[.int .i64 l[hh].page, .bool true, .int .i64 l[hh].pins] 123)
              refine ⟨k + 1, h', l.set hh ⟨l[hh].page, false, l[hh].pins⟩, by omega, hh'n, by simpa using HN.out, by simp, rfl, box_in' ((heap_setCell_other _ _ _ _ (by simpa using fun e => hPg' e)).trans (heap_setCell_same wr P 1 _ 36 _ HBx.out)) e2, box_in' ((heap_setCell_other _ _ _ _ (by simp; omega)).trans ((heap_setCell_other _ _ _ _ (by simpa using fun e => hqP e)).trans HQ.out)) e2, ((HW.out.other ⟨P, 1, none⟩ _ (by simpa using hPg')).setU hh hhl false).below e2, ?_, ?_⟩
              · rw [← HL.out, HE.out, HP.out, HM.out]
              · have hb := (HB.out.setCell (p := ⟨P, 1, none⟩) (by simp; omega) (.int .i64 (h' : Int))).setCell (p := ⟨g, hh * 3 + 1, none⟩) (by simp; omega) (.bool false)
                exact hb.alloc hb.size _
            case measure => first | omega | (simp only [intOf]; omega)
      · obtain rfl : k = 2 * n := by omega
        obtain ⟨q0, q1, q2, q3, q4⟩ := cell2 hq
        have HQ := toHid hq
        have HB := toHid hB
        clear hq hB hbox hrow
        go_wp2
        obtain ⟨r0, r1, -⟩ := cell2 (ring_set (u := .slice none 0 0) (v := .int .i64 0) HQ.out)
        rw [Exit.noGoto_ret]
        refine bodyPost_ret (v := .tuple #[.int .i64 0, .agg #[.slice none 0 0, .int .i64 0], .int .i64 15]) (by simp [results, Try.results53, go_sem, r0, r1]) rfl ?_
        rw [nextR_busy hM (by rw [hn.out, hhd.out, Int.toNat_natCast, ← HL.out]; simp [lookN])]
        exact retN_zero rfl ((HB.out.setCell (p := ⟨w.heap.size + 1, 0, none⟩) (by simp; try omega) _).setCell (p := ⟨w.heap.size + 1, 1, none⟩) (by simp; try omega) _)
  · go_enter Try.func53, Try.ntmps53
    go_wp2_with fail
    go_step3
    go_wp2_with fail
    obtain ⟨i0, i1, i2, i3⟩ := al2 w (.cells (rgC a c r) 36) (.cells #[.slice none 0 0, .int .i64 0] 36)
    generalize World.alloc (World.alloc _ _) _ = W at i0 i1 i2 i3 ⊢
    have hsW := h.below i3
    refine Calls.mono (check_no a c r W hsW hl hM) ?_
    rintro e w1 ⟨rfl, hb1⟩
    have hB1 := below_on i3 hb1
    have k1 := box_in' i1 hb1
    clear i0 i1 i2 i3 hsW h hb1
    obtain ⟨q0, q1, q2, q3, q4⟩ := cell2 k1
    have HB := toHid hB1
    have HQ := toHid k1
    clear hB1 k1
    go_wp2
    obtain ⟨r0, r1, -⟩ := cell2 (ring_set (u := .slice none 0 0) (v := .int .i64 0) HQ.out)
    rw [Exit.noGoto_ret]
    refine bodyPost_ret (v := .tuple #[.int .i64 0, .agg #[.slice none 0 0, .int .i64 0], .int .i64 1]) (by simp [results, Try.results53, go_sem, r0, r1]) rfl ?_
    rw [nextR_arg hM]
    exact retN_zero rfl ((HB.out.setCell (p := ⟨w.heap.size + 1, 0, none⟩) (by simp; try omega) _).setCell (p := ⟨w.heap.size + 1, 1, none⟩) (by simp; try omega) _)

theorem next_any (a : Option Addr) (c : Nat) (r : Rg) (w : World) (h : SlF w a r.fr) (hl : r.fr.length ≤ maxLen) :
    Calls Try.prog 53 #[rgV a c r] w fun e w' => RetN w w' (nextR r) e := (next_new a c r w h hl).mono fun _ _ h => h.n
end Go.Proofs.Ytcloinonhpaojaa.Ck

/-
  New; how many frames aren't pinned; the chapter's example.
-/
namespace Go.Proofs.Ytcloinonhpaojaa.Ck
open Go.RowKit

def newR (n : Int) : Rg × Int := if 1 ≤ n ∧ n ≤ 16 then (⟨List.replicate n.toNat ⟨-1, false, 0⟩, 0⟩, 0) else (.zero, 1)

theorem made_row {w : World} {g m : Nat} {M : Array Value} (hg : w.heap[g]? = some (.cells M 123)) (hM : M = madeCells (Value.agg #[.int .i64 0, .bool false, .int .i64 0]).cells (m * 3)) :
    RowF w g (List.replicate m ⟨0, false, 0⟩) := by
  have hlt := (Array.getElem?_eq_some_iff.mp hg).1
  refine ⟨hlt, fun i hi => ?_⟩
  have hi' : i < m := by simpa using hi
  have e0 : i * 3 % 3 = 0 := by omega
  have e1 : (i * 3 + 1) % 3 = 1 := by omega
  have e2 : (i * 3 + 2) % 3 = 2 := by omega
  have h0 : M[i * 3]? = some (.int .i64 0) := by
    rw [hM, Array.getElem?_eq_getElem (by rw [size_madeCells]; omega)]
    simp [madeCells, Value.cells]
  have h1 : M[i * 3 + 1]? = some (.bool false) := by
    rw [hM, Array.getElem?_eq_getElem (by rw [size_madeCells]; omega)]
    simp [madeCells, Value.cells, e1]
  have h2 : M[i * 3 + 2]? = some (.int .i64 0) := by
    rw [hM, Array.getElem?_eq_getElem (by rw [size_madeCells]; omega)]
    simp [madeCells, Value.cells, e2]
  refine ⟨?_, ?_, ?_, ?_, ?_, ?_⟩ <;> simp [World.cell?, World.frozen?, hg, h0, h1, h2]

set_option maxRecDepth 20000 in
set_option maxHeartbeats 2000000 in
theorem new_any (n : Int) (w : World) : Calls Try.prog 55 #[.int .i64 n] w fun e w' => RetR w w' (newR n) e := by
  obtain ⟨i0, i1, i2⟩ := al1 w (.cells #[.slice none 0 0, .int .i64 0] 36)
  obtain ⟨q0, q1, q2, q3, q4⟩ := cell2 i0
  by_cases h1 : 1 ≤ n
  · by_cases h2 : n ≤ 16
    · obtain ⟨m, rfl⟩ : ∃ m : Nat, n = (m : Int) := ⟨n.toNat, by omega⟩
      have hm1 : 1 ≤ m := by omega
      have hm2 : m ≤ 16 := by omega
      obtain ⟨i9, hi, hz0, hz1, hz2⟩ := info_parts info123
      obtain ⟨M, hMd⟩ : ∃ M, M = madeCells (Value.agg #[.int .i64 0, .bool false, .int .i64 0]).cells (m * 3) := ⟨_, rfl⟩
      have hmk : ∀ W : World, (Instr.makeSlice 34 (.int .i64 (m : Int)) (.int .i64 (m : Int))).run Try.prog W = .ok (.slice (some ⟨W.heap.size, 0, none⟩) m m) (W.alloc (.cells M 123)) := fun W => by
        have h := run_make (P := Try.prog) W 34 123 i9 _ Try.underlying34 hi hz0 .i64 .i64 (m : Int) (m : Int) (by omega) (by omega) (by rw [hz2]; omega) (by omega)
        rw [hz1, Int.toNat_natCast, ← hMd] at h
        exact h
      have HMd := toHid hMd
      clear hMd i0 i1 i2 q0 q1 q2 q3 q4
      go_enter Try.func55, Try.ntmps55
      go_wp2_with fail
      obtain ⟨j0, j1, j2, j3, j4⟩ := al3 w (.cells #[.slice none 0 0, .int .i64 0] 36) (.cells M 123) (.cells #[.slice (some ⟨w.heap.size + 1, 0, none⟩) m m, .int .i64 0] 36)
      generalize World.alloc (World.alloc (World.alloc _ _) _) _ = W at j0 j1 j2 j3 j4 ⊢
      have HR := toHid (made_row j1 HMd.out)
      have HQ := toHid j0
      have HP := toHid j2
      have HB := toHid j4
      clear j0 j1 j2 j3 j4 hmk HMd
      go_loopw [19] (fun i wr => ∃ k : Nat, ∃ l : List Fr, k ≤ m ∧ i = .int .i64 k ∧ l.length = m ∧ (∀ j (hj : j < l.length), l[j] = if j < k then ⟨-1, false, 0⟩ else ⟨0, false, 0⟩) ∧ RowF wr (w.heap.size + 1) l ∧ wr.heap[w.heap.size]? = some (.cells #[.slice none 0 0, .int .i64 0] 36) ∧ wr.heap[w.heap.size + 1 + 1]? = some (.cells #[.slice (some ⟨w.heap.size + 1, 0, none⟩) m m, .int .i64 0] 36) ∧ Below w.heap.size w wr) (fun i _ => m - (intOf i).toNat)
      case atStart => exact ⟨0, _, Nat.zero_le _, rfl, by simp, fun j hj => by simp, HR.out, HQ.out, HP.out, HB.out⟩
      case round =>
        clear HR HQ HP HB
        obtain ⟨k, l, hk, rfl, hln, hall, hrow, hq, hp, hB⟩ := hrel
        have HL := toHid hln
        have HA := toHid hall
        have HR := toHid hrow
        have HQ := toHid hq
        have HP := toHid hp
        have HB := toHid hB
        obtain ⟨p0, p1, p2, p3, p4⟩ := cell2 hp
        obtain ⟨q0, q1, q2, q3, q4⟩ := cell2 hq
        by_cases hlt : k < m
        · have hkl : k < l.length := by have := HL.out; omega
          obtain ⟨c0, c1, c2, c3, c4, c5⟩ := hrow.at_ k hkl
          clear hln hall hrow hq hp hB
          go_wp2_with fail
          go_roundw
          case rel =>
            refine ⟨k + 1, _, by omega, by simp, ?_, fun j hj => ?_, HR.out.setP k hkl (-1), (heap_setCell_other _ _ _ _ (by simp)).trans HQ.out, (heap_setCell_other _ _ _ _ (by simp)).trans HP.out, HB.out.setCell (by simp) _⟩
            · simpa using HL.out
            · simp only [List.length_set] at hj
              have ha := HA.out j hj
              have hb := HA.out k hkl
              rw [List.getElem_set]
              by_cases e : k = j
              · subst e
                simp [hb]
              · rw [if_neg e, ha]
                by_cases e2 : j < k
                · rw [if_pos e2, if_pos (by omega)]
                · rw [if_neg e2, if_neg (by omega)]
          case measure => first | omega | (simp only [intOf]; omega)
        · obtain rfl : k = m := by omega
          have hl : l = List.replicate k ⟨-1, false, 0⟩ := by
            refine List.ext_getElem (by rw [hln, List.length_replicate]) fun j hj _ => ?_
            rw [hall j hj, List.getElem_replicate, if_pos (by omega)]
          have HE := toHid hl
          clear hln hall hrow hq hp hB hl
          go_wp2
          obtain ⟨r0, r1, -⟩ := cell2 (ring_set (u := .slice (some ⟨w.heap.size + 1, 0, none⟩) k k) (v := .int .i64 0) HQ.out)
          refine bodyPost_ret (v := .tuple #[.agg #[.slice (some ⟨w.heap.size + 1, 0, none⟩) k k, .int .i64 0], .int .i64 0]) (by simp [results, Try.results55, go_sem, r0, r1]) rfl ?_
          unfold newR
          rw [if_pos ⟨by omega, by omega⟩, Int.toNat_natCast, ← HE.out]
          refine ⟨some ⟨w.heap.size + 1, 0, none⟩, k, ?_, ?_, (HB.out.setCell (p := ⟨w.heap.size, 0, none⟩) (by simp) _).setCell (p := ⟨w.heap.size, 1, none⟩) (by simp) _, fun y hy => by simp at hy; subst hy; simp only; omega⟩
          · simp only [rgV, rgC]
            rw [HL.out]
          · exact ((HR.out.other ⟨w.heap.size, 0, none⟩ _ (by simp)).other ⟨w.heap.size, 1, none⟩ _ (by simp)).sl
    · go_enter Try.func55, Try.ntmps55
      go_wp2
      obtain ⟨r0, r1, -⟩ := cell2 (al1 w (.cells #[.slice none 0 0, .int .i64 0] 36)).1
      refine bodyPost_ret (v := .tuple #[.agg #[.slice none 0 0, .int .i64 0], .int .i64 1]) (by simp [results, Try.results55, go_sem]) rfl ?_
      unfold newR
      rw [if_neg (by omega)]
      exact retR_zero rfl i2
  · go_enter Try.func55, Try.ntmps55
    go_wp2
    refine bodyPost_ret (v := .tuple #[.agg #[.slice none 0 0, .int .i64 0], .int .i64 1]) (by simp [results, Try.results55, go_sem]) rfl ?_
    unfold newR
    rw [if_neg (by omega)]
    exact retR_zero rfl i2

end Go.Proofs.Ytcloinonhpaojaa.Ck

/-
  Of no program: what rings that may be become.
-/
namespace Go.Proofs.Ytcloinonhpaojaa.Ck

theorem MayR.set {r : Rg} (h : MayR r) (k : Nat) (f : Fr) (hf : mayF f = true) (hp : f.page = -1 ∨ ∀ j (hj : j < r.fr.length), j ≠ k → r.fr[j].page ≠ f.page) : MayR (withR r k f) := by
  refine ⟨by simpa [withR] using h.one, by simpa [withR] using h.most, h.h0, by simpa [withR] using h.h1, ⟨fun j hj _ => ?_, fun i j hi hj hij _ hne => ?_⟩⟩
  · simp only [withR, List.length_set] at hj
    simp only [withR, List.getElem_set]
    split
    · exact hf
    · exact h.up.may j hj hj
  · simp only [withR, List.length_set] at hi hj
    simp only [withR, List.getElem_set] at hne ⊢
    by_cases e1 : k = i
    · rw [if_pos e1, if_neg (by omega)]
      rw [if_neg (by omega)] at hne
      rcases hp with hp | hp
      · rw [hp]; exact fun e => hne e.symm
      · exact fun e => hp j hj (by omega) e.symm
    · rw [if_neg e1]
      by_cases e2 : k = j
      · rw [if_pos e2] at hne ⊢
        rcases hp with hp | hp
        · exact absurd hp hne
        · exact hp i hi (by omega)
      · rw [if_neg e2] at hne ⊢
        exact h.up.apart i j hi hj hij hj hne

theorem MayR.fir {r : Rg} (h : MayR r) {p : Int} {k : Nat} (hk : k < r.fr.length) (hp : r.fr[k].page = p) (hn : p ≠ -1) : ∀ j (hj : j < r.fr.length), j ≠ k → r.fr[j].page ≠ p := by
  intro j hj hjk e
  rcases Nat.lt_or_gt_of_ne hjk with hlt | hlt
  · exact h.up.apart j k hj hk hlt hk (by rw [hp]; exact hn) (by rw [e, hp])
  · exact h.up.apart k j hk hj hlt hj (by rw [e]; exact hn) (by rw [e, hp])

theorem known_iff {p : Int} : knownB p = true ↔ 0 ≤ p ∧ p < 16 := by simp [knownB]

theorem put_may {r : Rg} {p : Int} (h : (putR r p).2 = 0) : MayR (putR r p).1 := by
  by_cases hM : MayR r ∧ knownB p = true
  · obtain ⟨hM, hk⟩ := hM
    have hk' := known_iff.1 hk
    rcases firI_cases r.fr p with ⟨hf, hfn⟩ | ⟨j, hj, hf, -⟩
    · rcases firI_cases r.fr (-1) with ⟨hg, -⟩ | ⟨j, hj, hg, -⟩
      · rw [putR_busy hM hk hf hg] at h
        simp at h
      · rw [putR_ok hM hk hf hg]
        refine hM.set j _ ?_ (.inr fun i hi _ => hfn i hi)
        unfold mayF
        simp only
        rw [if_neg (by omega), hk]
        simp
    · rw [putR_twice hM hk (by rw [hf]; omega)] at h
      simp at h
  · rw [putR_arg hM] at h
    simp at h
theorem drop_may {r : Rg} {p : Int} (h : (dropR r p).2 = 0) : MayR (dropR r p).1 := by
  rcases place_cases r p with ⟨hpl, -⟩ | ⟨hpl, -, -⟩ | ⟨k, hk, hpl, hM, hkn, hf, hpg⟩
  · rw [dropR_err hpl (by decide)] at h; simp at h
  · rw [dropR_err hpl (by decide)] at h; simp at h
  · by_cases hp : 0 < r.fr[k].pins
    · rw [dropR_pin hpl hk hp] at h; simp at h
    · rw [dropR_ok hpl hk hp]
      exact hM.set k _ (by decide) (.inl rfl)
theorem pin_may {r : Rg} {p n : Int} {t : Bool} (h : (pinR r p n t).2 = 0) : MayR (pinR r p n t).1 := by
  rcases place_cases r p with ⟨hpl, -⟩ | ⟨hpl, -, -⟩ | ⟨k, hk, hpl, hM, hkn, hf, hpg⟩
  · rw [pinR_err hpl (by decide)] at h; simp at h
  · rw [pinR_err hpl (by decide)] at h; simp at h
  · have hk' := known_iff.1 hkn
    by_cases hp : n < -r.fr[k].pins ∨ 1048576 - r.fr[k].pins < n
    · rw [pinR_state hpl hk hp] at h; simp at h
    · rw [pinR_ok hpl hk hp]
      refine hM.set k _ ?_ (.inr fun j hj hjk => ?_)
      · unfold mayF
        simp only
        rw [if_neg (by omega), hpg, hkn]
        simp
        omega
      · simp only
        rw [hpg]
        exact hM.fir hk hpg (by omega) j hj hjk
theorem told_may {r : Rg} {i : Nat} {l : List Fr} {h' : Nat} (hM : MayR r) (T : Told r.fr.length r.fr i l h') : MayR ⟨l, (h' : Int)⟩ := by
  have h1 := hM.one
  have hl := T.len
  have hlt : h' < r.fr.length := by rw [T.hand]; exact Nat.mod_lt _ (by omega)
  refine ⟨by simp only; omega, by have := hM.most; simp only; omega, by simp only; omega, by simp only; omega, ⟨fun j hj _ => ?_, fun a b ha hb hab _ hne => ?_⟩⟩
  · simp only at hj ⊢
    have hj' : j < r.fr.length := by omega
    have e1 := T.page j hj'
    have e2 := T.pins j hj'
    have e3 := T.used j hj'
    rw [getD_at hj, getD_at hj'] at e1 e2 e3
    have hm := hM.up.may j hj' hj'
    by_cases hp : l[j].page = -1
    · have h2 := mayF_none hm (by rw [← e1]; exact hp)
      have h3 : l[j].used = false := by
        cases h : l[j].used
        · rfl
        · have := e3 h; rw [h2.1] at this; simp at this
      simp [mayF, hp, h3, e2, h2.2]
    · have h2 := mayF_some hm (by rw [← e1]; exact hp)
      have hk : knownB l[j].page = true := known_iff.2 (by omega)
      simp only [mayF, if_neg hp, hk, e2]
      simp
      omega
  · simp only at ha hb hne ⊢
    have ha' : a < r.fr.length := by omega
    have hb' : b < r.fr.length := by omega
    have e1 := T.page a ha'
    have e2 := T.page b hb'
    rw [getD_at ha, getD_at ha'] at e1
    rw [getD_at hb, getD_at hb'] at e2
    rw [e1, e2]
    rw [e2] at hne
    exact hM.up.apart a b ha' hb' hab hb' hne
theorem next_cases (r : Rg) : (nextR r = (0, .zero, 1) ∧ ¬ MayR r) ∨ (nextR r = (0, .zero, 15) ∧ MayR r ∧ (∀ j (hj : j < r.fr.length), 0 < r.fr[j].pins)) ∨ ∃ (i : Nat) (l : List Fr) (h' : Nat), nextR r = ((i : Int), ⟨l, (h' : Int)⟩, 0) ∧ MayR r ∧ Told r.fr.length r.fr i l h' ∧ lookN r.fr.length (2 * r.fr.length) r.fr r.hand.toNat = some (i, l, h') := by
  by_cases hM : MayR r
  · right
    have h0 := hM.h0
    have h1 := hM.h1
    cases hn : lookN r.fr.length (2 * r.fr.length) r.fr r.hand.toNat with
    | none =>
      refine .inl ⟨nextR_busy hM hn, hM, fun j hj => ?_⟩
      refine Classical.byContradiction fun hp => ?_
      obtain ⟨x, hx⟩ := look_some (2 * r.fr.length) r.fr r.hand.toNat j rfl (by omega) hj hp (by unfold dst; split <;> omega)
      rw [hn] at hx
      simp at hx
    | some x =>
      obtain ⟨i, l, h'⟩ := x
      exact .inr ⟨i, l, h', nextR_told hM hn, hM, look_told _ _ _ rfl (by omega) _ _ _ hn, rfl⟩
  · exact .inl ⟨nextR_arg hM, hM⟩
theorem next_may {r : Rg} (h : (nextR r).2.2 = 0) : MayR (nextR r).2.1 := by
  rcases next_cases r with ⟨e, -⟩ | ⟨e, -, -⟩ | ⟨i, l, h', e, hM, T, -⟩
  · rw [e] at h; simp at h
  · rw [e] at h; simp at h
  · rw [e]; exact told_may hM T

theorem newR_yes {m : Nat} (h1 : 1 ≤ m) (h2 : m ≤ 16) : newR (m : Int) = (⟨List.replicate m ⟨-1, false, 0⟩, 0⟩, 0) := by
  unfold newR
  rw [if_pos ⟨by omega, by omega⟩, Int.toNat_natCast]
theorem newR_no {n : Int} (h : ¬ (1 ≤ n ∧ n ≤ 16)) : newR n = (.zero, 1) := by
  unfold newR
  rw [if_neg h]
theorem new_may {m : Nat} (h1 : 1 ≤ m) (h2 : m ≤ 16) : MayR ⟨List.replicate m ⟨-1, false, 0⟩, 0⟩ := by
  refine ⟨by simpa using h1, by simpa using h2, by simp, by simp; omega, ⟨fun j hj _ => ?_, fun i j hi hj _ _ hne => ?_⟩⟩
  · simp only [List.getElem_replicate]
    decide
  · simp only [List.getElem_replicate] at hne
    simp at hne
theorem zero_may : ¬ MayR .zero := fun h => by have := h.one; simp [Rg.zero] at this
end Go.Proofs.Ytcloinonhpaojaa.Ck
