/-
  alike (13): a book tells what the document's does.
-/
import Derived.Test.YtdlanenbbmnbhaaEh
import Derived.Test.YtdlanenbbmnbhaaEe
import Derived.Test.YtdlanenbbmnbhaaCj
import Derived.Test.YtdlanenbbmnbhaaCs
import Derived.Test.YtdlanenbbmnbhaaMb
import Derived.Deep.RegionHeld3
import Derived.Deep.DeepCutAuto
import Derived.Deep.CutBlock
namespace Go.Proofs.Ytdlanenbbmnbhaa
open Go.RowKit

def hasD (l : List Lf) (k : Int) (n : Nat) : List Int := if 0 < k then hasN l k n else []
theorem hasD_zero (l : List Lf) (k : Int) : hasD l k 0 = [] := by unfold hasD; split <;> rfl
theorem hasN_nine {l : List Lf} (h : BkOk l) : ∀ n, n ≤ l.length → hasN l 9 n = []
  | 0, _ => rfl
  | n + 1, hn => by
    rw [hasN_at (by omega), hasN_nine h n (by omega), if_neg]
    have := (h.at (i := n) (by omega)).own8
    omega
theorem hasD_all {l : List Lf} (h : BkOk l) {k : Int} (h0 : 0 ≤ k) (h9 : k ≤ 9) : hasD l k l.length = hasL l k := by
  unfold hasD hasL
  by_cases e : instB k = true
  · rw [if_pos e, if_pos (by have := inst_iff.1 e; omega)]
  · rw [if_neg e]
    have h2 : k = 0 ∨ k = 9 := by rw [inst_iff] at e; omega
    rcases h2 with rfl | rfl
    · rfl
    · rw [if_pos (by omega), hasN_nine h _ (Nat.le_refl _)]

/-- What a page of the document's tells, and lies as. -/
theorem same_row {W : World} {a b : Option Addr} {l : List Int} (c d : Nat) (h : SlI W a l) (hm : SlI W b l) (hl : l.length ≤ 100) : Calls Try.prog 24 #[.slice a l.length c, .slice b l.length d] W fun e w' => e = .returned (.bool true) ∧ Below W.heap.size W w' := by
  have := same24 (c := c) (d := d) h hm (by omega) (by omega)
  simpa using this

set_option maxHeartbeats 4000000 in
theorem alike13 (p q : Nat) (l : List Lf) {w : World} {v : Value} {L : List Pl} (hb : Bk w p q l) (hok : BkOk l) (h : Dl w v L) (hp : pls L = l) :
    Calls Try.prog 13 #[.pointer (some ⟨p, 0, none⟩), v] w fun e w' => e = .returned (.bool true) ∧ Below w.heap.size w w' := by
  obtain ⟨va, vc, rfl⟩ := own_shape h.own
  have HB := toHid hb
  have HOk := toHid hok
  have HD := toHid h
  have HP := toHid hp
  have hl : L.length = l.length := by rw [← hp, pls_len]
  have HM := toHid hb.most
  clear hb hok h hp
  rw [hl]
  have HL := toHid hl
  clear hl
  go_enter Try.func13, Try.ntmps13
  go_wp2_with fail
  go_loopw [5] (fun i W => ∃ n : Nat, n ≤ l.length + 2 ∧ i = .int .i64 ((n : Int) - 1) ∧ Below w.heap.size w W) (fun i _ => l.length + 2 - (intOf i + 1).toNat)
  case atStart => exact ⟨0, by omega, rfl, Below.refl _ _⟩
  case round =>
    obtain ⟨n, hn, rfl, hbe⟩ := hrel
    have HBe := toHid hbe
    by_cases hlt : n < l.length + 2
    · have hm := HM.out
      have hle : ((n : Int) - 1) ≤ (l.length : Int) := by omega
      obtain ⟨I, hI⟩ : ∃ I : Int, (n : Int) - 1 = I := ⟨_, rfl⟩
      have HI := toHid hI
      rw [hI] at hle ⊢
      have hwr : IntKind.i64.wrap (I + 1) = (n : Int) := by rw [IntKind.wrap_i64]; omega
      by_cases hin : 0 ≤ I ∧ I < (l.length : Int)
      · obtain ⟨i, rfl⟩ := Int.eq_ofNat_of_zero_le hin.1
        have hi : i < L.length := by have := HL.out; omega
        have hlf : lfAt l (i : Int) = L[i].x := by
          rw [lfAt_yes (by omega), ← pls_at hi]
          congr 1
          exact HP.out.symm
        have hlx : LfOk L[i].x := by
          rw [← hlf, lfAt_yes (by omega)]
          exact HOk.out.at (by omega)
        obtain ⟨g, c, hv, hg, hc, ho, c0, c1, c2, c3, c4⟩ := (HD.out.below hbe).at hi
        cases hv
        generalize L[i] = t at *
        obtain ⟨x, a, d⟩ := t
        obtain ⟨fa, ow, lo, ca, ws⟩ := x
        dsimp only at c0 c1 c2 c3 c4 hlf hlx
        have hin1 := hin.1
        have hin2 := hin.2
        clear hin
        have HT0 := toHid (show PlOk wr ⟨⟨fa, ow, lo, ca, ws⟩, a, d⟩ from ho)
        have HX0 := toHid (show lfAt l (i : Int) = (⟨⟨fa, ow, lo, ca, ws⟩, a, d⟩ : Pl).x from hlf)
        have HOw := toHid (fun W (hW : Bk W p q l) => owner_any p q l (i : Int) W hW)
        have HLo := toHid (fun W (hW : Bk W p q l) => lost_any p q l (i : Int) W hW)
        have HFa := toHid (fun W (hW : Bk W p q l) => fast_any p q l (i : Int) W hW)
        have HWa := toHid (fun W (hW : Bk W p q l) => waits_any p q l (i : Int) W hW HOk.out)
        rw [HX0.out] at HOw HLo HFa HWa
        have hlen8 : (⟨⟨fa, ow, lo, ca, ws⟩, a, d⟩ : Pl).x.ws.length ≤ 100 := by have := hlx.len; dsimp only at this ⊢; omega
        obtain ⟨w1, hw1⟩ : ∃ w1, w1 = wr.alloc (.cells (plA ⟨⟨fa, ow, lo, ca, ws⟩, a, d⟩) 65) := ⟨_, rfl⟩
        have hb1 : Below wr.heap.size wr w1 := hw1 ▸ (Below.refl _ _).alloc (Nat.le_refl _) _
        have hk1 : w1.heap[wr.heap.size]? = some (.cells (plA ⟨⟨fa, ow, lo, ca, ws⟩, a, d⟩) 65) := hw1 ▸ heap_alloc_new wr _
        have HB1 := toHid hb1
        have HK1 := toHid hk1
        have HBk1 := toHid ((HB.out.below hbe).below hb1)
        simp only [plA] at hw1
        try simp only [List.length_nil] at hw1
        have HW1 := toHid hw1
        clear hb1 hk1 hw1
        dsimp only at HOw HLo HFa HWa hlen8
        go_upto_region 7 with fail
        rw [← HW1.out]
        have HT := toHid (show ∀ W, Below w1.heap.size w1 W → (W.cell? ⟨wr.heap.size, 0, none⟩ = some (.int .i64 (⟨⟨fa, ow, lo, ca, ws⟩, a, d⟩ : Pl).x.owner) ∧ W.cell? ⟨wr.heap.size, 1, none⟩ = some (.bool (⟨⟨fa, ow, lo, ca, ws⟩, a, d⟩ : Pl).x.lost) ∧ W.cell? ⟨wr.heap.size, 3, none⟩ = some (.bool (⟨⟨fa, ow, lo, ca, ws⟩, a, d⟩ : Pl).x.fast) ∧ W.cell? ⟨wr.heap.size, 4, none⟩ = some (.slice (⟨⟨fa, ow, lo, ca, ws⟩, a, d⟩ : Pl).a (⟨⟨fa, ow, lo, ca, ws⟩, a, d⟩ : Pl).x.ws.length (⟨⟨fa, ow, lo, ca, ws⟩, a, d⟩ : Pl).c) ∧ Below w1.heap.size w1 W) from fun W hW => by
          obtain ⟨z0, z1, z2, z3, z4⟩ := cells5 ((hW.block _ (some_lt HK1.out)).trans HK1.out)
          exact ⟨z0, z1, z3, z4, hW⟩)
        dsimp only at HT
        try simp only [List.length_nil] at HT
        have HSm := toHid (show ∀ (W : World) (a2 : Option Addr) (c2 : Nat), Below w1.heap.size w1 W → SlI W a2 ws → Calls Try.prog 24 #[.slice a2 ws.length c2, .slice a ws.length d] W fun e w' => e = .returned (.bool true) ∧ Below W.heap.size W w' from fun W a2 c2 hW h2 => same_row (W := W) (a := a2) (b := a) (l := ws) c2 d h2 (HT0.out.row.below (HB1.out.trans (hW.mono HB1.out.size))) hlen8)
        have HWs := toHid (show ∀ W, Bk W p q l → Calls Try.prog 21 #[.pointer (some ⟨p, 0, none⟩), .int .i64 (i : Int)] W fun e w' => (∃ a2 c2, e = .returned (.slice a2 ws.length c2) ∧ SlI w' a2 ws) ∧ Below W.heap.size W w' from fun W hW => Calls.mono (HWa.out W hW) (by
            rintro e wn ⟨⟨v, rfl, a2, c2, rfl, hs2, -, -⟩, hb2⟩; exact ⟨⟨a2, c2, rfl, hs2⟩, hb2⟩))
        clear HWa
        have hbd : Below w1.heap.size w1 w1.drew := (Below.refl _ _).drew
        have hs0 := HT.out _ hbd
        go_region_held3 (fun W => W.cell? ⟨wr.heap.size, 0, none⟩ = some (.int .i64 ow) ∧ W.cell? ⟨wr.heap.size, 1, none⟩ = some (.bool lo) ∧ W.cell? ⟨wr.heap.size, 3, none⟩ = some (.bool fa) ∧ W.cell? ⟨wr.heap.size, 4, none⟩ = some (.slice a ws.length d) ∧ Below w1.heap.size w1 W) (first | with_reducible assumption | (with_reducible refine HT.out _ ?_; with_reducible assumption)) (first
          | (go_at_call 19; refine Calls.mono (HOw.out _ (HBk1.out.below hbd)) ?_; rintro e wn ⟨rfl, hw⟩; obtain rfl := hw)
          | (go_at_call 20; refine Calls.mono (HLo.out _ (HBk1.out.below hbd)) ?_; rintro e wn ⟨rfl, hw⟩; obtain rfl := hw)
          | (go_at_call 23; refine Calls.mono (HFa.out _ (HBk1.out.below hbd)) ?_; rintro e wn ⟨rfl, hw⟩; obtain rfl := hw)
          | (go_at_call 21; refine Calls.mono (HWs.out _ (HBk1.out.below hbd)) ?_; rintro e wn ⟨⟨a2, c2, rfl, hs2⟩, hb2⟩; have HS2 := toHid hs2; have hbn : Below w1.heap.size w1 wn := hbd.trans hb2; clear hs2 hb2)
          | (go_at_call 24; refine Calls.mono (HSm.out _ _ _ hbn HS2.out) ?_; rintro e wm ⟨rfl, hb3⟩; have hbm : Below w1.heap.size w1 wm := hbn.trans (hb3.mono hbn.size); clear hb3))
        all_goals
          go_wp2
          go_roundw
          case rel => exact ⟨n + 1, by omega, by rw [show ((n + 1 : Nat) : Int) - 1 = (n : Int) by omega], HBe.out.trans ((HB1.out.trans (hbm.mono HB1.out.size)).mono HBe.out.size)⟩
          case measure => have := HI.out; simp only [intOf]; omega
      · have hin2 : I < 0 ∨ (0 ≤ I ∧ ¬ I < (l.length : Int)) := by omega
        clear hin
        rcases hin2 with h1 | ⟨h1, h2⟩
        · skip
          have HT0 := toHid (show PlOk wr ⟨⟨false, 0, false, false, []⟩, none, 0⟩ from ⟨SlI.nil _ _, by simp, fun _ => rfl⟩)
          have HX0 := toHid (show lfAt l I = (⟨⟨false, 0, false, false, []⟩, none, 0⟩ : Pl).x from lfAt_no (by omega))
          have HOw := toHid (fun W (hW : Bk W p q l) => owner_any p q l I W hW)
          have HLo := toHid (fun W (hW : Bk W p q l) => lost_any p q l I W hW)
          have HFa := toHid (fun W (hW : Bk W p q l) => fast_any p q l I W hW)
          have HWa := toHid (fun W (hW : Bk W p q l) => waits_any p q l I W hW HOk.out)
          rw [HX0.out] at HOw HLo HFa HWa
          have hlen8 : (⟨⟨false, 0, false, false, []⟩, none, 0⟩ : Pl).x.ws.length ≤ 100 := by simp
          obtain ⟨w1, hw1⟩ : ∃ w1, w1 = wr.alloc (.cells (plA ⟨⟨false, 0, false, false, []⟩, none, 0⟩) 65) := ⟨_, rfl⟩
          have hb1 : Below wr.heap.size wr w1 := hw1 ▸ (Below.refl _ _).alloc (Nat.le_refl _) _
          have hk1 : w1.heap[wr.heap.size]? = some (.cells (plA ⟨⟨false, 0, false, false, []⟩, none, 0⟩) 65) := hw1 ▸ heap_alloc_new wr _
          have HB1 := toHid hb1
          have HK1 := toHid hk1
          have HBk1 := toHid ((HB.out.below hbe).below hb1)
          simp only [plA] at hw1
          try simp only [List.length_nil] at hw1
          have HW1 := toHid hw1
          clear hb1 hk1 hw1
          dsimp only at HOw HLo HFa HWa hlen8
          go_upto_region 7 with fail
          rw [← HW1.out]
          have HT := toHid (show ∀ W, Below w1.heap.size w1 W → (W.cell? ⟨wr.heap.size, 0, none⟩ = some (.int .i64 (⟨⟨false, 0, false, false, []⟩, none, 0⟩ : Pl).x.owner) ∧ W.cell? ⟨wr.heap.size, 1, none⟩ = some (.bool (⟨⟨false, 0, false, false, []⟩, none, 0⟩ : Pl).x.lost) ∧ W.cell? ⟨wr.heap.size, 3, none⟩ = some (.bool (⟨⟨false, 0, false, false, []⟩, none, 0⟩ : Pl).x.fast) ∧ W.cell? ⟨wr.heap.size, 4, none⟩ = some (.slice (⟨⟨false, 0, false, false, []⟩, none, 0⟩ : Pl).a (⟨⟨false, 0, false, false, []⟩, none, 0⟩ : Pl).x.ws.length (⟨⟨false, 0, false, false, []⟩, none, 0⟩ : Pl).c) ∧ Below w1.heap.size w1 W) from fun W hW => by
            obtain ⟨z0, z1, z2, z3, z4⟩ := cells5 ((hW.block _ (some_lt HK1.out)).trans HK1.out)
            exact ⟨z0, z1, z3, z4, hW⟩)
          dsimp only at HT
          try simp only [List.length_nil] at HT
          have HSm := toHid (show ∀ (W : World) (a2 : Option Addr) (c2 : Nat), Below w1.heap.size w1 W → SlI W a2 ([] : List Int) → Calls Try.prog 24 #[.slice a2 0 c2, .slice none 0 0] W fun e w' => e = .returned (.bool true) ∧ Below W.heap.size W w' from fun W a2 c2 hW h2 => by
            have h9 := same_row (W := W) (a := a2) (b := none) (l := ([] : List Int)) c2 0 h2 (SlI.nil _ _) (by simp)
            simp only [List.length_nil] at h9
            exact h9)
          have HWs := toHid (show ∀ W, Bk W p q l → Calls Try.prog 21 #[.pointer (some ⟨p, 0, none⟩), .int .i64 I] W fun e w' => (∃ a2 c2, e = .returned (.slice a2 0 c2) ∧ SlI w' a2 ([] : List Int)) ∧ Below W.heap.size W w' from fun W hW => Calls.mono (HWa.out W hW) (by
            rintro e wn ⟨⟨v, rfl, a2, c2, rfl, hs2, -, -⟩, hb2⟩; exact ⟨⟨a2, c2, rfl, hs2⟩, hb2⟩))
          clear HWa
          have hbd : Below w1.heap.size w1 w1.drew := (Below.refl _ _).drew
          have hs0 := HT.out _ hbd
          go_region_held3 (fun W => W.cell? ⟨wr.heap.size, 0, none⟩ = some (.int .i64 0) ∧ W.cell? ⟨wr.heap.size, 1, none⟩ = some (.bool false) ∧ W.cell? ⟨wr.heap.size, 3, none⟩ = some (.bool false) ∧ W.cell? ⟨wr.heap.size, 4, none⟩ = some (.slice none 0 0) ∧ Below w1.heap.size w1 W) (first | with_reducible assumption | (with_reducible refine HT.out _ ?_; with_reducible assumption)) (first
            | (go_at_call 19; refine Calls.mono (HOw.out _ (HBk1.out.below hbd)) ?_; rintro e wn ⟨rfl, hw⟩; obtain rfl := hw)
            | (go_at_call 20; refine Calls.mono (HLo.out _ (HBk1.out.below hbd)) ?_; rintro e wn ⟨rfl, hw⟩; obtain rfl := hw)
            | (go_at_call 23; refine Calls.mono (HFa.out _ (HBk1.out.below hbd)) ?_; rintro e wn ⟨rfl, hw⟩; obtain rfl := hw)
            | (go_at_call 21; refine Calls.mono (HWs.out _ (HBk1.out.below hbd)) ?_; rintro e wn ⟨⟨a2, c2, rfl, hs2⟩, hb2⟩; have HS2 := toHid hs2; have hbn : Below w1.heap.size w1 wn := hbd.trans hb2; clear hs2 hb2)
            | (go_at_call 24; refine Calls.mono (HSm.out _ _ _ hbn HS2.out) ?_; rintro e wm ⟨rfl, hb3⟩; have hbm : Below w1.heap.size w1 wm := hbn.trans (hb3.mono hbn.size); clear hb3))
          all_goals
            go_wp2
            go_roundw
            case rel => exact ⟨n + 1, by omega, by rw [show ((n + 1 : Nat) : Int) - 1 = (n : Int) by omega], HBe.out.trans ((HB1.out.trans (hbm.mono HB1.out.size)).mono HBe.out.size)⟩
            case measure => have := HI.out; simp only [intOf]; omega
        · skip
          have HT0 := toHid (show PlOk wr ⟨⟨false, 0, false, false, []⟩, none, 0⟩ from ⟨SlI.nil _ _, by simp, fun _ => rfl⟩)
          have HX0 := toHid (show lfAt l I = (⟨⟨false, 0, false, false, []⟩, none, 0⟩ : Pl).x from lfAt_no (by omega))
          have HOw := toHid (fun W (hW : Bk W p q l) => owner_any p q l I W hW)
          have HLo := toHid (fun W (hW : Bk W p q l) => lost_any p q l I W hW)
          have HFa := toHid (fun W (hW : Bk W p q l) => fast_any p q l I W hW)
          have HWa := toHid (fun W (hW : Bk W p q l) => waits_any p q l I W hW HOk.out)
          rw [HX0.out] at HOw HLo HFa HWa
          have hlen8 : (⟨⟨false, 0, false, false, []⟩, none, 0⟩ : Pl).x.ws.length ≤ 100 := by simp
          obtain ⟨w1, hw1⟩ : ∃ w1, w1 = wr.alloc (.cells (plA ⟨⟨false, 0, false, false, []⟩, none, 0⟩) 65) := ⟨_, rfl⟩
          have hb1 : Below wr.heap.size wr w1 := hw1 ▸ (Below.refl _ _).alloc (Nat.le_refl _) _
          have hk1 : w1.heap[wr.heap.size]? = some (.cells (plA ⟨⟨false, 0, false, false, []⟩, none, 0⟩) 65) := hw1 ▸ heap_alloc_new wr _
          have HB1 := toHid hb1
          have HK1 := toHid hk1
          have HBk1 := toHid ((HB.out.below hbe).below hb1)
          simp only [plA] at hw1
          try simp only [List.length_nil] at hw1
          have HW1 := toHid hw1
          clear hb1 hk1 hw1
          dsimp only at HOw HLo HFa HWa hlen8
          go_upto_region 7 with fail
          rw [← HW1.out]
          have HT := toHid (show ∀ W, Below w1.heap.size w1 W → (W.cell? ⟨wr.heap.size, 0, none⟩ = some (.int .i64 (⟨⟨false, 0, false, false, []⟩, none, 0⟩ : Pl).x.owner) ∧ W.cell? ⟨wr.heap.size, 1, none⟩ = some (.bool (⟨⟨false, 0, false, false, []⟩, none, 0⟩ : Pl).x.lost) ∧ W.cell? ⟨wr.heap.size, 3, none⟩ = some (.bool (⟨⟨false, 0, false, false, []⟩, none, 0⟩ : Pl).x.fast) ∧ W.cell? ⟨wr.heap.size, 4, none⟩ = some (.slice (⟨⟨false, 0, false, false, []⟩, none, 0⟩ : Pl).a (⟨⟨false, 0, false, false, []⟩, none, 0⟩ : Pl).x.ws.length (⟨⟨false, 0, false, false, []⟩, none, 0⟩ : Pl).c) ∧ Below w1.heap.size w1 W) from fun W hW => by
            obtain ⟨z0, z1, z2, z3, z4⟩ := cells5 ((hW.block _ (some_lt HK1.out)).trans HK1.out)
            exact ⟨z0, z1, z3, z4, hW⟩)
          dsimp only at HT
          try simp only [List.length_nil] at HT
          have HSm := toHid (show ∀ (W : World) (a2 : Option Addr) (c2 : Nat), Below w1.heap.size w1 W → SlI W a2 ([] : List Int) → Calls Try.prog 24 #[.slice a2 0 c2, .slice none 0 0] W fun e w' => e = .returned (.bool true) ∧ Below W.heap.size W w' from fun W a2 c2 hW h2 => by
            have h9 := same_row (W := W) (a := a2) (b := none) (l := ([] : List Int)) c2 0 h2 (SlI.nil _ _) (by simp)
            simp only [List.length_nil] at h9
            exact h9)
          have HWs := toHid (show ∀ W, Bk W p q l → Calls Try.prog 21 #[.pointer (some ⟨p, 0, none⟩), .int .i64 I] W fun e w' => (∃ a2 c2, e = .returned (.slice a2 0 c2) ∧ SlI w' a2 ([] : List Int)) ∧ Below W.heap.size W w' from fun W hW => Calls.mono (HWa.out W hW) (by
            rintro e wn ⟨⟨v, rfl, a2, c2, rfl, hs2, -, -⟩, hb2⟩; exact ⟨⟨a2, c2, rfl, hs2⟩, hb2⟩))
          clear HWa
          have hbd : Below w1.heap.size w1 w1.drew := (Below.refl _ _).drew
          have hs0 := HT.out _ hbd
          go_region_held3 (fun W => W.cell? ⟨wr.heap.size, 0, none⟩ = some (.int .i64 0) ∧ W.cell? ⟨wr.heap.size, 1, none⟩ = some (.bool false) ∧ W.cell? ⟨wr.heap.size, 3, none⟩ = some (.bool false) ∧ W.cell? ⟨wr.heap.size, 4, none⟩ = some (.slice none 0 0) ∧ Below w1.heap.size w1 W) (first | with_reducible assumption | (with_reducible refine HT.out _ ?_; with_reducible assumption)) (first
            | (go_at_call 19; refine Calls.mono (HOw.out _ (HBk1.out.below hbd)) ?_; rintro e wn ⟨rfl, hw⟩; obtain rfl := hw)
            | (go_at_call 20; refine Calls.mono (HLo.out _ (HBk1.out.below hbd)) ?_; rintro e wn ⟨rfl, hw⟩; obtain rfl := hw)
            | (go_at_call 23; refine Calls.mono (HFa.out _ (HBk1.out.below hbd)) ?_; rintro e wn ⟨rfl, hw⟩; obtain rfl := hw)
            | (go_at_call 21; refine Calls.mono (HWs.out _ (HBk1.out.below hbd)) ?_; rintro e wn ⟨⟨a2, c2, rfl, hs2⟩, hb2⟩; have HS2 := toHid hs2; have hbn : Below w1.heap.size w1 wn := hbd.trans hb2; clear hs2 hb2)
            | (go_at_call 24; refine Calls.mono (HSm.out _ _ _ hbn HS2.out) ?_; rintro e wm ⟨rfl, hb3⟩; have hbm : Below w1.heap.size w1 wm := hbn.trans (hb3.mono hbn.size); clear hb3))
          all_goals
            go_wp2
            go_roundw
            case rel => exact ⟨n + 1, by omega, by rw [show ((n + 1 : Nat) : Int) - 1 = (n : Int) by omega], HBe.out.trans ((HB1.out.trans (hbm.mono HB1.out.size)).mono HBe.out.size)⟩
            case measure => have := HI.out; simp only [intOf]; omega
    · have hle : ¬ ((n : Int) - 1) ≤ (l.length : Int) := by omega
      have hm := HM.out
      have HAll := toHid (fun (k : Int) (h0 : 0 ≤ k) (h9 : k ≤ 9) => hasD_all HOk.out h0 h9)
      clear hlt hbe
      go_wp2_with fail
      go_loopw [7] (fun i W => ∃ k : Nat, k ≤ 10 ∧ i = .int .i64 k ∧ Below w.heap.size w W) (fun i _ => 10 - (intOf i).toNat)
      case atStart => exact ⟨0, by omega, rfl, HBe.out⟩
      case round =>
        clear HBe
        obtain ⟨k, hk, rfl, hbe⟩ := hrel
        have HBe := toHid hbe
        by_cases hlt : k < 10
        · have hk9 : (k : Int) ≤ 9 := by omega
          have HA := toHid (HAll.out (k : Int) (by omega) hk9)
          generalize hwo : wr = wo at *
          clear hwo wr
          have hszo := hbe.size
          go_upto_block 4 with fail
          go_cut [8] (fun u W => ∃ a3 d3, u = .slice a3 (hasL l (k : Int)).length d3 ∧ SlI W a3 (hasL l (k : Int)) ∧ Below wo.heap.size wo W)
          case first =>
            go_wp2_with fail
            go_loopw [8, 9] (fun u kk W => ∃ j : Nat, j ≤ l.length ∧ kk = .int .i64 j ∧ W.ownsRow wo.heap.size 3 1 u (hasD l k j).length (inVs (hasD l k j)) ∧ Below wo.heap.size wo W) (fun _ kk _ => l.length - (intOf kk).toNat)
            case atStart => exact ⟨0, Nat.zero_le _, rfl, by rw [hasD_zero]; exact World.ownsRow_nil _ _ _ _, Below.refl _ _⟩
            case round =>
              obtain ⟨j, hj, rfl, hown, hbl⟩ := hrel
              have HOw := toHid hown
              have HBl := toHid hbl
              have hsz := hbl.size
              obtain ⟨ra, rc, rfl⟩ := own_shape hown
              by_cases hjl : j < l.length
              · have hi : j < L.length := by have := HL.out; omega
                have hlx : L[j].x = l[j] := by
                  rw [← pls_at hi]
                  congr 1
                  all_goals exact HP.out
                obtain ⟨g, c, hv, hg, hc, -, c0, -, -, -, -⟩ := (HD.out.below (HBe.out.trans (hbl.mono HBe.out.size))).at hi
                cases hv
                rw [hlx] at c0
                have HSn := toHid (hasN_at (k := (k : Int)) hjl)
                generalize l[j] = y at *
                have hlen := hasN_len l (k : Int) j
                have HLe := toHid hlen
                clear hown hbl hlx hlen
                by_cases hk0 : k = 0
                · subst hk0
                  have HSz := toHid (show hasD l ((0 : Nat) : Int) (j + 1) = hasD l ((0 : Nat) : Int) j by simp [hasD])
                  go_wp2
                  go_roundw
                  case rel => exact ⟨j + 1, by omega, by simp, by rw [HSz.out]; exact HOw.out, HBl.out⟩
                  case measure => simp only [intOf]; omega
                · have hkp : (0 : Int) < (k : Int) := by omega
                  have HDe := toHid (fun m => show hasD l (k : Int) m = hasN l (k : Int) m by unfold hasD; rw [if_pos hkp])
                  by_cases how : y.owner = (k : Int)
                  · have HSz := toHid (show hasD l (k : Int) (j + 1) = hasD l (k : Int) j ++ [(j : Int)] by rw [HDe.out, HDe.out, HSn.out, if_pos how])
                    rw [how] at c0
                    go_wp2_with (at_builtin; go_must (
                      obtain ⟨a3, d3, w3, hr, r1, r2⟩ := run_in1 wr 42 wo.heap.size (.slice ra (hasD l (k : Int) j).length rc) (hasD l (k : Int) j) _ rfl HOw.out hsz (j : Int) (by have := HLe.out; have := HDe.out j; rw [this]; have := HM.out; omega)
                      refine wpList_of_run rfl (.tmp 81) (.tmp 83) 42 rfl rfl rfl hr ?_
                      have HR3 := toHid r1
                      have HB3 := toHid (HBl.out.trans (r2.mono (Nat.le_refl _)))
                      clear r1 r2 hr))
                    go_roundw
                    case rel => exact ⟨j + 1, by omega, by simp, by rw [HSz.out, List.length_append]; exact HR3.out, HB3.out⟩
                    case measure => simp only [intOf]; omega
                  · have HSz := toHid (show hasD l (k : Int) (j + 1) = hasD l (k : Int) j by rw [HDe.out, HDe.out, HSn.out, if_neg how])
                    have hob : (y.owner == (k : Int)) = false := by simpa using how
                    go_wp2
                    go_roundw
                    case rel => exact ⟨j + 1, by omega, by simp, by rw [HSz.out]; exact HOw.out, HBl.out⟩
                    case measure => simp only [intOf]; omega
              · obtain rfl : j = l.length := by omega
                have HX := toHid (own_sl hown rfl)
                rw [HA.out] at HX
                simp only [HA.out]
                clear hown hbl
                go_wp2
                go_meet
                case rel => exact ⟨_, _, rfl, HX.out.1, HBl.out⟩
          case rest =>
            obtain ⟨a3, d3, rfl, hsl, hbl⟩ := hcut
            have HS := toHid hsl
            have hlow := HBe.out.trans (hbl.mono HBe.out.size)
            have HLo := toHid hlow
            have HH := toHid (has_any p q l (k : Int) wc (HB.out.below hlow))
            have hlenH := hasL_len l (k : Int)
            have hm16 := HM.out
            clear hsl hbl hbe hlow HA
            go_wp2_with fail
            refine Calls.mono HH.out ?_
            rintro e w5 ⟨⟨a5, c5, rfl, hs5, -⟩, hb5⟩
            have HC := toHid (same_row (l := hasL l (k : Int)) c5 d3 hs5 (HS.out.below hb5) (by omega))
            have HL5 := toHid (HLo.out.trans (hb5.mono HLo.out.size))
            clear HH hs5 hb5
            go_wp2_with fail
            refine Calls.mono HC.out ?_
            rintro e w6 ⟨rfl, hb6⟩
            have HL6 := toHid (HL5.out.trans (hb6.mono HL5.out.size))
            clear HC hb6
            go_wp2
            go_roundw
            case rel => exact ⟨k + 1, by omega, by simp, HL6.out⟩
            case measure => simp only [intOf]; omega
        · obtain rfl : k = 10 := by omega
          go_wp2
          go_ret
          exact ⟨rfl, HBe.out⟩
end Go.Proofs.Ytdlanenbbmnbhaa
