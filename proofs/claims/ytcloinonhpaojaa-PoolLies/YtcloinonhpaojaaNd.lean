/-
  The slots of a page's own bytes.
-/
import Derived.Test.YtcloinonhpaojaaNb
import Derived.Test.YtcloinonhpaojaaNc
import Derived.Deep.RegionHeld3
import Derived.Deep.QuietTactic
import Derived.BigQuiet
namespace Go.Proofs.Ytcloinonhpaojaa
open Go.RowKit

theorem below_grown {w W W2 : World} (hb : Below w.heap.size w W) (hgr : W.grownBy W2 (some w.heap.size)) : Below w.heap.size w W2 :=
  hb.trans ((Touch.grown (Touch.refl W w.heap.size (some w.heap.size)) hgr).below (Nat.le_refl _) (fun k hk => by simp at hk; omega) hb.size)
theorem own_on {W W' : World} {B : Nat} {e : TypeId} {size : Nat} {v : Value} {n : Nat} {xs : List Value} (h : W.ownsRow B e size v n xs) (hb : Below W.heap.size W W') : W'.ownsRow B e size v n xs :=
  ownsRow_below h hb (fun k hk => ownsRow_lt h k hk)

theorem slC_take {W : World} {B : Nat} {a : Option Addr} {c k : Nat} {l : List Cl} (h : W.ownsRow B 98 3 (.slice a k c) k (cellsV (l.take k))) (hk : k ≤ l.length) : SlC W a (l.take k) := by
  have e : (l.take k).length = k := by rw [List.length_take]; omega
  exact (slC_of_own (n := k) (c := c) (B := B) (by rw [e]; exact h)).1

set_option maxRecDepth 20000 in
set_option maxHeartbeats 4000000 in
theorem slotsOf_page (g o C id lsn : Nat) (l : List Cl) (w : World) (h : SlB w (some ⟨g, o, none⟩) (pageB id lsn l)) (hg : GoodL l) (hC : 512 ≤ C) :
    Calls Try.prog 74 #[.slice (some ⟨g, o, none⟩) 512 C] w fun e w' => ∃ v, e = .returned (.tuple #[v, .bool true]) ∧ w'.ownsRow w.heap.size 98 3 v l.length (cellsV l) ∧ Below w.heap.size w w' := by
  obtain ⟨i0, hi, hz0, hz1, hz2⟩ := info_parts Try.info98
  have h64 := hg.few
  have hroom := hg.room
  have hlen := pageB_length id lsn l hroom
  have HG := (show Hid _ from hg)
  have HS := (show Hid _ from h)
  have s14 := (show Hid _ from number_any g (o + 14) (C - 14) _ w (h.sub 14 2) (by rw [pg_count, leB_length]; omega))
  rw [pg_count, leB_length, leV_leB] at s14
  rw [show l.length % 256 ^ 2 = l.length by omega] at s14
  have n1 : ¬ C = 14 := by omega
  have n2 : ¬ C ≤ 14 := by omega
  have n3 : 16 ≤ C := by omega
  have hwl : IntKind.i64.wrap (l.length : Int) = (l.length : Int) := by simp [IntKind.wrap, IntKind.bits, IntKind.signed]; omega
  clear h hg
  go_enter Try.func74, Try.ntmps74
  go_wp2_with fail
  refine Calls.mono s14.out ?_
  rintro e w1 ⟨rfl, hw⟩
  obtain rfl := hw.symm
  clear s14
  go_wp2_with (at_make; refine wpList_make_own _ rfl _ _ 37 rfl w.heap.size 98 i0 _ 3 Try.underlying37 hi hz0 hz1 _ _ _ l.length rfl rfl (by omega) (by rw [hz2]; omega) (by unfold maxLen; omega) (Nat.le_refl _) ?_)
  intro w2 hown hgr
  have HB2 : Hid (Below w.heap.size w w2) := (Touch.grown (Touch.refl w w.heap.size none) hgr).below (Nat.le_refl _) (by simp) (Nat.le_refl _)
  have HO2 : Hid (w2.ownsRow w.heap.size 98 3 (.slice (some ⟨w.heap.size, 0, none⟩) 0 l.length) 0 []) := hown
  have hz2' : w.heap.size < w2.heap.size := by
    rcases hown.2 with ⟨e, _⟩ | ⟨b, cap, cur, e, _, hb, _⟩
    · simp at e
    · simp at e
      rw [← e.1] at hb
      exact lt_of_blk hb
  clear hown hgr
  go_wp2_with fail
  obtain ⟨M, hM⟩ : ∃ M, M = 16 + 4 * l.length := ⟨_, rfl⟩
  refine Calls.mono (slotAt' _ l.length M _ rfl hM (by omega)) ?_
  rintro e w3 ⟨rfl, hw⟩
  obtain rfl := hw.symm
  go_wp2_with fail
  go_loopw [5, 7, 27] (fun s e i wr => ∃ k : Nat, k ≤ l.length ∧ s = .slice (some ⟨w.heap.size, 0, none⟩) k l.length ∧ e = .int .i64 ((512 - sumC (l.take k) : Nat) : Int) ∧ i = .int .i64 k ∧ wr.ownsRow w.heap.size 98 3 (.slice (some ⟨w.heap.size, 0, none⟩) k l.length) k (cellsV (l.take k)) ∧ Below w.heap.size w wr) (fun _ _ i _ => l.length - (intOf i).toNat)
  case atStart => exact ⟨0, Nat.zero_le _, rfl, by simp [sumC], rfl, HO2.out, HB2.out⟩
  case round =>
    obtain ⟨k, hk, rfl, rfl, rfl, hown, hB⟩ := hrel
    have HBr := (show Hid _ from hB)
    have HOr : Hid (wr.ownsRow w.heap.size 98 3 (.slice (some ⟨w.heap.size, 0, none⟩) k l.length) k (cellsV (l.take k))) := hown
    clear hB hown
    have hE5 : sumC (l.take k) ≤ 496 := by have := room_take l hroom k hk; omega
    obtain ⟨E, hE⟩ : ∃ E, 512 - sumC (l.take k) = E := ⟨_, rfl⟩
    rw [hE]
    by_cases hlt : k < l.length
    · have hk64 : k < 64 := by omega
      have hst := sumC_take l k hlt
      have hrt := room_take l hroom (k + 1) hlt
      obtain ⟨s, hs⟩ : ∃ s, s = 16 + 4 * k := ⟨_, rfl⟩
      obtain ⟨s2, hs2⟩ : ∃ s2, s2 = 16 + 4 * (k + 1) := ⟨_, rfl⟩
      have d0 : s2 - s = 4 := by omega
      have d1 : s ≤ s2 := by omega
      have d2 : s2 ≤ C := by omega
      have d3 : ¬ C = s := by omega
      have d4 : ¬ C ≤ s := by omega
      have d5 : ¬ C - s = 0 := by omega
      have hsl : SlB wr (some ⟨g, o + s, none⟩) (slotB E l[k]) := by
        have := (HS.out.below HBr.out).sub s 4
        rw [hs, pg_slot id lsn l k hlt, hE] at this
        rw [hs]
        exact this
      have h49 := good_size l HG.out k hlt
      have HN : Hid (Calls Try.prog 72 #[.slice (some ⟨g, o + s, none⟩) 4 (C - s)] wr fun e w' => e = .returned (.bool (!l[k].used)) ∧ w' = wr) := by
        have := noughts_any (some ⟨g, o + s, none⟩) (C - s) (slotB E l[k]) wr hsl (by rw [slotB_length]; omega)
        rw [slotB_length, slot_noughts _ _ h49] at this
        exact this
      have HSL := (show Hid (SlB wr (some ⟨g, o + s, none⟩) (slotB E l[k])) from hsl)
      have H1 := (show Hid (s = 16 + 4 * k) from hs)
      have H2 := (show Hid (s2 = 16 + 4 * (k + 1)) from hs2)
      clear hsl hs hs2
      go_wp2_with fail
      refine Calls.mono (slotAt' _ k s _ (by simp) H1.out (by omega)) ?_
      rintro e w4 ⟨rfl, hw⟩
      obtain rfl := hw.symm
      go_wp2_with fail
      refine Calls.mono (slotAt' _ (k + 1) s2 _ (by simp) H2.out (by omega)) ?_
      rintro e w5 ⟨rfl, hw⟩
      obtain rfl := hw.symm
      go_wp2_with fail
      refine Calls.mono HN.out ?_
      rintro e w6 ⟨rfl, hw⟩
      obtain rfl := hw.symm
      clear HN
      cases hu : l[k].used
      · have hgd := HG.out.cells l[k] (List.getElem_mem hlt)
        have hck : cellsV (l.take (k + 1)) = cellsV (l.take k) ++ [.bool false, .string ⟨#[]⟩, .string ⟨#[]⟩] := by
          rw [List.take_add_one, List.getElem?_eq_getElem hlt, cellsV_append]
          simp [goodC, hu] at hgd
          simp [cellsV, hu, hgd.1, hgd.2, txt]
        have hz0' : sizeC l[k] = 0 := by simp [sizeC, hu]
        have HCK := (show Hid (cellsV (l.take (k + 1)) = _) from hck)
        clear hck hgd
        have hg0 := HBr.out.size
        go_wp2_with (at_builtin; refine wpList_append_fits _ rfl _ _ 37 rfl w.heap.size 98 i0 3 Try.underlying37 hi hz1 w.heap.size k l.length (cellsV (l.take k)) rfl (HOr.out.alloc _) ⟨wr.heap.size, 0, none⟩ 1 1 [.bool false, .string ⟨#[]⟩, .string ⟨#[]⟩] rfl rfl (cell_three_new _ _ _ _ _) (by intro u hu; simp at hu; rcases hu with rfl | rfl | rfl <;> rfl) (by omega) ?_)
        intro w7 hown7 hgr7
        have HB7 := (show Hid (Below w.heap.size w w7) from below_grown (HBr.out.alloc HBr.out.size _) hgr7)
        have HO7 : Hid (w7.ownsRow w.heap.size 98 3 (.slice (some ⟨w.heap.size, 0, none⟩) (k + 1) l.length) (k + 1) (cellsV (l.take (k + 1)))) := by
          rw [HCK.out]
          exact hown7
        clear hown7 hgr7
        go_wp2_with fail
        go_roundw
        case rel => exact ⟨k + 1, hlt, rfl, by rw [hst, hz0', Nat.add_zero, hE], by simp, HO7.out, HB7.out⟩
        case measure => first | omega | (simp only [intOf]; omega)
      · have hgd := HG.out.cells l[k] (List.getElem_mem hlt)
        have hgk : 1 ≤ l[k].key.length ∧ l[k].key.length ≤ 16 ∧ l[k].val.length ≤ 32 := by simp [goodC, hu] at hgd; exact hgd
        have hsz1 : 1 ≤ sizeC l[k] := by simp [sizeC, hu]; omega
        obtain ⟨bg, hbg⟩ : ∃ bg, bg = E - sizeC l[k] := ⟨_, rfl⟩
        have hE512 : E ≤ 512 := by omega
        have HN1 : Hid (∀ W, SlB W (some ⟨g, o + s, none⟩) (slotB E l[k]) → Calls Try.prog 73 #[.slice (some ⟨g, o + s, none⟩) 2 (C - s)] W fun e w' => e = .returned (.int .u64 (bg : Int)) ∧ w' = W) := fun W hW => by
          have := number_any g (o + s) (C - s) ((slotB E l[k]).take 2) W (by simpa using hW.sub 0 2) (by simp; omega)
          rw [slot_begin E l[k] hu hE512, List.length_take, slotB_length, ← hbg] at this
          exact this
        have HN2 : Hid (∀ W, SlB W (some ⟨g, o + s, none⟩) (slotB E l[k]) → Calls Try.prog 73 #[.slice (some ⟨g, o + s + 2, none⟩) 2 (C - s - 2)] W fun e w' => e = .returned (.int .u64 (sizeC l[k] : Int)) ∧ w' = W) := fun W hW => by
          have e2 : ((slotB E l[k]).drop 2).take 2 = (slotB E l[k]).drop 2 := List.take_of_length_le (by simp [slotB_length])
          have h2 := hW.sub 2 2
          rw [e2] at h2
          have := number_any g (o + s + 2) (C - s - 2) ((slotB E l[k]).drop 2) W h2 (by simp [slotB_length])
          rw [slot_size E l[k] hu (by omega), List.length_drop, slotB_length] at this
          exact this
        have hsle := sumC_le l (k + 1)
        have hfr : sumC l + 4 * l.length ≤ 496 := by have := hroom; unfold freeL at this; omega
        have f1 : ¬ ((bg : Int) < (M : Int)) := by omega
        have f2 : (bg : Int) + (sizeC l[k] : Int) = (E : Int) := by omega
        have f3 : E - bg = sizeC l[k] := by omega
        have f4 : bg ≤ E := by omega
        have f5 : E ≤ C := by omega
        have f6 : ¬ C = bg := by omega
        have f7 : ¬ C ≤ bg := by omega
        have f8 : ¬ C - bg = 0 := by omega
        have f9 : 2 ≤ C - s := by omega
        have f10 : ¬ C - s = 2 := by omega
        have f11 : ¬ C - s ≤ 2 := by omega
        have hwb : IntKind.i64.wrap (bg : Int) = (bg : Int) := by simp [IntKind.wrap, IntKind.bits, IntKind.signed]; omega
        have hws : IntKind.i64.wrap (sizeC l[k] : Int) = (sizeC l[k] : Int) := by simp [IntKind.wrap, IntKind.bits, IntKind.signed]; omega
        have hwE : IntKind.i64.wrap (E : Int) = (E : Int) := by simp [IntKind.wrap, IntKind.bits, IntKind.signed]; omega
        have HPC := (show Hid (((pageB id lsn l).drop bg).take (sizeC l[k]) = cellB l[k]) by show _ = _; rw [hbg, ← hE]; exact pg_cell id lsn l hroom k hlt)
        have HBG := (show Hid (bg = E - sizeC l[k]) from hbg)
        clear hgd hsle hfr hbg hst hrt
        go_wp2_with fail
        have f0 : (2 : Int) ≤ ((C - s : Nat) : Int) := by omega
        refine wp_region_held_drew (S := (fun W' => W' = wr.drew)) (by kernel_rfl) rfl (fun hHeld => ?_)
        refine wpAnyH_take (i := 0) (v := ?_) rfl (by kernel_rfl) (by kernel_rfl) (by kernel_rfl) (fun _ _ _ h => h) (Or.inl ⟨by rfl, ?_⟩) (by assumption) ?_
        rotate_left
        · (intro W hSw; (try dsimp only at hSw); go_simp; try with_reducible rfl)
        try simp only [Act.put, List.getElem_toArray, List.getElem_cons_zero, List.setIfInBounds_toArray, List.set_cons_zero, List.set_cons_succ]
        refine wpAnyH_take (i := 1) (v := ?_) rfl (by kernel_rfl) (by kernel_rfl) (by kernel_rfl) (fun _ _ _ h => h) (Or.inl ⟨by rfl, ?_⟩) (by assumption) ?_
        rotate_left
        · (intro W hSw; (try dsimp only at hSw); go_simp; try with_reducible rfl)
        try simp only [Act.put, List.getElem_toArray, List.getElem_cons_zero, List.getElem_cons_succ, List.setIfInBounds_toArray, List.set_cons_zero, List.set_cons_succ]
        refine wpAnyH_take (i := 4) (v := ?_) rfl (by kernel_rfl) (by kernel_rfl) (by kernel_rfl) (fun _ _ _ h => h) (Or.inl ⟨by rfl, ?_⟩) (by assumption) ?_
        rotate_left
        · (intro W hSw; (try dsimp only at hSw); go_simp; try with_reducible rfl)
        try simp only [Act.put, List.getElem_toArray, List.getElem_cons_zero, List.getElem_cons_succ, List.setIfInBounds_toArray, List.set_cons_zero, List.set_cons_succ]
        refine wpAnyH_take (i := 5) (v := ?_) rfl (by kernel_rfl) (by kernel_rfl) (by kernel_rfl) (fun _ _ _ h => h) (Or.inl ⟨by rfl, ?_⟩) (by assumption) ?_
        rotate_left
        · (intro W hSw; (try dsimp only at hSw); go_simp; try with_reducible rfl)
        try simp only [Act.put, List.getElem_toArray, List.getElem_cons_zero, List.getElem_cons_succ, List.setIfInBounds_toArray, List.set_cons_zero, List.set_cons_succ]
        refine wpAnyH_ready (rs := [2]) (by kernel_rfl) (by simp) ?_
        refine AllReadyH.cons rfl (fun K hK => ?_) AllReadyH.nil
        go_simp
        refine Calls.mono (HN1.out _ HSL.out.drew) ?_
        rintro e wn ⟨rfl, hw⟩
        obtain rfl := hw.symm
        try go_wp2_with fail
        refine hK.out _ _ (rfl) (fun hHeld => ?_)
        clear hK K
        try simp only [Act.put, List.getElem_toArray, List.getElem_cons_zero, List.getElem_cons_succ, List.setIfInBounds_toArray, List.set_cons_zero, List.set_cons_succ]
        refine wpAnyH_take (i := 3) (v := ?_) rfl (by kernel_rfl) (by kernel_rfl) (by kernel_rfl) (fun _ _ _ h => h) (Or.inl ⟨by rfl, ?_⟩) (by assumption) ?_
        rotate_left
        · (intro W hSw; (try dsimp only at hSw); go_simp; try with_reducible rfl)
        try simp only [Act.put, List.getElem_toArray, List.getElem_cons_zero, List.getElem_cons_succ, List.setIfInBounds_toArray, List.set_cons_zero, List.set_cons_succ]
        refine wpAnyH_ready (rs := [6]) (by kernel_rfl) (by simp) ?_
        refine AllReadyH.cons rfl (fun K hK => ?_) AllReadyH.nil
        go_simp
        refine Calls.mono (HN2.out _ HSL.out.drew) ?_
        rintro e wn ⟨rfl, hw⟩
        obtain rfl := hw.symm
        try go_wp2_with fail
        refine hK.out _ _ (rfl) (fun hHeld => ?_)
        clear hK K
        try simp only [Act.put, List.getElem_toArray, List.getElem_cons_zero, List.getElem_cons_succ, List.setIfInBounds_toArray, List.set_cons_zero, List.set_cons_succ]
        refine wpAnyH_take (i := 7) (v := ?_) rfl (by kernel_rfl) (by kernel_rfl) (by kernel_rfl) (fun _ _ _ h => h) (Or.inl ⟨by rfl, ?_⟩) (by assumption) ?_
        rotate_left
        · (intro W hSw; (try dsimp only at hSw); go_simp; try with_reducible rfl)
        try simp only [Act.put, List.getElem_toArray, List.getElem_cons_zero, List.getElem_cons_succ, List.setIfInBounds_toArray, List.set_cons_zero, List.set_cons_succ]
        refine wpAnyH_take (i := 8) (v := ?_) rfl (by kernel_rfl) (by kernel_rfl) (by kernel_rfl) (fun _ _ _ h => h) (Or.inl ⟨by rfl, ?_⟩) (by assumption) ?_
        rotate_left
        · (intro W hSw; (try dsimp only at hSw); go_simp; try with_reducible rfl)
        try simp only [Act.put, List.getElem_toArray, List.getElem_cons_zero, List.getElem_cons_succ, List.setIfInBounds_toArray, List.set_cons_zero, List.set_cons_succ]
        refine wpAnyH_take (i := 9) (v := ?_) rfl (by kernel_rfl) (by kernel_rfl) (by kernel_rfl) (fun _ _ _ h => h) (Or.inl ⟨by rfl, ?_⟩) (by assumption) ?_
        rotate_left
        · (intro W hSw; (try dsimp only at hSw); go_simp; try with_reducible rfl)
        try simp only [Act.put, List.getElem_toArray, List.getElem_cons_zero, List.getElem_cons_succ, List.setIfInBounds_toArray, List.set_cons_zero, List.set_cons_succ]
        refine wpAnyH_done (by kernel_rfl) ?_ _
        have g1 : decide ((bg : Int) < 16 + 4 * (l.length : Int)) = false := by simp; omega
        have g2 : ((bg : Int) + (sizeC l[k] : Int) != (E : Int)) = false := by simp; omega
        have g3 : (bg : Int) ≤ (E : Int) := by omega
        have g4 : (E : Int) ≤ (C : Int) := by omega
        have g5 : 0 ≤ (bg : Int) := by omega
        have HCO : Hid (Calls Try.prog 86 #[.slice (some ⟨g, o + bg, none⟩) (sizeC l[k]) (C - bg)] wr.drew fun e w' => e = .returned (.tuple #[.agg #[.bool true, .string (txt l[k].key), .string (txt l[k].val)], .bool true]) ∧ Below wr.drew.heap.size wr.drew w') := by
          have hsub := ((HS.out.below HBr.out).sub bg (sizeC l[k])).drew
          rw [HPC.out] at hsub
          have := cellOf_page g (o + bg) (C - bg) l[k] wr.drew hsub hu hgk (by omega)
          unfold cellV at this
          rw [hu] at this
          exact this
        go_wp2_with fail
        refine Calls.mono HCO.out ?_
        rintro e w7 ⟨rfl, hb7⟩
        have hb7' : Below wr.heap.size wr w7 := (Below.refl _ wr).drew.trans hb7
        have hsz7 : wr.heap.size ≤ w7.heap.size := hb7'.size
        have HB7 : Hid (Below w.heap.size w w7) := HBr.out.trans (hb7'.mono HBr.out.size)
        have HO7 : Hid (w7.ownsRow w.heap.size 98 3 (.slice (some ⟨w.heap.size, 0, none⟩) k l.length) k (cellsV (l.take k))) := own_on HOr.out hb7'
        have hkl : (l.take k).length = k := by rw [List.length_take]; omega
        have HSC : Hid (SlC (w7.alloc (.cells #[.bool true, .string (txt l[k].key), .string (txt l[k].val)] 98)) (some ⟨w.heap.size, 0, none⟩) (l.take k)) := by
          exact slC_take (HO7.out.alloc _) hk
        have HFI : Hid (Calls Try.prog 32 #[.slice (some ⟨w.heap.size, 0, none⟩) k l.length, .string (txt l[k].key)] (w7.alloc (.cells #[.bool true, .string (txt l[k].key), .string (txt l[k].val)] 98)) fun e w' => e = .returned (.int .i64 (-1)) ∧ Below (w7.alloc (.cells #[.bool true, .string (txt l[k].key), .string (txt l[k].val)] 98)).heap.size (w7.alloc (.cells #[.bool true, .string (txt l[k].key), .string (txt l[k].val)] 98)) w') := by
          have := find_any l[k].key (some ⟨w.heap.size, 0, none⟩) l.length (l.take k) _ HSC.out (by omega)
          rw [good_before l HG.out k hlt hu, hkl] at this
          exact this
        clear hb7 hb7' HCO
        go_wp2_with fail
        refine Calls.mono HFI.out ?_
        rintro e w8 ⟨rfl, hb8⟩
        have hb8w : Below w7.heap.size w7 w8 := ((Below.refl _ w7).alloc (Nat.le_refl _) (.cells #[.bool true, .string (txt l[k].key), .string (txt l[k].val)] 98)).trans (hb8.mono (by simp))
        have hblk8 : w8.heap[w7.heap.size]? = some (.cells #[.bool true, .string (txt l[k].key), .string (txt l[k].val)] 98) := box_in hb8
        have hz8 := lt_of_blk hblk8
        obtain ⟨t0, t1, t2⟩ : w8.cell? ⟨w7.heap.size, 0, none⟩ = some (.bool true) ∧ w8.cell? ⟨w7.heap.size, 1, none⟩ = some (.string (txt l[k].key)) ∧ w8.cell? ⟨w7.heap.size, 2, none⟩ = some (.string (txt l[k].val)) := by simp [World.cell?, hblk8]
        have HB8 : Hid (Below w.heap.size w w8) := HB7.out.trans (hb8w.mono HB7.out.size)
        have HO8 : Hid (w8.ownsRow w.heap.size 98 3 (.slice (some ⟨w.heap.size, 0, none⟩) k l.length) k (cellsV (l.take k))) := own_on HO7.out hb8w
        have HCK : Hid (cellsV (l.take (k + 1)) = cellsV (l.take k) ++ [.bool true, .string (txt l[k].key), .string (txt l[k].val)]) := by
          show _ = _
          rw [List.take_add_one, List.getElem?_eq_getElem hlt, cellsV_append]
          simp [cellsV, hu]
        have hsum : sumC (l.take (k + 1)) = sumC (l.take k) + sizeC l[k] := sumC_take l k hlt
        have HEB : Hid (512 - sumC (l.take (k + 1)) = bg) := by show _ = _; rw [hsum, HBG.out]; omega
        clear hb8 hb8w hblk8 HO7 HB7 HFI HSC hsum
        have hg0 := HB8.out.size
        go_wp2_with (at_builtin; refine wpList_append_fits _ rfl _ _ 37 rfl w.heap.size 98 i0 3 Try.underlying37 hi hz1 w.heap.size k l.length (cellsV (l.take k)) rfl (HO8.out.alloc _) ⟨w8.heap.size, 0, none⟩ 1 1 [.bool true, .string (txt l[k].key), .string (txt l[k].val)] rfl rfl (cell_three_new _ _ _ _ _) (by intro u hu; simp at hu; rcases hu with rfl | rfl | rfl <;> rfl) (by omega) ?_)
        intro w9 hown9 hgr9
        have HB9 := (show Hid (Below w.heap.size w w9) from below_grown (HB8.out.alloc HB8.out.size _) hgr9)
        have HO9 : Hid (w9.ownsRow w.heap.size 98 3 (.slice (some ⟨w.heap.size, 0, none⟩) (k + 1) l.length) (k + 1) (cellsV (l.take (k + 1)))) := by
          rw [HCK.out]
          exact hown9
        clear hown9 hgr9
        go_wp2_with fail
        go_roundw
        case rel => exact ⟨k + 1, hlt, rfl, by rw [HEB.out], by simp, HO9.out, HB9.out⟩
        case measure => first | omega | (simp only [intOf]; omega)
    · obtain rfl : k = l.length := by omega
      have htk : l.take l.length = l := List.take_length
      rw [htk] at hE hE5 HOr
      have HSC : Hid (SlC wr (some ⟨w.heap.size, 0, none⟩) l) := (slC_of_own HOr.out).1
      have HTR : Hid (Calls Try.prog 87 #[.slice (some ⟨w.heap.size, 0, none⟩) l.length l.length] wr fun e w' => e = .returned (.slice (some ⟨w.heap.size, 0, none⟩) l.length l.length) ∧ w' = wr) := by
        have := trimmed_any (some ⟨w.heap.size, 0, none⟩) l.length l wr HSC.out (by omega) (Nat.le_refl _)
        rw [HG.out.last] at this
        exact this
      obtain ⟨m, hm⟩ : ∃ m, m = 16 + 4 * l.length := ⟨_, rfl⟩
      have hfr : sumC l + 4 * l.length ≤ 496 := by have := hroom; unfold freeL at this; omega
      have hmE : m ≤ E := by omega
      have hlen2 : E - m = 496 - 4 * l.length - sumC l := by omega
      have HNO : Hid (Calls Try.prog 72 #[.slice (some ⟨g, o + m, none⟩) (E - m) (C - m)] wr fun e w' => e = .returned (.bool true) ∧ w' = wr) := by
        have hsub := (HS.out.below HBr.out).sub m (E - m)
        rw [hlen2, hm, pg_gap id lsn l, ← hlen2, ← hm] at hsub
        have := noughts_any (some ⟨g, o + m, none⟩) (C - m) (List.replicate (E - m) 0) wr hsub (by simp; omega)
        rw [List.length_replicate] at this
        rw [show (List.replicate (E - m) (0 : UInt8)).all (· == 0) = true by simp] at this
        exact this
      have q1 : (m : Int) ≤ (E : Int) := by omega
      have q2 : (E : Int) ≤ (C : Int) := by omega
      have q3 : ¬ C = m := by omega
      have q4 : ¬ C ≤ m := by omega
      have q5 : m ≤ E := hmE
      have q6 : E ≤ C := by omega
      have hm' : (16 : Int) + 4 * (l.length : Int) = (m : Int) := by omega
      have HM : Hid _ := hm
      rw [hm']
      clear hm hm' hfr hlen2 hlen htk
      go_wp2_with fail
      refine Calls.mono HTR.out ?_
      rintro e wx ⟨rfl, hw⟩
      obtain rfl := hw.symm
      go_wp2_with fail
      refine Calls.mono HNO.out ?_
      rintro e wx ⟨rfl, hw⟩
      obtain rfl := hw.symm
      go_wp2
      refine bodyPost_ret (v := .tuple #[.slice (some ⟨w.heap.size, 0, none⟩) l.length l.length, .bool true]) (by simp [results, Try.results74, go_sem]) rfl ⟨_, rfl, HOr.out, HBr.out⟩

end Go.Proofs.Ytcloinonhpaojaa
