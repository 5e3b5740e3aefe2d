/-
  The document's At and with.
-/
import Derived.Test.YthhjjnoeiaaekaaRa
import Derived.Test.YthhjjnoeiaaekaaCb
namespace Go.Proofs.Ythhjjnoeiaaekaa
open Go.RowKit

theorem refmay_yes (a : Option Addr) (c : Nat) (r : Rg) (w : World) (h : SlF w a r.fr) (hM : MayR r) :
    Calls Try.prog 14 #[rgV a c r] w fun e w' => e = .returned (.bool true) ∧ Below w.heap.size w w' :=
  (refmay_any a c r w h (by have := hM.most; unfold maxLen; omega)).mono (by rintro e w' ⟨rfl, hb⟩; exact ⟨by rw [mayB_true.2 hM], hb⟩)
theorem refmay_no (a : Option Addr) (c : Nat) (r : Rg) (w : World) (h : SlF w a r.fr) (hl : r.fr.length ≤ maxLen) (hM : ¬ MayR r) :
    Calls Try.prog 14 #[rgV a c r] w fun e w' => e = .returned (.bool false) ∧ Below w.heap.size w w' :=
  (refmay_any a c r w h hl).mono (by rintro e w' ⟨rfl, hb⟩; exact ⟨by rw [mayB_false.2 hM], hb⟩)

theorem atR_fir {r : Rg} {p : Int} (h : MayR r) (hp : 0 ≤ p) : atR r p = firI r.fr p := by
  cases hk : knownB p
  · rw [atR_un hk, firI_none fun j hj e => ?_]
    have := mayF_page (h.up.may j hj hj)
    have : knownB p = true := known_iff.2 (by omega)
    rw [hk] at this
    simp at this
  · exact atR_yes h hk
theorem atR_neg {r : Rg} {p : Int} (hp : p < 0) : atR r p = -1 := by
  cases hk : knownB p
  · exact atR_un hk
  · have := known_iff.1 hk
    omega

set_option maxHeartbeats 2000000 in
theorem refat_any (a : Option Addr) (c : Nat) (r : Rg) (p : Int) (w : World) (h : SlF w a r.fr) (hl : r.fr.length ≤ maxLen) :
    Calls Try.prog 29 #[rgV a c r, .int .i64 p] w fun e w' => e = .returned (.int .i64 (atR r p)) ∧ Below w.heap.size w w' := by
  obtain ⟨i0, i1, i2⟩ := al1 w (.cells (rgC a c r) 24)
  have hs0 := h.below i2
  by_cases hp : p < 0
  · go_enter Try.func29, Try.ntmps29
    go_wp2_with fail
    go_ret
    exact ⟨by rw [atR_neg hp]; rfl, i2⟩
  · by_cases hM : MayR r
    · have h16 := hM.most
      go_enter Try.func29, Try.ntmps29
      go_wp2_with fail
      generalize World.alloc _ _ = W at i0 i1 i2 hs0 ⊢
      refine Calls.mono (refmay_yes a c r W hs0 hM) ?_
      rintro e w1 ⟨rfl, hb1⟩
      have hs1 := hs0.below hb1
      have HB := toHid (below_on i2 hb1)
      obtain ⟨p0, p1, p2, p3, p4⟩ := cell2 (box_in' i0 hb1)
      have HE := toHid (atR_fir hM (show 0 ≤ p by omega))
      obtain ⟨l, hd⟩ := r
      simp only at *
      clear i0 i1 i2 hs0 hb1 h hl hM
      go_wp2_with fail
      go_loop [5] (fun i => ∃ k : Nat, k ≤ l.length ∧ i = .int .i64 k ∧ Hid (∀ j (hj : j < l.length), j < k → l[j].page ≠ p)) (fun i => l.length - (intOf i).toNat)
      case atStart => exact ⟨0, Nat.zero_le _, rfl, toHid fun j _ hj => absurd hj (by omega)⟩
      case round =>
        obtain ⟨k, hk, rfl, HU⟩ := hrel
        by_cases hlt : k < l.length
        · obtain ⟨b, o, rfl, hbl, c0, c1, c2⟩ := hs1.at k hlt
          by_cases hq : l[k].page = p
          · have HP := toHid hq
            rw [hq] at c0
            clear hq
            go_wp2_with fail
            go_ret
            exact ⟨by rw [HE.out, firI_some hlt HP.out HU.out]; rfl, HB.out⟩
          · go_wp2_with fail
            go_round
            case rel =>
              refine ⟨k + 1, by omega, by simp, toHid fun j hj hjk => ?_⟩
              by_cases e : j = k
              · subst e; exact hq
              · exact HU.out j hj (by omega)
            case measure => first | omega | (simp only [intOf]; omega)
        · obtain rfl : k = l.length := by omega
          go_wp2_with fail
          go_ret
          exact ⟨by rw [HE.out, firI_none fun j hj => HU.out j hj hj]; rfl, HB.out⟩
    · go_enter Try.func29, Try.ntmps29
      go_wp2_with fail
      generalize World.alloc _ _ = W at i0 i1 i2 hs0 ⊢
      refine Calls.mono (refmay_no a c r W hs0 hl hM) ?_
      rintro e w1 ⟨rfl, hb1⟩
      have HB := toHid (below_on i2 hb1)
      clear i0 i1 i2 hs0 hb1 h hl
      go_wp2_with fail
      go_ret
      exact ⟨by rw [atR_no hM]; rfl, HB.out⟩

/-- Frames, of which one is another, or none. -/
def setI (l : List Fr) (i : Int) (f : Fr) : List Fr := if 0 ≤ i then l.set i.toNat f else l
theorem setI_len (l : List Fr) (i : Int) (f : Fr) : (setI l i f).length = l.length := by unfold setI; split <;> simp
theorem setI_at (l : List Fr) (i : Int) (f : Fr) (k : Nat) (hk : k < l.length) : (setI l i f)[k]? = some (if (k : Int) = i then f else l[k]) := by
  unfold setI
  by_cases hi : 0 ≤ i
  · rw [if_pos hi, List.getElem?_set]
    by_cases e : i.toNat = k
    · rw [if_pos e, if_pos (by omega), if_pos (by omega)]
    · rw [if_neg e, if_neg (by omega), List.getElem?_eq_getElem hk]
  · rw [if_neg hi, if_neg (by omega), List.getElem?_eq_getElem hk]
theorem setI_take (l : List Fr) (i : Int) (f : Fr) (k : Nat) (hk : k < l.length) : (setI l i f).take (k + 1) = (setI l i f).take k ++ [if (k : Int) = i then f else l[k]] := by
  rw [List.take_add_one, setI_at l i f k hk]
  rfl
theorem cell_three_new (w : World) (f : Fr) : ∀ j u, [Value.int .i64 f.page, .bool f.used, .int .i64 f.pins][j]? = some u → (w.alloc (.cells #[.int .i64 f.page, .bool f.used, .int .i64 f.pins] 31)).cell? ((⟨w.heap.size, 0, none⟩ : Addr).add j) = some u := by
  intro j u hu
  have h := (al1 w (.cells #[.int .i64 f.page, .bool f.used, .int .i64 f.pins] 31)).1
  obtain ⟨k0, k1, k2, -⟩ := cell3 h
  rw [add_at]
  match j, hu with
  | 0, hu => simp at hu; subst hu; exact k0
  | 1, hu => simp at hu; subst hu; exact k1
  | 2, hu => simp at hu; subst hu; exact k2
theorem app_turn3 {B : Nat} {W0 W w' : World} {v : Value} {k : Nat} {xs : List Value} {o : Obj} (HO : W.ownsRow B 31 3 v k xs) (hgr : (W.alloc o).grownBy w' v.ownBlock) (hB : Below B W0 W) (hB0 : B ≤ W.heap.size) :
    (∀ (b : Nat) (q : Obj), b < B → W.heap[b]? = some q → w'.heap[b]? = some q) ∧ Below B W0 w' := by
  refine ⟨fun b q hb3 hb => ?_, (hB.alloc hB0 o).grown hgr (by simp; omega) (fun j hj => (HO.lt j hj).1)⟩
  have hl := (Array.getElem?_eq_some_iff.mp hb).1
  refine (hgr.block b (by simp; omega) (fun e => ?_)).trans (box_in' hb (al1 W o).2.2)
  have := (HO.lt b e.symm).1
  omega

set_option maxHeartbeats 4000000 in
theorem refwith_any (a : Option Addr) (c : Nat) (r : Rg) (i : Int) (f : Fr) (w : World) (h : SlF w a r.fr) (hl : r.fr.length ≤ 1000) :
    Calls Try.prog 35 #[rgV a c r, .int .i64 i, .agg (frV f)] w fun e w' => ∃ a' c', e = .returned (rgV a' c' ⟨setI r.fr i f, r.hand⟩) ∧ SlF w' a' (setI r.fr i f) ∧ Below w.heap.size w w' := by
  obtain ⟨l, hd⟩ := r
  simp only [rgV, rgC] at h hl ⊢
  simp only [frV]
  obtain ⟨i9, hi, hz0, hz1, hz2⟩ := info_parts info31
  go_enter Try.func35, Try.ntmps35
  go_wp2_with fail
  obtain ⟨j0, j1, j2, j3, j4⟩ := al3 w (.cells #[.slice a l.length c, .int .i64 hd] 24) (.cells #[.int .i64 f.page, .bool f.used, .int .i64 f.pins] 31) (.cells #[.slice none 0 0, .int .i64 0] 24)
  generalize World.alloc (World.alloc (World.alloc _ _) _) _ = W at j0 j1 j2 j3 j4 ⊢
  have hsW := h.below j4
  have H0 := toHid j0
  have H1 := toHid j1
  have H2 := toHid j2
  have H4 := toHid j4
  clear j0 j1 j2 j4 h
  go_loopw [7, 8] (fun v ii wr => ∃ k : Nat, k ≤ l.length ∧ ii = .int .i64 k ∧ wr.ownsRow (w.heap.size + 3) 31 3 v k (frs ((setI l i f).take k)) ∧ wr.heap[w.heap.size]? = some (.cells #[.slice a l.length c, .int .i64 hd] 24) ∧ wr.heap[w.heap.size + 1]? = some (.cells #[.int .i64 f.page, .bool f.used, .int .i64 f.pins] 31) ∧ wr.heap[w.heap.size + 1 + 1]? = some (.cells #[.slice none 0 0, .int .i64 0] 24) ∧ Below (w.heap.size + 3) W wr) (fun _ ii _ => l.length - (intOf ii).toNat)
  case atStart => exact ⟨0, Nat.zero_le _, rfl, World.ownsRow_nil _ _ _ _, H0.out, H1.out, H2.out, Below.refl _ _⟩
  case round =>
    clear H0 H1 H2
    obtain ⟨k, hk, rfl, hown, h0, h1, h2, hB⟩ := hrel
    have HO := toHid hown
    have H0 := toHid h0
    have H1 := toHid h1
    have H2 := toHid h2
    have HB := toHid hB
    have hws : w.heap.size + 3 ≤ wr.heap.size := by have := hB.size; omega
    obtain ⟨p0, p1, p2, p3, p4⟩ := cell2 h0
    obtain ⟨q0, q1, q2, q3, q4, q5, q6⟩ := cell3 h1
    obtain ⟨r0, r1, r2, r3, r4⟩ := cell2 h2
    have hsl := hsW.below (by rw [j3]; exact hB)
    obtain ⟨av, cv, rfl⟩ := ownsRow_shape hown
    clear hown h0 h1 h2 hB
    by_cases hlt : k < l.length
    · have HT := toHid (setI_take l i f k hlt)
      by_cases hki : (k : Int) = i
      · have hki2 : ((k : Int) == i) = true := by simpa using hki
        have HKI := toHid hki
        clear hki
        go_wp2_with (at_builtin; go_must (refine wpList_append_own _ rfl _ _ 22 rfl (w.heap.size + 3) 31 i9 (.agg #[.int .i64 0, .bool false, .int .i64 0]) 3 24 Try.underlying22 hi hz0 hz1 hz2 rfl (by decide) _ _ _ rfl (HO.out.alloc _) ⟨wr.heap.size, 0, none⟩ 1 1 [.int .i64 f.page, .bool f.used, .int .i64 f.pins] rfl rfl (cell_three_new _ f) (by intro u hu; exact frs_one [f] u hu) (by unfold maxLen; omega) (by omega) (by simp; omega) ?_; intro v' w' hown' hgr _; obtain ⟨av', cv', rfl⟩ := ownsRow_shape hown'; obtain ⟨hbx, hB6⟩ := app_turn3 HO.out hgr HB.out (by omega); have K0 := toHid (hbx _ _ (by omega) H0.out); have K1 := toHid (hbx _ _ (by omega) H1.out); have K2 := toHid (hbx _ _ (by omega) H2.out); have HB6 := toHid hB6; have HO6 := toHid hown'; clear hbx hB6 hown' hgr))
        go_roundw
        case rel =>
          refine ⟨k + 1, by omega, by simp, ?_, K0.out, K1.out, K2.out, HB6.out⟩
          rw [HT.out, frs_append, if_pos HKI.out]
          exact HO6.out
        case measure => first | omega | (simp only [intOf]; omega)
      · have hki2 : ((k : Int) == i) = false := by simpa using hki
        obtain ⟨b, o, rfl, hbl, c0, c1, c2⟩ := hsl.at k hlt
        go_wp2_with (at_builtin; go_must (refine wpList_append_own _ rfl _ _ 22 rfl (w.heap.size + 3) 31 i9 (.agg #[.int .i64 0, .bool false, .int .i64 0]) 3 24 Try.underlying22 hi hz0 hz1 hz2 rfl (by decide) _ _ _ rfl (HO.out.alloc _) ⟨wr.heap.size, 0, none⟩ 1 1 [.int .i64 l[k].page, .bool l[k].used, .int .i64 l[k].pins] rfl rfl (cell_three_new _ l[k]) (by intro u hu; exact frs_one [l[k]] u hu) (by unfold maxLen; omega) (by omega) (by simp; omega) ?_; intro v' w' hown' hgr _; obtain ⟨av', cv', rfl⟩ := ownsRow_shape hown'; obtain ⟨hbx, hB6⟩ := app_turn3 HO.out hgr HB.out (by omega); have K0 := toHid (hbx _ _ (by omega) H0.out); have K1 := toHid (hbx _ _ (by omega) H1.out); have K2 := toHid (hbx _ _ (by omega) H2.out); have HB6 := toHid hB6; have HO6 := toHid hown'; clear hbx hB6 hown' hgr))
        go_roundw
        case rel =>
          refine ⟨k + 1, by omega, by simp, ?_, K0.out, K1.out, K2.out, HB6.out⟩
          rw [HT.out, frs_append, if_neg hki]
          exact HO6.out
        case measure => first | omega | (simp only [intOf]; omega)
    · obtain rfl : k = l.length := by omega
      have ho := HO.out
      rw [List.take_of_length_le (by rw [setI_len]; exact Nat.le_refl _)] at ho
      obtain ⟨-, a', c', hv, hsl'⟩ := SlF.ofRow (l := setI l i f) ho
      rw [setI_len] at hv
      injection hv with hv1 hv2 hv3
      subst hv1 hv3
      have HS' := toHid hsl'
      clear hsl' ho hv2 hlt
      go_wp2_with fail
      obtain ⟨s0, s1, -⟩ := cell2 (ring_set (u := .slice av l.length cv) (v := .int .i64 hd) H2.out)
      refine bodyPost_ret (v := .agg #[.slice av l.length cv, .int .i64 hd]) (by simp [results, Try.results35, go_sem, s0, s1]) rfl ?_
      refine ⟨av, cv, ?_, slF_two HS'.out H2.out, below_two ((H4.out).trans (HB.out.mono (by omega))) (by omega)⟩
      rw [setI_len]
end Go.Proofs.Ythhjjnoeiaaekaa
