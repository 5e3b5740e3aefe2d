/-
  The table's Range: the walk.
-/
import Derived.Test.YtebchgoaelamcaaDoorUa
namespace Go.Proofs.YtebchgoaelamcaaDoor
open Go.RowKit Go.Sort
set_option maxRecDepth 100000

set_option maxHeartbeats 4000000 in
theorem range_any (a0 : Option Addr) (c0 : Nat) (ps : List (Option Addr × List Cl)) (f t : List UInt8) (w : World) (h : SlG w a0 ps) (hl : ps.length ≤ 1000) :
    Calls Tryd.prog 28 #[.slice a0 ps.length c0, .string (txt f), .string (txt t)] w fun e w' => ∃ a c, ∃ L X : List Pq, e = .returned (.slice a L.length c) ∧ Cat f t (ps.map (·.2)) X ∧ Rise L ∧ Stb X L ∧ L.length ≤ 64 * ps.length ∧ w'.ownsRow w.heap.size 74 2 (.slice a L.length c) L.length (pcells L) ∧ Below w.heap.size w w' := by
  obtain ⟨i0, hi, hz0, hz1, hz2⟩ := info_parts Tryd.info74
  have HS := toHid h
  clear h
  go_enter Tryd.func28, Tryd.ntmps28
  go_wp2_with fail
  go_loopw [7, 14] (fun s vi wr => ∃ i : Nat, ∃ a c, ∃ X : List Pq, i ≤ ps.length ∧ vi = .int .i64 i ∧ s = .slice a X.length c ∧ X.length ≤ 64 * i ∧ Hid (Cat f t ((ps.take i).map (·.2)) X) ∧ Hid (wr.ownsRow w.heap.size 74 2 s X.length (pcells X)) ∧ Hid (Below w.heap.size w wr)) (fun _ vi _ => ps.length - (intOf vi).toNat)
  case atStart => exact ⟨0, none, 0, [], Nat.zero_le _, rfl, rfl, by simp, Cat.nil f t, World.ownsRow_nil _ _ _ _, Below.refl _ _⟩
  case round =>
    obtain ⟨i, a, c, X, hin, rfl, rfl, hXl, HCa, HO, HB⟩ := hrel
    by_cases hlt : i < ps.length
    · obtain ⟨b, o, rfl, hbl, c1⟩ := (HS.out.below HB.out).get i hlt
      have HPg := toHid ((HS.out.below HB.out).pg i hlt)
      have HCt : Hid ((ps.take (i + 1)).map (·.2) = (ps.take i).map (·.2) ++ [ps[i].2]) := by
        unfold Hid
        rw [List.take_succ_eq_append_getElem hlt, List.map_append]
        rfl
      generalize hpi : ps[i] = pi at *
      obtain ⟨po, pl⟩ := pi
      simp only at c1 HPg HCt
      go_wp2_with fail
      refine Calls.mono (pairs_of wr HPg.out) ?_
      rintro e w2 ⟨aL, cL, Li, rfl, hPS, hLi, hQ, hnew, hb2⟩
      have HPS := toHid hPS
      have HQ := toHid hQ
      have HB2 := toHid (HB.out.trans (hb2.mono HB.out.size))
      have HO2 := toHid (ownsRow_below HO.out hb2 (fun k hk => ownsRow_lt HO.out k hk))
      have HAp : Hid (∀ j y, (Value.slice a X.length c).ownBlock = some j → aL = some y → y.block ≠ j) := fun j y hj hy => by
        have h1 := ownsRow_lt HO.out j hj
        have h2 := hnew y hy
        omega
      clear hnew hPS hQ hb2 HO HB HPg c1 hbl
      go_wp2_with fail
      go_loopw [7, 21] (fun s vk wr => ∃ k : Nat, ∃ a c, ∃ Y : List Pq, k ≤ Li.length ∧ vk = .int .i64 k ∧ s = .slice a Y.length c ∧ Y.length ≤ X.length + k ∧ Hid (Y = X ++ btw f t (Li.take k)) ∧ Hid (wr.ownsRow w.heap.size 74 2 s Y.length (pcells Y)) ∧ Hid (∀ j y, s.ownBlock = some j → aL = some y → y.block ≠ j) ∧ Hid (SlQ wr aL Li) ∧ Hid (Below w.heap.size w wr)) (fun _ vk _ => Li.length - (intOf vk).toNat)
      case atStart => exact ⟨0, a, c, X, Nat.zero_le _, rfl, rfl, by omega, by simp [btw, Hid], HO2, HAp, HQ, HB2⟩
      case round =>
        clear HQ HB2 HO2 HAp
        obtain ⟨k, a, c, Y, hkn, rfl, rfl, hYl, HY, HO, HAp, HQ, HB⟩ := hrel
        by_cases hlk : k < Li.length
        · obtain ⟨b', o', rfl, hbl, c1, c2⟩ := HQ.out.at k hlk
          have HT := toHid (btw_take f t Li k hlk)
          generalize hx : Li[k] = x at *
          obtain ⟨xk, xv⟩ := x
          simp only at c1 c2 HT
          have hBa := (Below.refl wr.heap.size wr).alloc (Nat.le_refl _) (.cells #[.string (txt xk), .string (txt xv)] 74)
          have hsw := HB.out.size
          have HFk : Hid (Op.bytesLess (txt xk).toList (txt f).toList = decide (xk < f)) := by unfold Hid; rw [toList_txt, toList_txt, bytesLess_eq]
          have HTk : Hid ((Op.bytesLess (txt xk).toList (txt t).toList || (txt xk).toList == (txt t).toList) = !decide (t < xk)) := by
            unfold Hid
            rw [toList_txt, toList_txt, bytesLess_eq]
            by_cases h1 : xk < t
            · simp [h1, lt_asymm' h1]
            · by_cases h2 : xk = t
              · subst h2; simp
              · have h3 : t < xk := Decidable.byContradiction fun h3 => h2 (List.le_antisymm (List.not_lt.1 h3) (List.not_lt.1 h1))
                simp [h1, h2, h3]
          obtain ⟨p1, hp1⟩ : ∃ p1, Op.bytesLess (txt xk).toList (txt f).toList = p1 := ⟨_, rfl⟩
          obtain ⟨q1, hq1⟩ : ∃ q1, Op.bytesLess (txt xk).toList (txt t).toList = q1 := ⟨_, rfl⟩
          obtain ⟨q2, hq2⟩ : ∃ q2, ((txt xk).toList == (txt t).toList) = q2 := ⟨_, rfl⟩
          rw [hp1] at HFk
          rw [hq1, hq2] at HTk
          rw [← HFk.out] at HT
          have HB1 : Hid (Below w.heap.size w (wr.alloc (.cells #[.string (txt xk), .string (txt xv)] 74))) := HB.out.trans (hBa.mono HB.out.size)
          have HO1 := toHid (HO.out.alloc (.cells #[.string (txt xk), .string (txt xv)] 74))
          have HQ1 := toHid (HQ.out.below hBa)
          cases p1
          case true =>
            simp only [Bool.not_true, Bool.false_and, Bool.false_eq_true, if_false, List.append_nil] at HT
            have HY2 : Hid (Y = X ++ btw f t (Li.take (k + 1))) := by unfold Hid; rw [HT.out]; exact HY.out
            go_wp2_with fail
            go_roundw
            case rel => exact ⟨k + 1, a, c, Y, by omega, by simp, rfl, by omega, HY2, HO1, HAp, HQ1, HB1⟩
            case measure => simp only [intOf]; omega
          case false =>
            cases q1
            case true =>
              simp only [Bool.true_or] at HTk
              rw [← HTk.out] at HT
              simp only [Bool.not_false, Bool.and_self, if_true] at HT
              have HY2 : Hid (Y ++ [(xk, xv)] = X ++ btw f t (Li.take (k + 1))) := by unfold Hid; rw [HT.out, HY.out, List.append_assoc]
              have hB2 := hBa.alloc (by have := size_alloc wr (.cells #[.string (txt xk), .string (txt xv)] 74); omega) (.cells #[.string (txt xk), .string (txt xv)] 74)
              have HO3 := HO1.out.alloc (.cells #[.string (txt xk), .string (txt xv)] 74)
              have hs1 := size_alloc wr (.cells #[.string (txt xk), .string (txt xv)] 74)
              have hs2 := size_alloc (wr.alloc (.cells #[.string (txt xk), .string (txt xv)] 74)) (.cells #[.string (txt xk), .string (txt xv)] 74)
              have HO3' := toHid HO3
              have HB2' := toHid hB2
              have HN2 : Hid (w.heap.size ≤ ((wr.alloc (.cells #[.string (txt xk), .string (txt xv)] 74)).alloc (.cells #[.string (txt xk), .string (txt xv)] 74)).heap.size) := by unfold Hid; omega
              have HN3 : Hid (wr.heap.size ≤ ((wr.alloc (.cells #[.string (txt xk), .string (txt xv)] 74)).alloc (.cells #[.string (txt xk), .string (txt xv)] 74)).heap.size) := by unfold Hid; omega
              clear hB2 HO3 hs1 hs2
              go_wp2_with (at_builtin; refine wpList_append_fresh _ rfl _ _ 33 rfl w.heap.size 74 i0 _ 2 32 Tryd.underlying33 hi hz0 hz1 hz2 rfl (by decide) (.slice a Y.length c) Y.length (pcells Y) rfl HO3'.out ⟨wr.heap.size + 1, 0, none⟩ 1 1 [.string (txt xk), .string (txt xv)] rfl rfl (two_cells' _ _ _ _ _) (by intro u hu; simp at hu; rcases hu with rfl | rfl <;> rfl) (by unfold maxLen; omega) (by omega) HN2.out ?_; intro v' w1 hown hgrow hfr; obtain ⟨a1, d1, rfl⟩ := ownsRow_shape hown)
              have HQ2 : Hid (SlQ w1 (some ⟨b', o', none⟩) Li) := by
                have hq := HQ.out.below HB2'.out
                refine ⟨hq.nonil, fun y hy j u hju => ?_⟩
                obtain ⟨s1, s2, s3⟩ := hq.cells y hy j u hju
                have hlt := World.block_lt_of_cell? _ _ s2
                have hne : some y.block ≠ (Value.slice a Y.length c).ownBlock := fun e => HAp.out y.block y e.symm hy rfl
                have e : ∀ q, w1.cell? ⟨y.block, q, none⟩ = ((wr.alloc (.cells #[.string (txt xk), .string (txt xv)] 74)).alloc (.cells #[.string (txt xk), .string (txt xv)] 74)).cell? ⟨y.block, q, none⟩ := fun q => World.cell?_of_block (a := ⟨y.block, q, none⟩) (hgrow.block _ hlt hne)
                exact ⟨s1, by rw [e]; exact s2, by rw [e]; exact s3⟩
              have HA2 : Hid (∀ j y, (Value.slice a1 (Y.length + 1) d1).ownBlock = some j → (some ⟨b', o', none⟩ : Option Addr) = some y → y.block ≠ j) := fun j y hj hy => by
                rcases hfr j hj with e | e
                · exact HAp.out j y e hy
                · have : y.block < wr.heap.size := by cases hy; exact hbl
                  have := HN3.out
                  omega
              have HBn : Hid (Below w.heap.size w w1) := (HB.out.trans (HB2'.out.mono HB.out.size)).grown hgrow HN2.out (fun j hj => (World.ownsRow.lt HO3'.out j hj).1)
              have HOn : Hid (w1.ownsRow w.heap.size 74 2 (.slice a1 (Y.length + 1) d1) (Y.length + 1) (pcells Y ++ [.string (txt xk), .string (txt xv)])) := hown
              clear hown hgrow hfr HQ1 HO1 HB1
              go_wp2_with fail
              go_roundw
              case rel => exact ⟨k + 1, a1, d1, Y ++ [(xk, xv)], by omega, by simp, by simp, by simp; omega, HY2, by unfold Hid; rw [pcells_append, List.length_append]; exact HOn.out, by simpa using HA2, HQ2, HBn⟩
              case measure => simp only [intOf]; omega
            case false =>
              cases q2
              case true =>
                simp only [Bool.or_true] at HTk
                rw [← HTk.out] at HT
                simp only [Bool.not_false, Bool.and_self, if_true] at HT
                have HY2 : Hid (Y ++ [(xk, xv)] = X ++ btw f t (Li.take (k + 1))) := by unfold Hid; rw [HT.out, HY.out, List.append_assoc]
                have hB2 := hBa.alloc (by have := size_alloc wr (.cells #[.string (txt xk), .string (txt xv)] 74); omega) (.cells #[.string (txt xk), .string (txt xv)] 74)
                have HO3 := HO1.out.alloc (.cells #[.string (txt xk), .string (txt xv)] 74)
                have hs1 := size_alloc wr (.cells #[.string (txt xk), .string (txt xv)] 74)
                have hs2 := size_alloc (wr.alloc (.cells #[.string (txt xk), .string (txt xv)] 74)) (.cells #[.string (txt xk), .string (txt xv)] 74)
                have HO3' := toHid HO3
                have HB2' := toHid hB2
                have HN2 : Hid (w.heap.size ≤ ((wr.alloc (.cells #[.string (txt xk), .string (txt xv)] 74)).alloc (.cells #[.string (txt xk), .string (txt xv)] 74)).heap.size) := by unfold Hid; omega
                have HN3 : Hid (wr.heap.size ≤ ((wr.alloc (.cells #[.string (txt xk), .string (txt xv)] 74)).alloc (.cells #[.string (txt xk), .string (txt xv)] 74)).heap.size) := by unfold Hid; omega
                clear hB2 HO3 hs1 hs2
                go_wp2_with (at_builtin; refine wpList_append_fresh _ rfl _ _ 33 rfl w.heap.size 74 i0 _ 2 32 Tryd.underlying33 hi hz0 hz1 hz2 rfl (by decide) (.slice a Y.length c) Y.length (pcells Y) rfl HO3'.out ⟨wr.heap.size + 1, 0, none⟩ 1 1 [.string (txt xk), .string (txt xv)] rfl rfl (two_cells' _ _ _ _ _) (by intro u hu; simp at hu; rcases hu with rfl | rfl <;> rfl) (by unfold maxLen; omega) (by omega) HN2.out ?_; intro v' w1 hown hgrow hfr; obtain ⟨a1, d1, rfl⟩ := ownsRow_shape hown)
                have HQ2 : Hid (SlQ w1 (some ⟨b', o', none⟩) Li) := by
                  have hq := HQ.out.below HB2'.out
                  refine ⟨hq.nonil, fun y hy j u hju => ?_⟩
                  obtain ⟨s1, s2, s3⟩ := hq.cells y hy j u hju
                  have hlt := World.block_lt_of_cell? _ _ s2
                  have hne : some y.block ≠ (Value.slice a Y.length c).ownBlock := fun e => HAp.out y.block y e.symm hy rfl
                  have e : ∀ q, w1.cell? ⟨y.block, q, none⟩ = ((wr.alloc (.cells #[.string (txt xk), .string (txt xv)] 74)).alloc (.cells #[.string (txt xk), .string (txt xv)] 74)).cell? ⟨y.block, q, none⟩ := fun q => World.cell?_of_block (a := ⟨y.block, q, none⟩) (hgrow.block _ hlt hne)
                  exact ⟨s1, by rw [e]; exact s2, by rw [e]; exact s3⟩
                have HA2 : Hid (∀ j y, (Value.slice a1 (Y.length + 1) d1).ownBlock = some j → (some ⟨b', o', none⟩ : Option Addr) = some y → y.block ≠ j) := fun j y hj hy => by
                  rcases hfr j hj with e | e
                  · exact HAp.out j y e hy
                  · have : y.block < wr.heap.size := by cases hy; exact hbl
                    have := HN3.out
                    omega
                have HBn : Hid (Below w.heap.size w w1) := (HB.out.trans (HB2'.out.mono HB.out.size)).grown hgrow HN2.out (fun j hj => (World.ownsRow.lt HO3'.out j hj).1)
                have HOn : Hid (w1.ownsRow w.heap.size 74 2 (.slice a1 (Y.length + 1) d1) (Y.length + 1) (pcells Y ++ [.string (txt xk), .string (txt xv)])) := hown
                clear hown hgrow hfr HQ1 HO1 HB1
                go_wp2_with fail
                go_roundw
                case rel => exact ⟨k + 1, a1, d1, Y ++ [(xk, xv)], by omega, by simp, by simp, by simp; omega, HY2, by unfold Hid; rw [pcells_append, List.length_append]; exact HOn.out, by simpa using HA2, HQ2, HBn⟩
                case measure => simp only [intOf]; omega
              case false =>
                simp only [Bool.or_false] at HTk
                rw [← HTk.out] at HT
                simp only [Bool.and_false, Bool.false_eq_true, if_false, List.append_nil] at HT
                have HY2 : Hid (Y = X ++ btw f t (Li.take (k + 1))) := by unfold Hid; rw [HT.out]; exact HY.out
                go_wp2_with fail
                go_roundw
                case rel => exact ⟨k + 1, a, c, Y, by omega, by simp, rfl, by omega, HY2, HO1, HAp, HQ1, HB1⟩
                case measure => simp only [intOf]; omega
        · obtain rfl : k = Li.length := by omega
          have HCn : Hid (Cat f t ((ps.take (i + 1)).map (·.2)) Y) := by
            unfold Hid
            rw [HCt.out, HY.out, List.take_length]
            exact HCa.out.snoc HPS.out
          go_wp2_with fail
          go_roundw
          case rel => exact ⟨i + 1, a, c, Y, by omega, by simp, rfl, by omega, HCn, HO, HB⟩
          case measure => simp only [intOf]; omega
    · obtain rfl : i = ps.length := by omega
      have HC2 : Hid (Cat f t (ps.map (·.2)) X) := by have := HCa.out; rwa [List.take_length] at this
      have HSt := toHid (stable_own w.heap.size a c X wr HO.out (by omega))
      clear HCa
      go_wp2_with fail
      refine Calls.mono HSt.out ?_
      rintro e w2 ⟨rfl, L, hr, hst, ho, hg⟩
      have hlen := stb_len hst
      have HBe := toHid (HB.out.grown hg HB.out.size (fun j hj => (World.ownsRow.lt HO.out j hj).1))
      rw [hlen] at ho
      have HE := toHid (And.intro hr (And.intro hst (And.intro hlen ho)))
      clear hr hst ho hg HSt HO HB hlen
      go_wp2_with fail
      go_ret
      exact ⟨a, c, L, X, by rw [← HE.out.2.2.1]; rfl, HC2.out, HE.out.1, HE.out.2.1, by have := HE.out.2.2.1; omega, HE.out.2.2.2, HBe.out⟩
end Go.Proofs.YtebchgoaelamcaaDoor
