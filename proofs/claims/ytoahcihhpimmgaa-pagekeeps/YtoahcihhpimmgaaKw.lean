/-
  The walk of PageKeeps.
-/
import Derived.Test.YtoahcihhpimmgaaKq
import Derived.Test.YtoahcihhpimmgaaLv
namespace Go.Proofs.Ytoahcihhpimmgaa
open Go.RowKit

set_option maxRecDepth 100000 in
set_option maxHeartbeats 40000000 in
theorem keeps_walk (id : Int) (a : Option Addr) (c : Nat) (l : List Ov) (w : World) (hsl : SlO w a l) (hl : l.length ≤ maxLen) :
    Calls Try.prog 7 #[.int .i64 id, .slice a l.length c] w fun e w' => e = .returned (.bool true) ∧ Below w.heap.size w w' := by
  obtain ⟨i0, hi0, hz0, hz1, hz2⟩ := info_parts Try.info59
  unfold maxLen at hl
  by_cases hid : 0 ≤ id ∧ id < 16
  rotate_left
  · go_enter Try.func7, Try.ntmps7
    go_wp2_with fail
    refine Calls.mono (new_no id w hid) ?_
    rintro e w1 ⟨rfl, hw⟩
    obtain rfl := hw.symm
    go_wp2_with fail
    refine Calls.mono (lives_any _) ?_
    rintro e w2 ⟨rfl, hb⟩
    go_wp2
    go_ret
    exact ⟨rfl, hb⟩
  have HN : Hid _ := new_yes id w hid
  have HS : Hid _ := hsl
  have HK0 : Hid (Kp7 w id (.slice none 0 0) [] none 0 [] (w.alloc (.cells #[.int .i64 id, .int .u64 0, .slice none 0 0] 68))) :=
    ⟨⟨heap_alloc_new _ _, World.ownsRow_nil _ _ _ _, by simp [Value.ownBlock], Nat.le_refl _⟩, goodL_nil, World.ownsRow_nil _ _ _ _, List.Perm.refl _, (Below.refl _ _).alloc (Nat.le_refl _) _⟩
  clear hid hsl
  go_enter Try.func7, Try.ntmps7
  go_wp2_with fail
  refine Calls.mono HN.out ?_
  rintro e w1 ⟨rfl, hw⟩
  obtain rfl := hw.symm
  clear HN
  go_wp2_with fail
  go_loopw [7, 8] (fun s i wr => ∃ (j : Nat) (v : Value) (L : List Cl) (a2 : Option Addr) (c2 : Nat) (M : List Pq), j ≤ l.length ∧ i = .int .i64 j ∧ s = .slice a2 M.length c2 ∧ Kp7 w id v L a2 c2 M wr) (fun _ i _ => l.length - (intOf i).toNat)
  case atStart => exact ⟨0, _, _, none, 0, [], Nat.zero_le _, rfl, rfl, HK0.out⟩
  case round =>
    obtain ⟨j, v, L, a2, c2, M, hj, rfl, rfl, hK⟩ := hrel
    obtain ⟨R, hR⟩ : ∃ R, R = wr := ⟨_, rfl⟩
    subst hR
    have HKr : Hid _ := hK
    clear hK HK0
    by_cases hlt : j < l.length ∧ j < 120
    rotate_left
    · have hg : (¬ j < l.length ∧ decide ((j : Int) < (l.length : Int)) = false) ∨ ((j < l.length ∧ decide ((j : Int) < (l.length : Int)) = true) ∧ (¬ j < 120 ∧ decide ((j : Int) < 120) = false)) := by
        by_cases q : j < l.length
        · exact .inr ⟨⟨q, by simp; omega⟩, by omega, by simp; omega⟩
        · exact .inl ⟨q, by simp; omega⟩
      clear hlt hj
      rcases hg with ⟨hgn, hg⟩ | ⟨⟨hgn, hg⟩, hgm, hg2⟩
      all_goals
        go_wp2_with fail
        refine Calls.mono (lives_any _) ?_
        rintro e w2 ⟨rfl, hb⟩
        go_wp2
        go_ret
        exact ⟨rfl, (HKr.out.call hb).low⟩
    obtain ⟨h1, h120⟩ := hlt
    have h1' : decide ((j : Int) < (l.length : Int)) = true := by simp; omega
    have h120' : decide ((j : Int) < 120) = true := by simp; omega
    have h1i : (j : Int) < (l.length : Int) := by omega
    have hsm := HS.out.small l[j] (List.getElem_mem h1)
    have HKL : Hid (l[j].key.length ≤ maxLen ∧ l[j].val.length ≤ maxLen) := ⟨hsm.1, hsm.2.1⟩
    obtain ⟨b, o, rfl, hbl, e0, e1, e2, e3⟩ := (HS.out.below HKr.out.low).at j h1
    have HK1 : Hid (Kp7 w id v L a2 c2 M (R.alloc (.cells #[.int .i64 l[j].kind, .string (txt l[j].key), .string (txt l[j].val), .int .u64 (l[j].tm : Int)] 37))) := HKr.out.call ((Below.refl _ _).alloc (Nat.le_refl _) _)
    have HX1 : Hid ((R.alloc (.cells #[.int .i64 l[j].kind, .string (txt l[j].key), .string (txt l[j].val), .int .u64 (l[j].tm : Int)] 37)).heap[R.heap.size]? = some (.cells #[.int .i64 l[j].kind, .string (txt l[j].key), .string (txt l[j].val), .int .u64 (l[j].tm : Int)] 37)) := heap_alloc_new _ _
    clear hsm HKr
    go_wp2_with fail
    clear e0 e1 e2 e3 h1' h120' hbl
    have hfewM := HK1.out.few
    go_loopw [10, 11] (fun at0 k W => ∃ (i : Nat) (oo : Option Nat), i ≤ M.length ∧ k = .int .i64 i ∧ at0 = .int .i64 (ixI oo) ∧ AtOk l[j].key M i oo ∧ Kp7 w id v L a2 c2 M W ∧ W.heap[R.heap.size]? = some (.cells #[.int .i64 l[j].kind, .string (txt l[j].key), .string (txt l[j].val), .int .u64 (l[j].tm : Int)] 37)) (fun _ k _ => M.length - (intOf k).toNat)
    case atStart => exact ⟨0, none, Nat.zero_le _, rfl, rfl, at_zero _ _, HK1.out, HX1.out⟩
    case round =>
      obtain ⟨i, oo, hi, rfl, rfl, hat, hK2, hX2⟩ := hrel
      have HK2 : Hid _ := hK2
      have HX2 : Hid _ := hX2
      have HAT : Hid _ := hat
      clear hK2 hat HK1 HX1
      obtain ⟨q0, q1, q2, q3⟩ : wr.cell? ⟨R.heap.size, 0, none⟩ = some (.int .i64 l[j].kind) ∧ wr.cell? ⟨R.heap.size, 1, none⟩ = some (.string (txt l[j].key)) ∧ wr.cell? ⟨R.heap.size, 2, none⟩ = some (.string (txt l[j].val)) ∧ True := by simp [World.cell?, hX2]
      clear hX2
      by_cases hltM : i < M.length
      · obtain ⟨g2, o2, rfl, hg2, y0, y1⟩ := (slQ_of_own HK2.out.row).at i hltM
        have hiM : (i : Int) < (M.length : Int) := by omega
        by_cases hkey : M[i].1 = l[j].key
        · have hq : ((txt M[i].1).toList == (txt l[j].key).toList) = true := by rw [hkey]; simp
          have HAH : Hid _ := at_hit hltM hkey
          clear hkey
          go_wp2_with fail
          go_quiet (fail)
          go_wp2
          go_roundw
          case rel => exact ⟨i + 1, some i, by omega, by simp, rfl, HAH.out, HK2.out.drewN _, HX2.out⟩
          case measure => first | omega | (simp only [intOf]; omega)
        · have hq : ((txt M[i].1).toList == (txt l[j].key).toList) = false := by rw [toList_txt, toList_txt]; simpa using hkey
          have HAH : Hid _ := at_miss HAT.out hltM hkey
          clear hkey
          go_wp2_with fail
          go_quiet (fail)
          go_wp2
          go_roundw
          case rel => exact ⟨i + 1, oo, by omega, by simp, rfl, HAH.out, HK2.out.drewN _, HX2.out⟩
          case measure => first | omega | (simp only [intOf]; omega)
      · obtain rfl : i = M.length := by omega
        clear hltM hi
        by_cases k0 : l[j].kind = 0
        · have hb0 : (l[j].kind == 0) = true := by simp [k0]
          clear k0
          have HI : Hid _ := insert_any _ w.heap.size id 0 v L l[j].key l[j].val _ HK2.out.pg HK2.out.good HKL.out.1 HKL.out.2
          go_wp2_with fail
          refine Calls.mono HI.out ?_
          rintro e x1 ⟨rfl, v1, hp1, ht1, _⟩
          have HP1 : Hid _ := hp1
          have HR1 : Hid _ := own_touch HK2.out.row HK2.out.pg ht1
          have hX1 : x1.heap[R.heap.size]? = some (.cells #[.int .i64 l[j].kind, .string (txt l[j].key), .string (txt l[j].val), .int .u64 (l[j].tm : Int)] 37) := blk_touch HX2.out (by decide) (by decide) HK2.out.pg ht1
          have HLw : Hid (Below w.heap.size w x1) := HK2.out.touch ht1
          have HGd : Hid _ := ins_good HK2.out.good l[j].key l[j].val
          clear HI hp1 ht1 q0 q1 q2 q3
          obtain ⟨q0, q1, q2, q3⟩ : x1.cell? ⟨R.heap.size, 0, none⟩ = some (.int .i64 l[j].kind) ∧ x1.cell? ⟨R.heap.size, 1, none⟩ = some (.string (txt l[j].key)) ∧ x1.cell? ⟨R.heap.size, 2, none⟩ = some (.string (txt l[j].val)) ∧ True := by simp [World.cell?, hX1]
          clear hX1
          by_cases hok : (insL L l[j].key l[j].val).2 = 0
          · obtain ⟨hn, hpm⟩ := ins_at_none HK2.out.good HK2.out.perm HAT.out hok
            subst hn
            have HPm : Hid _ := hpm
            rw [hok, show ixI none = (-1 : Int) from rfl]
            have HO0 : Hid _ := World.ownsRow.alloc HR1.out (.cells #[.string (txt l[j].key), .string (txt l[j].val)] 59)
            have hsz := HLw.out.size
            clear hok hpm
            go_wp2_with (at_builtin; refine wpList_append_own _ rfl _ _ 41 rfl w.heap.size 59 i0 _ 2 32 Try.underlying41 hi0 hz0 hz1 hz2 rfl (by decide) (.slice a2 M.length c2) M.length (pcells M) rfl HO0.out ⟨x1.heap.size, 0, none⟩ 1 1 [.string (txt l[j].key), .string (txt l[j].val)] rfl rfl (cells_two' (heap_alloc_new _ _)) (by intro u hu; simp at hu; rcases hu with rfl | rfl <;> rfl) (by unfold maxLen; omega) (by omega) (by simp; omega) ?_; intro v' y1 hown hgrow _; obtain ⟨a3, c3, rfl⟩ := ownsRow_shape hown; have HOW : Hid _ := hown; have HGW : Hid _ := hgrow; clear hown hgrow)
            have HK9 : Hid (Kp7 w id v1 (insL L l[j].key l[j].val).1 a3 c3 (M ++ [(l[j].key, l[j].val)]) y1) := by
              refine ⟨pg_grown (HP1.out.below ((Below.refl _ _).alloc (Nat.le_refl _) _) (Nat.le_refl _)) HO0.out HGW.out, HGd.out, ?_, HPm.out, (HLw.out.alloc HLw.out.size _).grown HGW.out (by simp; omega) (fun k hk => (World.ownsRow.lt HO0.out k hk).1)⟩
              rw [pcells_append, List.length_append]
              exact HOW.out
            rw [show M.length + 1 = (M ++ [(l[j].key, l[j].val)]).length by simp]
            clear HOW HGW HO0 HPm HGd HP1 HR1 q0 q1 q2 q3
            have hfw : (M ++ [(l[j].key, l[j].val)]).length ≤ 64 := HK9.out.few
            have HGe : Hid (∀ (i3 : Nat) (hi3 : i3 < (M ++ [(l[j].key, l[j].val)]).length), getL ((insL L l[j].key l[j].val).1) (M ++ [(l[j].key, l[j].val)])[i3].1 = some (M ++ [(l[j].key, l[j].val)])[i3].2) := fun i3 hi3 => mem_get HK9.out.good (HK9.out.perm.mem_iff.1 (List.getElem_mem hi3))
            have HPL : Hid ((M ++ [(l[j].key, l[j].val)]).length = (prsL ((insL L l[j].key l[j].val).1)).length) := HK9.out.perm.length_eq
            have hfl : ((insL L l[j].key l[j].val).1).length ≤ 64 := HK9.out.good.few
            generalize hMM : (M ++ [(l[j].key, l[j].val)]) = MM at *
            generalize hLL : ((insL L l[j].key l[j].val).1) = LL at *
            generalize hAA : (a3 : Option Addr) = AA at *
            clear hMM hLL hAA
            go_loopw [15] (fun k W => ∃ i : Nat, i ≤ MM.length ∧ k = .int .i64 i ∧ Kp7 w id v1 LL AA c3 MM W) (fun k _ => MM.length - (intOf k).toNat)
            case atStart => exact ⟨0, Nat.zero_le _, rfl, HK9.out⟩
            case round =>
              obtain ⟨i, hi, rfl, hK3⟩ := hrel
              have HK3 : Hid _ := hK3
              clear hK3
              by_cases hlt3 : i < MM.length
              · obtain ⟨g3, o3, rfl, hg3, y0, y1⟩ := (slQ_of_own HK3.out.row).at i hlt3
                have hi3 : (i : Int) < (MM.length : Int) := by omega
                have HGET : Hid _ := get_any _ w.heap.size id 0 v1 LL MM[i].1 _ HK3.out.pg (by omega)
                go_wp2_with fail
                refine Calls.mono HGET.out ?_
                rintro e x3 ⟨rfl, hb3⟩
                rw [HGe.out i hlt3]
                have HK4 : Hid _ := HK3.out.call hb3
                obtain ⟨g4, o4, ea4, hg4, z0, z1⟩ := (slQ_of_own HK4.out.row).at i hlt3
                simp at ea4
                obtain ⟨rfl, rfl⟩ := ea4
                have hqq : ((txt MM[i].2).toList == (txt MM[i].2).toList) = true := by simp
                clear hb3 HK3 HGET y0 y1
                dsimp only [Option.getD_some, Option.isSome_some]
                go_wp2_with fail
                go_roundw
                case rel => exact ⟨i + 1, by omega, by simp, HK4.out⟩
                case measure => first | omega | (simp only [intOf]; omega)
              · obtain rfl : i = MM.length := by omega
                go_wp2_with fail
                refine Calls.mono (pairs_any _ w.heap.size id 0 v1 LL _ HK3.out.pg hfl) ?_
                rintro e x5 ⟨a5, c5, L5, rfl, hp5, _, _, hb5⟩
                have hl5 : L5.length = MM.length := by rw [hp5.length_eq, HPL.out]
                have HK5 : Hid _ := HK3.out.call hb5
                rw [hl5]
                have hnl : ((MM.length : Int) != (MM.length : Int)) = false := by simp
                clear hp5 hb5 hl5 HK3
                go_wp2_with fail
                go_roundw
                case rel => exact ⟨j + 1, v1, LL, AA, c3, MM, by omega, by simp, rfl, HK5.out⟩
                case measure => first | omega | (simp only [intOf]; omega)

          · have HPe : Hid ((insL L l[j].key l[j].val).1 = L) := ins_err hok
            have HK9 : Hid (Kp7 w id v1 L a2 c2 M x1) := ⟨by have := HP1.out; rw [HPe.out] at this; exact this, HK2.out.good, HR1.out, HK2.out.perm, HLw.out⟩
            have HNI : Hid ((insL L l[j].key l[j].val).2 = 9 → oo ≠ none) := fun e => ins_nine HK2.out.perm HAT.out e
            obtain ⟨er, her⟩ : ∃ er, er = (insL L l[j].key l[j].val).2 := ⟨_, rfl⟩
            rw [← her] at hok HNI ⊢
            have he0 : (er == 0) = false := by simpa using hok
            have hkk : ((er == 9) = false) ∨ ((er == 9) = true ∧ ∃ i, oo = some i) := by
              by_cases e9 : er = 9
              · refine .inr ⟨by simp [e9], ?_⟩
                have := HNI.out e9
                cases oo with
                | none => exact absurd rfl this
                | some i => exact ⟨i, rfl⟩
              · exact .inl (by simpa using e9)
            clear her hok HGd HP1 HR1 q0 q1 q2 q3 HPe
            rcases hkk with he9 | ⟨he9, i, rfl⟩
            · go_wp2_with fail
              clear he0 he9 hb0
              have hfw : (M).length ≤ 64 := HK9.out.few
              have HGe : Hid (∀ (i3 : Nat) (hi3 : i3 < (M).length), getL (L) (M)[i3].1 = some (M)[i3].2) := fun i3 hi3 => mem_get HK9.out.good (HK9.out.perm.mem_iff.1 (List.getElem_mem hi3))
              have HPL : Hid ((M).length = (prsL (L)).length) := HK9.out.perm.length_eq
              have hfl : (L).length ≤ 64 := HK9.out.good.few
              generalize hMM : (M) = MM at *
              generalize hLL : (L) = LL at *
              generalize hAA : (a2 : Option Addr) = AA at *
              clear hMM hLL hAA
              go_loopw [15] (fun k W => ∃ i : Nat, i ≤ MM.length ∧ k = .int .i64 i ∧ Kp7 w id v1 LL AA c2 MM W) (fun k _ => MM.length - (intOf k).toNat)
              case atStart => exact ⟨0, Nat.zero_le _, rfl, HK9.out⟩
              case round =>
                obtain ⟨i, hi, rfl, hK3⟩ := hrel
                have HK3 : Hid _ := hK3
                clear hK3
                by_cases hlt3 : i < MM.length
                · obtain ⟨g3, o3, rfl, hg3, y0, y1⟩ := (slQ_of_own HK3.out.row).at i hlt3
                  have hi3 : (i : Int) < (MM.length : Int) := by omega
                  have HGET : Hid _ := get_any _ w.heap.size id 0 v1 LL MM[i].1 _ HK3.out.pg (by omega)
                  go_wp2_with fail
                  refine Calls.mono HGET.out ?_
                  rintro e x3 ⟨rfl, hb3⟩
                  rw [HGe.out i hlt3]
                  have HK4 : Hid _ := HK3.out.call hb3
                  obtain ⟨g4, o4, ea4, hg4, z0, z1⟩ := (slQ_of_own HK4.out.row).at i hlt3
                  simp at ea4
                  obtain ⟨rfl, rfl⟩ := ea4
                  have hqq : ((txt MM[i].2).toList == (txt MM[i].2).toList) = true := by simp
                  clear hb3 HK3 HGET y0 y1
                  dsimp only [Option.getD_some, Option.isSome_some]
                  go_wp2_with fail
                  go_roundw
                  case rel => exact ⟨i + 1, by omega, by simp, HK4.out⟩
                  case measure => first | omega | (simp only [intOf]; omega)
                · obtain rfl : i = MM.length := by omega
                  go_wp2_with fail
                  refine Calls.mono (pairs_any _ w.heap.size id 0 v1 LL _ HK3.out.pg hfl) ?_
                  rintro e x5 ⟨a5, c5, L5, rfl, hp5, _, _, hb5⟩
                  have hl5 : L5.length = MM.length := by rw [hp5.length_eq, HPL.out]
                  have HK5 : Hid _ := HK3.out.call hb5
                  rw [hl5]
                  have hnl : ((MM.length : Int) != (MM.length : Int)) = false := by simp
                  clear hp5 hb5 hl5 HK3
                  go_wp2_with fail
                  go_roundw
                  case rel => exact ⟨j + 1, v1, LL, AA, c2, MM, by omega, by simp, rfl, HK5.out⟩
                  case measure => first | omega | (simp only [intOf]; omega)

            · rw [show ixI (some i) = (i : Int) from rfl]
              have hi9 : decide ((i : Int) < 0) = false := by simp
              go_wp2_with fail
              clear he0 he9 hb0 hi9
              have hfw : (M).length ≤ 64 := HK9.out.few
              have HGe : Hid (∀ (i3 : Nat) (hi3 : i3 < (M).length), getL (L) (M)[i3].1 = some (M)[i3].2) := fun i3 hi3 => mem_get HK9.out.good (HK9.out.perm.mem_iff.1 (List.getElem_mem hi3))
              have HPL : Hid ((M).length = (prsL (L)).length) := HK9.out.perm.length_eq
              have hfl : (L).length ≤ 64 := HK9.out.good.few
              generalize hMM : (M) = MM at *
              generalize hLL : (L) = LL at *
              generalize hAA : (a2 : Option Addr) = AA at *
              clear hMM hLL hAA
              go_loopw [15] (fun k W => ∃ i : Nat, i ≤ MM.length ∧ k = .int .i64 i ∧ Kp7 w id v1 LL AA c2 MM W) (fun k _ => MM.length - (intOf k).toNat)
              case atStart => exact ⟨0, Nat.zero_le _, rfl, HK9.out⟩
              case round =>
                obtain ⟨i, hi, rfl, hK3⟩ := hrel
                have HK3 : Hid _ := hK3
                clear hK3
                by_cases hlt3 : i < MM.length
                · obtain ⟨g3, o3, rfl, hg3, y0, y1⟩ := (slQ_of_own HK3.out.row).at i hlt3
                  have hi3 : (i : Int) < (MM.length : Int) := by omega
                  have HGET : Hid _ := get_any _ w.heap.size id 0 v1 LL MM[i].1 _ HK3.out.pg (by omega)
                  go_wp2_with fail
                  refine Calls.mono HGET.out ?_
                  rintro e x3 ⟨rfl, hb3⟩
                  rw [HGe.out i hlt3]
                  have HK4 : Hid _ := HK3.out.call hb3
                  obtain ⟨g4, o4, ea4, hg4, z0, z1⟩ := (slQ_of_own HK4.out.row).at i hlt3
                  simp at ea4
                  obtain ⟨rfl, rfl⟩ := ea4
                  have hqq : ((txt MM[i].2).toList == (txt MM[i].2).toList) = true := by simp
                  clear hb3 HK3 HGET y0 y1
                  dsimp only [Option.getD_some, Option.isSome_some]
                  go_wp2_with fail
                  go_roundw
                  case rel => exact ⟨i + 1, by omega, by simp, HK4.out⟩
                  case measure => first | omega | (simp only [intOf]; omega)
                · obtain rfl : i = MM.length := by omega
                  go_wp2_with fail
                  refine Calls.mono (pairs_any _ w.heap.size id 0 v1 LL _ HK3.out.pg hfl) ?_
                  rintro e x5 ⟨a5, c5, L5, rfl, hp5, _, _, hb5⟩
                  have hl5 : L5.length = MM.length := by rw [hp5.length_eq, HPL.out]
                  have HK5 : Hid _ := HK3.out.call hb5
                  rw [hl5]
                  have hnl : ((MM.length : Int) != (MM.length : Int)) = false := by simp
                  clear hp5 hb5 hl5 HK3
                  go_wp2_with fail
                  go_roundw
                  case rel => exact ⟨j + 1, v1, LL, AA, c2, MM, by omega, by simp, rfl, HK5.out⟩
                  case measure => first | omega | (simp only [intOf]; omega)


        by_cases k1 : l[j].kind = 1
        · have hb0 : (l[j].kind == 0) = false := by simp [k0]
          have hb1 : (l[j].kind == 1) = true := by simp [k1]
          clear k0 k1
          have HI : Hid _ := update_any _ w.heap.size id 0 v L l[j].key l[j].val _ HK2.out.pg HK2.out.good HKL.out.1 HKL.out.2
          go_wp2_with fail
          refine Calls.mono HI.out ?_
          rintro e x1 ⟨rfl, hp1, ht1⟩
          have HP1 : Hid _ := hp1
          have HR1 : Hid _ := own_touch HK2.out.row HK2.out.pg ht1
          have hX1 : x1.heap[R.heap.size]? = some (.cells #[.int .i64 l[j].kind, .string (txt l[j].key), .string (txt l[j].val), .int .u64 (l[j].tm : Int)] 37) := blk_touch HX2.out (by decide) (by decide) HK2.out.pg ht1
          have HLw : Hid (Below w.heap.size w x1) := HK2.out.touch ht1
          have HGd : Hid _ := upd_good HK2.out.good l[j].key l[j].val
          clear HI hp1 ht1 q0 q1 q2 q3
          obtain ⟨q0, q1, q2, q3⟩ : x1.cell? ⟨R.heap.size, 0, none⟩ = some (.int .i64 l[j].kind) ∧ x1.cell? ⟨R.heap.size, 1, none⟩ = some (.string (txt l[j].key)) ∧ x1.cell? ⟨R.heap.size, 2, none⟩ = some (.string (txt l[j].val)) ∧ True := by simp [World.cell?, hX1]
          clear hX1
          by_cases hok : (updL L l[j].key l[j].val).2 = 0
          · obtain ⟨i, hoo, hiM, hpm⟩ := upd_at_some HK2.out.good HK2.out.perm HAT.out hok
            subst hoo
            have hMk : M[i].1 = l[j].key := by obtain ⟨_, _, e⟩ := HAT.out; exact e
            obtain ⟨g, o9, rfl, hg9, y0, y1⟩ := (slQ_of_own HR1.out).at i hiM
            obtain ⟨g', cur, ea, hgc, hgl, hgh⟩ := ownP_some HR1.out (by omega)
            simp at ea
            obtain ⟨rfl, rfl⟩ := ea
            have hfz : x1.frozen? ⟨g, i * 2 + 1, none⟩ = false := by simp [World.frozen?, hgh]
            rw [Nat.zero_add] at y0 y1
            have HPm : Hid _ := hpm
            rw [hok, show ixI (some i) = (i : Int) from rfl]
            have hni : decide ((i : Int) < 0) = false := by simp
            have hi9 : 0 ≤ (i : Int) ∧ (i : Int) < (M.length : Int) := by omega
            have HK9 : Hid (Kp7 w id v (updL L l[j].key l[j].val).1 (some ⟨g, 0, none⟩) c2 (M.set i (l[j].key, l[j].val)) (x1.setCell ⟨g, i * 2 + 1, none⟩ (.string (txt l[j].val)))) := by
              have hgr : x1.grownBy (x1.setCell ⟨g, i * 2 + 1, none⟩ (.string (txt l[j].val))) (Value.slice (some ⟨g, 0, none⟩) M.length c2).ownBlock := ⟨rfl, rfl, rfl, by simp [World.setCell], fun k _ hne => Below.heap_setCell _ _ _ _ (fun e => hne (by rw [e]; rfl))⟩
              have hrow := own_put HR1.out hiM l[j].val
              rw [hMk] at hrow
              refine ⟨pg_grown HP1.out HR1.out hgr, HGd.out, by rw [List.length_set]; exact hrow, HPm.out, HLw.out.grown hgr HLw.out.size (fun k hk => (World.ownsRow.lt HR1.out k hk).1)⟩
            clear hok hpm hMk hgh hgl hgc
            go_wp2_with fail
            rw [show M.length = (M.set i (l[j].key, l[j].val)).length by simp]
            clear HPm HGd HP1 HR1 q0 q1 q2 q3 y0 y1 hfz hni hi9 HAT HK2
            have hfw : (M.set i (l[j].key, l[j].val)).length ≤ 64 := HK9.out.few
            have HGe : Hid (∀ (i3 : Nat) (hi3 : i3 < (M.set i (l[j].key, l[j].val)).length), getL ((updL L l[j].key l[j].val).1) (M.set i (l[j].key, l[j].val))[i3].1 = some (M.set i (l[j].key, l[j].val))[i3].2) := fun i3 hi3 => mem_get HK9.out.good (HK9.out.perm.mem_iff.1 (List.getElem_mem hi3))
            have HPL : Hid ((M.set i (l[j].key, l[j].val)).length = (prsL ((updL L l[j].key l[j].val).1)).length) := HK9.out.perm.length_eq
            have hfl : ((updL L l[j].key l[j].val).1).length ≤ 64 := HK9.out.good.few
            generalize hMM : (M.set i (l[j].key, l[j].val)) = MM at *
            generalize hLL : ((updL L l[j].key l[j].val).1) = LL at *
            generalize hAA : (some ⟨g, 0, none⟩ : Option Addr) = AA at *
            clear hMM hLL hAA
            go_loopw [15] (fun k W => ∃ i : Nat, i ≤ MM.length ∧ k = .int .i64 i ∧ Kp7 w id v LL AA c2 MM W) (fun k _ => MM.length - (intOf k).toNat)
            case atStart => exact ⟨0, Nat.zero_le _, rfl, HK9.out⟩
            case round =>
              obtain ⟨i, hi, rfl, hK3⟩ := hrel
              have HK3 : Hid _ := hK3
              clear hK3
              by_cases hlt3 : i < MM.length
              · obtain ⟨g3, o3, rfl, hg3, y0, y1⟩ := (slQ_of_own HK3.out.row).at i hlt3
                have hi3 : (i : Int) < (MM.length : Int) := by omega
                have HGET : Hid _ := get_any _ w.heap.size id 0 v LL MM[i].1 _ HK3.out.pg (by omega)
                go_wp2_with fail
                refine Calls.mono HGET.out ?_
                rintro e x3 ⟨rfl, hb3⟩
                rw [HGe.out i hlt3]
                have HK4 : Hid _ := HK3.out.call hb3
                obtain ⟨g4, o4, ea4, hg4, z0, z1⟩ := (slQ_of_own HK4.out.row).at i hlt3
                simp at ea4
                obtain ⟨rfl, rfl⟩ := ea4
                have hqq : ((txt MM[i].2).toList == (txt MM[i].2).toList) = true := by simp
                clear hb3 HK3 HGET y0 y1
                dsimp only [Option.getD_some, Option.isSome_some]
                go_wp2_with fail
                go_roundw
                case rel => exact ⟨i + 1, by omega, by simp, HK4.out⟩
                case measure => first | omega | (simp only [intOf]; omega)
              · obtain rfl : i = MM.length := by omega
                go_wp2_with fail
                refine Calls.mono (pairs_any _ w.heap.size id 0 v LL _ HK3.out.pg hfl) ?_
                rintro e x5 ⟨a5, c5, L5, rfl, hp5, _, _, hb5⟩
                have hl5 : L5.length = MM.length := by rw [hp5.length_eq, HPL.out]
                have HK5 : Hid _ := HK3.out.call hb5
                rw [hl5]
                have hnl : ((MM.length : Int) != (MM.length : Int)) = false := by simp
                clear hp5 hb5 hl5 HK3
                go_wp2_with fail
                go_roundw
                case rel => exact ⟨j + 1, v, LL, AA, c2, MM, by omega, by simp, rfl, HK5.out⟩
                case measure => first | omega | (simp only [intOf]; omega)

          · have HPe : Hid ((updL L l[j].key l[j].val).1 = L) := upd_err hok
            have HK9 : Hid (Kp7 w id v L a2 c2 M x1) := ⟨by have := HP1.out; rw [HPe.out] at this; exact this, HK2.out.good, HR1.out, HK2.out.perm, HLw.out⟩
            have HNI : Hid ((updL L l[j].key l[j].val).2 = 8 → oo = none) := fun e => upd_eight HK2.out.good HK2.out.perm HAT.out e
            obtain ⟨er, her⟩ : ∃ er, er = (updL L l[j].key l[j].val).2 := ⟨_, rfl⟩
            rw [← her] at hok HNI ⊢
            have he0 : (er == 0) = false := by simpa using hok
            have hkk : ((er == 8) = false) ∨ ((er == 8) = true ∧ oo = none) := by
              by_cases e9 : er = 8
              · exact .inr ⟨by simp [e9], HNI.out e9⟩
              · exact .inl (by simpa using e9)
            clear her hok HGd HP1 HR1 q0 q1 q2 q3 HPe
            rcases hkk with he9 | ⟨he9, rfl⟩
            · go_wp2_with fail
              clear he0 he9 hb0 hb1
              have hfw : (M).length ≤ 64 := HK9.out.few
              have HGe : Hid (∀ (i3 : Nat) (hi3 : i3 < (M).length), getL (L) (M)[i3].1 = some (M)[i3].2) := fun i3 hi3 => mem_get HK9.out.good (HK9.out.perm.mem_iff.1 (List.getElem_mem hi3))
              have HPL : Hid ((M).length = (prsL (L)).length) := HK9.out.perm.length_eq
              have hfl : (L).length ≤ 64 := HK9.out.good.few
              generalize hMM : (M) = MM at *
              generalize hLL : (L) = LL at *
              generalize hAA : (a2 : Option Addr) = AA at *
              clear hMM hLL hAA
              go_loopw [15] (fun k W => ∃ i : Nat, i ≤ MM.length ∧ k = .int .i64 i ∧ Kp7 w id v LL AA c2 MM W) (fun k _ => MM.length - (intOf k).toNat)
              case atStart => exact ⟨0, Nat.zero_le _, rfl, HK9.out⟩
              case round =>
                obtain ⟨i, hi, rfl, hK3⟩ := hrel
                have HK3 : Hid _ := hK3
                clear hK3
                by_cases hlt3 : i < MM.length
                · obtain ⟨g3, o3, rfl, hg3, y0, y1⟩ := (slQ_of_own HK3.out.row).at i hlt3
                  have hi3 : (i : Int) < (MM.length : Int) := by omega
                  have HGET : Hid _ := get_any _ w.heap.size id 0 v LL MM[i].1 _ HK3.out.pg (by omega)
                  go_wp2_with fail
                  refine Calls.mono HGET.out ?_
                  rintro e x3 ⟨rfl, hb3⟩
                  rw [HGe.out i hlt3]
                  have HK4 : Hid _ := HK3.out.call hb3
                  obtain ⟨g4, o4, ea4, hg4, z0, z1⟩ := (slQ_of_own HK4.out.row).at i hlt3
                  simp at ea4
                  obtain ⟨rfl, rfl⟩ := ea4
                  have hqq : ((txt MM[i].2).toList == (txt MM[i].2).toList) = true := by simp
                  clear hb3 HK3 HGET y0 y1
                  dsimp only [Option.getD_some, Option.isSome_some]
                  go_wp2_with fail
                  go_roundw
                  case rel => exact ⟨i + 1, by omega, by simp, HK4.out⟩
                  case measure => first | omega | (simp only [intOf]; omega)
                · obtain rfl : i = MM.length := by omega
                  go_wp2_with fail
                  refine Calls.mono (pairs_any _ w.heap.size id 0 v LL _ HK3.out.pg hfl) ?_
                  rintro e x5 ⟨a5, c5, L5, rfl, hp5, _, _, hb5⟩
                  have hl5 : L5.length = MM.length := by rw [hp5.length_eq, HPL.out]
                  have HK5 : Hid _ := HK3.out.call hb5
                  rw [hl5]
                  have hnl : ((MM.length : Int) != (MM.length : Int)) = false := by simp
                  clear hp5 hb5 hl5 HK3
                  go_wp2_with fail
                  go_roundw
                  case rel => exact ⟨j + 1, v, LL, AA, c2, MM, by omega, by simp, rfl, HK5.out⟩
                  case measure => first | omega | (simp only [intOf]; omega)

            · rw [show ixI none = (-1 : Int) from rfl]
              go_wp2_with fail
              clear he0 he9 hb0 hb1
              have hfw : (M).length ≤ 64 := HK9.out.few
              have HGe : Hid (∀ (i3 : Nat) (hi3 : i3 < (M).length), getL (L) (M)[i3].1 = some (M)[i3].2) := fun i3 hi3 => mem_get HK9.out.good (HK9.out.perm.mem_iff.1 (List.getElem_mem hi3))
              have HPL : Hid ((M).length = (prsL (L)).length) := HK9.out.perm.length_eq
              have hfl : (L).length ≤ 64 := HK9.out.good.few
              generalize hMM : (M) = MM at *
              generalize hLL : (L) = LL at *
              generalize hAA : (a2 : Option Addr) = AA at *
              clear hMM hLL hAA
              go_loopw [15] (fun k W => ∃ i : Nat, i ≤ MM.length ∧ k = .int .i64 i ∧ Kp7 w id v LL AA c2 MM W) (fun k _ => MM.length - (intOf k).toNat)
              case atStart => exact ⟨0, Nat.zero_le _, rfl, HK9.out⟩
              case round =>
                obtain ⟨i, hi, rfl, hK3⟩ := hrel
                have HK3 : Hid _ := hK3
                clear hK3
                by_cases hlt3 : i < MM.length
                · obtain ⟨g3, o3, rfl, hg3, y0, y1⟩ := (slQ_of_own HK3.out.row).at i hlt3
                  have hi3 : (i : Int) < (MM.length : Int) := by omega
                  have HGET : Hid _ := get_any _ w.heap.size id 0 v LL MM[i].1 _ HK3.out.pg (by omega)
                  go_wp2_with fail
                  refine Calls.mono HGET.out ?_
                  rintro e x3 ⟨rfl, hb3⟩
                  rw [HGe.out i hlt3]
                  have HK4 : Hid _ := HK3.out.call hb3
                  obtain ⟨g4, o4, ea4, hg4, z0, z1⟩ := (slQ_of_own HK4.out.row).at i hlt3
                  simp at ea4
                  obtain ⟨rfl, rfl⟩ := ea4
                  have hqq : ((txt MM[i].2).toList == (txt MM[i].2).toList) = true := by simp
                  clear hb3 HK3 HGET y0 y1
                  dsimp only [Option.getD_some, Option.isSome_some]
                  go_wp2_with fail
                  go_roundw
                  case rel => exact ⟨i + 1, by omega, by simp, HK4.out⟩
                  case measure => first | omega | (simp only [intOf]; omega)
                · obtain rfl : i = MM.length := by omega
                  go_wp2_with fail
                  refine Calls.mono (pairs_any _ w.heap.size id 0 v LL _ HK3.out.pg hfl) ?_
                  rintro e x5 ⟨a5, c5, L5, rfl, hp5, _, _, hb5⟩
                  have hl5 : L5.length = MM.length := by rw [hp5.length_eq, HPL.out]
                  have HK5 : Hid _ := HK3.out.call hb5
                  rw [hl5]
                  have hnl : ((MM.length : Int) != (MM.length : Int)) = false := by simp
                  clear hp5 hb5 hl5 HK3
                  go_wp2_with fail
                  go_roundw
                  case rel => exact ⟨j + 1, v, LL, AA, c2, MM, by omega, by simp, rfl, HK5.out⟩
                  case measure => first | omega | (simp only [intOf]; omega)


        by_cases k2 : l[j].kind = 2
        · have hb0 : (l[j].kind == 0) = false := by simp [k0]
          have hb1 : (l[j].kind == 1) = false := by simp [k1]
          have hb2 : (l[j].kind == 2) = true := by simp [k2]
          clear k0 k1 k2
          have HI : Hid _ := delete_any _ w.heap.size id 0 v L l[j].key _ HK2.out.pg HK2.out.good
          go_wp2_with fail
          refine Calls.mono HI.out ?_
          rintro e x1 ⟨rfl, v1, hp1, ht1, _⟩
          have HP1 : Hid _ := hp1
          have HR1 : Hid _ := own_touch HK2.out.row HK2.out.pg ht1
          have hX1 : x1.heap[R.heap.size]? = some (.cells #[.int .i64 l[j].kind, .string (txt l[j].key), .string (txt l[j].val), .int .u64 (l[j].tm : Int)] 37) := blk_touch HX2.out (by decide) (by decide) HK2.out.pg ht1
          have HLw : Hid (Below w.heap.size w x1) := HK2.out.touch ht1
          have HGd : Hid _ := del_good HK2.out.good l[j].key
          clear HI hp1 ht1 q0 q1 q2 q3
          obtain ⟨q0, q1, q2, q3⟩ : x1.cell? ⟨R.heap.size, 0, none⟩ = some (.int .i64 l[j].kind) ∧ x1.cell? ⟨R.heap.size, 1, none⟩ = some (.string (txt l[j].key)) ∧ x1.cell? ⟨R.heap.size, 2, none⟩ = some (.string (txt l[j].val)) ∧ True := by simp [World.cell?, hX1]
          clear hX1
          rcases oo with _ | i
          · have hdl := del_at_none HK2.out.perm HAT.out
            have HK9 : Hid (Kp7 w id v1 L a2 c2 M x1) := ⟨by have := HP1.out; rw [hdl] at this; exact this, HK2.out.good, HR1.out, HK2.out.perm, HLw.out⟩
            rw [hdl, show ixI none = (-1 : Int) from rfl]
            clear hdl HGd HP1 HR1 q0 q1 q2 q3
            go_wp2_with fail
            have hfw : (M).length ≤ 64 := HK9.out.few
            have HGe : Hid (∀ (i3 : Nat) (hi3 : i3 < (M).length), getL (L) (M)[i3].1 = some (M)[i3].2) := fun i3 hi3 => mem_get HK9.out.good (HK9.out.perm.mem_iff.1 (List.getElem_mem hi3))
            have HPL : Hid ((M).length = (prsL (L)).length) := HK9.out.perm.length_eq
            have hfl : (L).length ≤ 64 := HK9.out.good.few
            generalize hMM : (M) = MM at *
            generalize hLL : (L) = LL at *
            generalize hAA : (a2 : Option Addr) = AA at *
            clear hMM hLL hAA
            go_loopw [15] (fun k W => ∃ i : Nat, i ≤ MM.length ∧ k = .int .i64 i ∧ Kp7 w id v1 LL AA c2 MM W) (fun k _ => MM.length - (intOf k).toNat)
            case atStart => exact ⟨0, Nat.zero_le _, rfl, HK9.out⟩
            case round =>
              obtain ⟨i, hi, rfl, hK3⟩ := hrel
              have HK3 : Hid _ := hK3
              clear hK3
              by_cases hlt3 : i < MM.length
              · obtain ⟨g3, o3, rfl, hg3, y0, y1⟩ := (slQ_of_own HK3.out.row).at i hlt3
                have hi3 : (i : Int) < (MM.length : Int) := by omega
                have HGET : Hid _ := get_any _ w.heap.size id 0 v1 LL MM[i].1 _ HK3.out.pg (by omega)
                go_wp2_with fail
                refine Calls.mono HGET.out ?_
                rintro e x3 ⟨rfl, hb3⟩
                rw [HGe.out i hlt3]
                have HK4 : Hid _ := HK3.out.call hb3
                obtain ⟨g4, o4, ea4, hg4, z0, z1⟩ := (slQ_of_own HK4.out.row).at i hlt3
                simp at ea4
                obtain ⟨rfl, rfl⟩ := ea4
                have hqq : ((txt MM[i].2).toList == (txt MM[i].2).toList) = true := by simp
                clear hb3 HK3 HGET y0 y1
                dsimp only [Option.getD_some, Option.isSome_some]
                go_wp2_with fail
                go_roundw
                case rel => exact ⟨i + 1, by omega, by simp, HK4.out⟩
                case measure => first | omega | (simp only [intOf]; omega)
              · obtain rfl : i = MM.length := by omega
                go_wp2_with fail
                refine Calls.mono (pairs_any _ w.heap.size id 0 v1 LL _ HK3.out.pg hfl) ?_
                rintro e x5 ⟨a5, c5, L5, rfl, hp5, _, _, hb5⟩
                have hl5 : L5.length = MM.length := by rw [hp5.length_eq, HPL.out]
                have HK5 : Hid _ := HK3.out.call hb5
                rw [hl5]
                have hnl : ((MM.length : Int) != (MM.length : Int)) = false := by simp
                clear hp5 hb5 hl5 HK3
                go_wp2_with fail
                go_roundw
                case rel => exact ⟨j + 1, v1, LL, AA, c2, MM, by omega, by simp, rfl, HK5.out⟩
                case measure => first | omega | (simp only [intOf]; omega)

          · obtain ⟨hd0, hiM, hpm⟩ := del_at_some HK2.out.good HK2.out.perm HAT.out
            obtain ⟨g, cur, rfl, hgc, hgl, hgh⟩ := ownP_some HR1.out (by omega)
            have HPm : Hid _ := hpm
            rw [hd0, show ixI (some i) = (i : Int) from rfl]
            have hpi : decide (0 ≤ (i : Int)) = true := by simp
            have n1 : (i : Int) ≤ (c2 : Int) := by omega
            have n2 : (i : Int) + 1 ≤ (M.length : Int) := by omega
            have n3 : 0 ≤ (i : Int) := by omega
            have n4 : i ≤ c2 := by omega
            have n5 : i + 1 ≤ M.length := by omega
            have n6 : M.length ≤ c2 := by omega
            have hwr : IntKind.i64.wrap ((i : Int) + 1) = (i : Int) + 1 := by simp [IntKind.wrap, IntKind.bits, IntKind.signed]; omega
            have hb9 : 0 ≤ (i : Int) + 1 ∧ (i : Int) + 1 ≤ (M.length : Int) := by omega
            have HSZ : Hid (w.heap.size ≤ x1.drew.heap.size) := HLw.out.size
            have HPD : Hid (PgOk x1.drew w.heap.size w.heap.size id 0 v1 (delL L l[j].key).1) := HP1.out.below (Below.refl _ _).drew (Nat.le_refl _)
            have HLD : Hid (Below w.heap.size w x1.drew) := HLw.out.drew
            have HON : Hid (∀ u ∈ pcells (M.drop (i + 1)), u.oneCell' = true) := fun u hu => by
              simp only [pcells, List.mem_flatMap] at hu
              obtain ⟨y, _, hy⟩ := hu
              simp [encP] at hy
              rcases hy with rfl | rfl <;> rfl
            clear hd0 hpm hgh hgl
            by_cases hcc : c2 = i + 1
            · have hdn : M.drop (i + 1) = [] := List.drop_of_length_le (by omega)
              subst hcc
              have n9 : (i : Int) ≤ (i : Int) + 1 := by omega
              have HND : Hid (∀ j' u, (pcells (M.drop (i + 1)))[j']? = some u → x1.drew.cell? ((⟨g, 0, none⟩ : Addr).add j') = some u) := fun j' u hu => by rw [hdn] at hu; simp [pcells] at hu
              clear hdn
              have hlen9 : (pcells (M.drop (i + 1))).length = (M.length - (i + 1)) * 2 := by rw [pcells_length, List.length_drop]
              have HOT : Hid (World.ownsRow x1.drew w.heap.size 59 2 (.slice (some ⟨g, 0, none⟩) i (i + 1)) i (pcells (M.take i))) := own_take HR1.out (by omega)
              go_wp2_with fail
              refine wp_region_held_drew (S := (fun _ => True)) (by kernel_rfl) trivial (fun hHeld => ?_)
              refine wpAnyH_take (i := 0) (v := ?_) rfl (by kernel_rfl) (by kernel_rfl) (by kernel_rfl) (fun _ _ _ h => h) (Or.inl ⟨by rfl, ?_⟩) (by assumption) ?_
              rotate_left
              · (intro W hSw; (try dsimp only at hSw); go_simp; try with_reducible rfl)
              try simp only [Act.put, List.getElem_toArray, List.getElem_cons_zero, List.setIfInBounds_toArray, List.set_cons_zero, List.set_cons_succ]
              refine wpAnyH_take (i := 1) (v := ?_) rfl (by kernel_rfl) (by kernel_rfl) (by kernel_rfl) (fun _ _ _ h => h) (Or.inl ⟨by rfl, ?_⟩) (by assumption) ?_
              rotate_left
              · (intro W hSw; (try dsimp only at hSw); go_simp; try with_reducible rfl)
              try simp only [Act.put, List.getElem_toArray, List.getElem_cons_zero, List.getElem_cons_succ, List.setIfInBounds_toArray, List.set_cons_zero, List.set_cons_succ]
              refine wpAnyH_take (i := 2) (v := ?_) rfl (by kernel_rfl) (by kernel_rfl) (by kernel_rfl) (fun _ _ _ h => h) (Or.inl ⟨by rfl, ?_⟩) (by assumption) ?_
              rotate_left
              · (intro W hSw; (try dsimp only at hSw); go_simp; try with_reducible rfl)
              try simp only [Act.put, List.getElem_toArray, List.getElem_cons_zero, List.getElem_cons_succ, List.setIfInBounds_toArray, List.set_cons_zero, List.set_cons_succ]
              refine wpAnyH_take (i := 3) (v := ?_) rfl (by kernel_rfl) (by kernel_rfl) (by kernel_rfl) (fun _ _ _ h => h) (Or.inl ⟨by rfl, ?_⟩) (by assumption) ?_
              rotate_left
              · (intro W hSw; (try dsimp only at hSw); go_simp; try with_reducible rfl)
              try simp only [Act.put, List.getElem_toArray, List.getElem_cons_zero, List.getElem_cons_succ, List.setIfInBounds_toArray, List.set_cons_zero, List.set_cons_succ]
              refine wpAnyH_take (i := 4) (v := ?_) rfl (by kernel_rfl) (by kernel_rfl) (by kernel_rfl) (fun _ _ _ h => h) (Or.inl ⟨by rfl, ?_⟩) (by assumption) ?_
              rotate_left
              · (intro W hSw; (try dsimp only at hSw); go_simp; try with_reducible rfl)
              try simp only [Act.put, List.getElem_toArray, List.getElem_cons_zero, List.getElem_cons_succ, List.setIfInBounds_toArray, List.set_cons_zero, List.set_cons_succ]
              refine wpAnyH_take (i := 5) (v := ?_) rfl (by kernel_rfl) (by kernel_rfl) (by kernel_rfl) (fun _ _ _ h => h) (Or.inl ⟨by rfl, ?_⟩) (by assumption) ?_
              rotate_left
              · (intro W hSw; (try dsimp only at hSw); go_simp; try with_reducible rfl)
              try simp only [Act.put, List.getElem_toArray, List.getElem_cons_zero, List.getElem_cons_succ, List.setIfInBounds_toArray, List.set_cons_zero, List.set_cons_succ]
              refine wpAnyH_take (i := 6) (v := ?_) rfl (by kernel_rfl) (by kernel_rfl) (by kernel_rfl) (fun _ _ _ h => h) (Or.inl ⟨by rfl, ?_⟩) (by assumption) ?_
              rotate_left
              · (intro W hSw; (try dsimp only at hSw); go_simp; try with_reducible rfl)
              try simp only [Act.put, List.getElem_toArray, List.getElem_cons_zero, List.getElem_cons_succ, List.setIfInBounds_toArray, List.set_cons_zero, List.set_cons_succ]
              refine wpAnyH_ready (rs := [7]) (by kernel_rfl) (by simp) ?_
              refine AllReadyH.cons rfl (fun K hK => ?_) AllReadyH.nil
              obtain ⟨v', y1, hr, hown, hgrow, _⟩ := run_append_own (P := Try.prog) x1.drew w.heap.size 41 41 59 i0 (.agg #[.string ⟨#[]⟩, .string ⟨#[]⟩]) 2 32 Try.underlying41 hi0 hz0 hz1 hz2 rfl (by decide) (.slice (some ⟨g, 0, none⟩) i (i + 1)) i (pcells (M.take i)) HOT.out ⟨g, 0, none⟩ (M.length - (i + 1)) ((i + 1) - (i + 1)) (pcells (M.drop (i + 1))) hlen9 HND.out HON.out (by unfold maxLen; omega) (by omega) HSZ.out
              obtain ⟨a3, c3, rfl⟩ := ownsRow_shape hown
              obtain ⟨n9, hn9⟩ : ∃ n9, n9 = i + (M.length - (i + 1)) := ⟨_, rfl⟩
              rw [← hn9] at hr hown
              have HN9 : Hid (n9 = (M.take i ++ M.drop (i + 1)).length) := show n9 = (M.take i ++ M.drop (i + 1)).length from by rw [hn9, List.length_append, List.length_take, List.length_drop, Nat.min_eq_left (by omega)]
              clear hn9
              have HOW : Hid _ := hown
              have HGW : Hid _ := hgrow
              clear hown hgrow
              rw [if_pos (by kernel_rfl)]
              refine operwp_append _ _ _ _ _ (.tmp 134) (.tmp 138) 41 rfl _ _ rfl rfl _ _ (show (Builtin.append_ #[41, 41] 41 #[.slice (some ⟨g, 0, none⟩) i (i + 1), .slice (some ⟨g, 0, none⟩) 0 0]).run Try.prog x1.drew = .ok (.slice a3 n9 c3) y1 by rw [show M.length - (i + 1) = 0 by omega, show i + 1 - (i + 1) = 0 by omega] at hr; exact hr) ?_
              clear hr
              refine hK.out _ _ trivial (fun hHeld => ?_)
              clear hK K
              try simp only [Act.put, List.getElem_toArray, List.getElem_cons_zero, List.getElem_cons_succ, List.setIfInBounds_toArray, List.set_cons_zero, List.set_cons_succ]
              refine wpAnyH_take (i := 8) (v := ?_) rfl (by kernel_rfl) (by kernel_rfl) (by kernel_rfl) (fun _ _ _ h => h) (Or.inl ⟨by rfl, ?_⟩) (by assumption) ?_
              rotate_left
              · (intro W hSw; (try dsimp only at hSw); go_simp; try with_reducible rfl)
              try simp only [Act.put, List.getElem_toArray, List.getElem_cons_zero, List.getElem_cons_succ, List.setIfInBounds_toArray, List.set_cons_zero, List.set_cons_succ]
              refine wpAnyH_done (by kernel_rfl) ?_ _
              · have HK9 : Hid (Kp7 w id v1 (delL L l[j].key).1 a3 c3 (M.take i ++ M.drop (i + 1)) y1) := by
                  refine ⟨pg_grown HPD.out HOT.out HGW.out, HGd.out, ?_, HPm.out, HLD.out.grown HGW.out HSZ.out (fun k hk => (World.ownsRow.lt HOT.out k hk).1)⟩
                  rw [pcells_append, ← HN9.out]
                  exact HOW.out
                clear HOW HGW HOT HND HON HPm HGd HP1 HR1 q0 q1 q2 q3 HAT HK2
                go_wp2_with fail
                rw [HN9.out]
                clear HN9
                have hfw : (M.take i ++ M.drop (i + 1)).length ≤ 64 := HK9.out.few
                have HGe : Hid (∀ (i3 : Nat) (hi3 : i3 < (M.take i ++ M.drop (i + 1)).length), getL ((delL L l[j].key).1) (M.take i ++ M.drop (i + 1))[i3].1 = some (M.take i ++ M.drop (i + 1))[i3].2) := fun i3 hi3 => mem_get HK9.out.good (HK9.out.perm.mem_iff.1 (List.getElem_mem hi3))
                have HPL : Hid ((M.take i ++ M.drop (i + 1)).length = (prsL ((delL L l[j].key).1)).length) := HK9.out.perm.length_eq
                have hfl : ((delL L l[j].key).1).length ≤ 64 := HK9.out.good.few
                generalize hMM : (M.take i ++ M.drop (i + 1)) = MM at *
                generalize hLL : ((delL L l[j].key).1) = LL at *
                generalize hAA : (a3 : Option Addr) = AA at *
                clear hMM hLL hAA
                go_loopw [15] (fun k W => ∃ i : Nat, i ≤ MM.length ∧ k = .int .i64 i ∧ Kp7 w id v1 LL AA c3 MM W) (fun k _ => MM.length - (intOf k).toNat)
                case atStart => exact ⟨0, Nat.zero_le _, rfl, HK9.out⟩
                case round =>
                  obtain ⟨i, hi, rfl, hK3⟩ := hrel
                  have HK3 : Hid _ := hK3
                  clear hK3
                  by_cases hlt3 : i < MM.length
                  · obtain ⟨g3, o3, rfl, hg3, y0, y1⟩ := (slQ_of_own HK3.out.row).at i hlt3
                    have hi3 : (i : Int) < (MM.length : Int) := by omega
                    have HGET : Hid _ := get_any _ w.heap.size id 0 v1 LL MM[i].1 _ HK3.out.pg (by omega)
                    go_wp2_with fail
                    refine Calls.mono HGET.out ?_
                    rintro e x3 ⟨rfl, hb3⟩
                    rw [HGe.out i hlt3]
                    have HK4 : Hid _ := HK3.out.call hb3
                    obtain ⟨g4, o4, ea4, hg4, z0, z1⟩ := (slQ_of_own HK4.out.row).at i hlt3
                    simp at ea4
                    obtain ⟨rfl, rfl⟩ := ea4
                    have hqq : ((txt MM[i].2).toList == (txt MM[i].2).toList) = true := by simp
                    clear hb3 HK3 HGET y0 y1
                    dsimp only [Option.getD_some, Option.isSome_some]
                    go_wp2_with fail
                    go_roundw
                    case rel => exact ⟨i + 1, by omega, by simp, HK4.out⟩
                    case measure => first | omega | (simp only [intOf]; omega)
                  · obtain rfl : i = MM.length := by omega
                    go_wp2_with fail
                    refine Calls.mono (pairs_any _ w.heap.size id 0 v1 LL _ HK3.out.pg hfl) ?_
                    rintro e x5 ⟨a5, c5, L5, rfl, hp5, _, _, hb5⟩
                    have hl5 : L5.length = MM.length := by rw [hp5.length_eq, HPL.out]
                    have HK5 : Hid _ := HK3.out.call hb5
                    rw [hl5]
                    have hnl : ((MM.length : Int) != (MM.length : Int)) = false := by simp
                    clear hp5 hb5 hl5 HK3
                    go_wp2_with fail
                    go_roundw
                    case rel => exact ⟨j + 1, v1, LL, AA, c3, MM, by omega, by simp, rfl, HK5.out⟩
                    case measure => first | omega | (simp only [intOf]; omega)

            · have n7 : ¬ c2 ≤ i + 1 := by omega
              have n8 : ¬ c2 - (i + 1) = 0 := by omega
              have HND : Hid (∀ j' u, (pcells (M.drop (i + 1)))[j']? = some u → x1.drew.cell? ((⟨g, (i + 1) * 2, none⟩ : Addr).add j') = some u) := own_drop HR1.out n5
              have hlen9 : (pcells (M.drop (i + 1))).length = (M.length - (i + 1)) * 2 := by rw [pcells_length, List.length_drop]
              have HOT : Hid (World.ownsRow x1.drew w.heap.size 59 2 (.slice (some ⟨g, 0, none⟩) i c2) i (pcells (M.take i))) := own_take HR1.out (by omega)
              go_wp2_with fail
              refine wp_region_held_drew (S := (fun _ => True)) (by kernel_rfl) trivial (fun hHeld => ?_)
              refine wpAnyH_take (i := 0) (v := ?_) rfl (by kernel_rfl) (by kernel_rfl) (by kernel_rfl) (fun _ _ _ h => h) (Or.inl ⟨by rfl, ?_⟩) (by assumption) ?_
              rotate_left
              · (intro W hSw; (try dsimp only at hSw); go_simp; try with_reducible rfl)
              try simp only [Act.put, List.getElem_toArray, List.getElem_cons_zero, List.setIfInBounds_toArray, List.set_cons_zero, List.set_cons_succ]
              refine wpAnyH_take (i := 1) (v := ?_) rfl (by kernel_rfl) (by kernel_rfl) (by kernel_rfl) (fun _ _ _ h => h) (Or.inl ⟨by rfl, ?_⟩) (by assumption) ?_
              rotate_left
              · (intro W hSw; (try dsimp only at hSw); go_simp; try with_reducible rfl)
              try simp only [Act.put, List.getElem_toArray, List.getElem_cons_zero, List.getElem_cons_succ, List.setIfInBounds_toArray, List.set_cons_zero, List.set_cons_succ]
              refine wpAnyH_take (i := 2) (v := ?_) rfl (by kernel_rfl) (by kernel_rfl) (by kernel_rfl) (fun _ _ _ h => h) (Or.inl ⟨by rfl, ?_⟩) (by assumption) ?_
              rotate_left
              · (intro W hSw; (try dsimp only at hSw); go_simp; try with_reducible rfl)
              try simp only [Act.put, List.getElem_toArray, List.getElem_cons_zero, List.getElem_cons_succ, List.setIfInBounds_toArray, List.set_cons_zero, List.set_cons_succ]
              refine wpAnyH_take (i := 3) (v := ?_) rfl (by kernel_rfl) (by kernel_rfl) (by kernel_rfl) (fun _ _ _ h => h) (Or.inl ⟨by rfl, ?_⟩) (by assumption) ?_
              rotate_left
              · (intro W hSw; (try dsimp only at hSw); go_simp; try with_reducible rfl)
              try simp only [Act.put, List.getElem_toArray, List.getElem_cons_zero, List.getElem_cons_succ, List.setIfInBounds_toArray, List.set_cons_zero, List.set_cons_succ]
              refine wpAnyH_take (i := 4) (v := ?_) rfl (by kernel_rfl) (by kernel_rfl) (by kernel_rfl) (fun _ _ _ h => h) (Or.inl ⟨by rfl, ?_⟩) (by assumption) ?_
              rotate_left
              · (intro W hSw; (try dsimp only at hSw); go_simp; try with_reducible rfl)
              try simp only [Act.put, List.getElem_toArray, List.getElem_cons_zero, List.getElem_cons_succ, List.setIfInBounds_toArray, List.set_cons_zero, List.set_cons_succ]
              refine wpAnyH_take (i := 5) (v := ?_) rfl (by kernel_rfl) (by kernel_rfl) (by kernel_rfl) (fun _ _ _ h => h) (Or.inl ⟨by rfl, ?_⟩) (by assumption) ?_
              rotate_left
              · (intro W hSw; (try dsimp only at hSw); go_simp; try with_reducible rfl)
              try simp only [Act.put, List.getElem_toArray, List.getElem_cons_zero, List.getElem_cons_succ, List.setIfInBounds_toArray, List.set_cons_zero, List.set_cons_succ]
              refine wpAnyH_take (i := 6) (v := ?_) rfl (by kernel_rfl) (by kernel_rfl) (by kernel_rfl) (fun _ _ _ h => h) (Or.inl ⟨by rfl, ?_⟩) (by assumption) ?_
              rotate_left
              · (intro W hSw; (try dsimp only at hSw); go_simp; try with_reducible rfl)
              try simp only [Act.put, List.getElem_toArray, List.getElem_cons_zero, List.getElem_cons_succ, List.setIfInBounds_toArray, List.set_cons_zero, List.set_cons_succ]
              refine wpAnyH_ready (rs := [7]) (by kernel_rfl) (by simp) ?_
              refine AllReadyH.cons rfl (fun K hK => ?_) AllReadyH.nil
              obtain ⟨v', y1, hr, hown, hgrow, _⟩ := run_append_own (P := Try.prog) x1.drew w.heap.size 41 41 59 i0 (.agg #[.string ⟨#[]⟩, .string ⟨#[]⟩]) 2 32 Try.underlying41 hi0 hz0 hz1 hz2 rfl (by decide) (.slice (some ⟨g, 0, none⟩) i c2) i (pcells (M.take i)) HOT.out ⟨g, (i + 1) * 2, none⟩ (M.length - (i + 1)) (c2 - (i + 1)) (pcells (M.drop (i + 1))) hlen9 HND.out HON.out (by unfold maxLen; omega) (by omega) HSZ.out
              obtain ⟨a3, c3, rfl⟩ := ownsRow_shape hown
              obtain ⟨n9, hn9⟩ : ∃ n9, n9 = i + (M.length - (i + 1)) := ⟨_, rfl⟩
              rw [← hn9] at hr hown
              have HN9 : Hid (n9 = (M.take i ++ M.drop (i + 1)).length) := show n9 = (M.take i ++ M.drop (i + 1)).length from by rw [hn9, List.length_append, List.length_take, List.length_drop, Nat.min_eq_left (by omega)]
              clear hn9
              have HOW : Hid _ := hown
              have HGW : Hid _ := hgrow
              clear hown hgrow
              rw [if_pos (by kernel_rfl)]
              refine operwp_append _ _ _ _ _ (.tmp 134) (.tmp 138) 41 rfl _ _ rfl rfl _ _ hr ?_
              clear hr
              refine hK.out _ _ trivial (fun hHeld => ?_)
              clear hK K
              try simp only [Act.put, List.getElem_toArray, List.getElem_cons_zero, List.getElem_cons_succ, List.setIfInBounds_toArray, List.set_cons_zero, List.set_cons_succ]
              refine wpAnyH_take (i := 8) (v := ?_) rfl (by kernel_rfl) (by kernel_rfl) (by kernel_rfl) (fun _ _ _ h => h) (Or.inl ⟨by rfl, ?_⟩) (by assumption) ?_
              rotate_left
              · (intro W hSw; (try dsimp only at hSw); go_simp; try with_reducible rfl)
              try simp only [Act.put, List.getElem_toArray, List.getElem_cons_zero, List.getElem_cons_succ, List.setIfInBounds_toArray, List.set_cons_zero, List.set_cons_succ]
              refine wpAnyH_done (by kernel_rfl) ?_ _
              · have HK9 : Hid (Kp7 w id v1 (delL L l[j].key).1 a3 c3 (M.take i ++ M.drop (i + 1)) y1) := by
                  refine ⟨pg_grown HPD.out HOT.out HGW.out, HGd.out, ?_, HPm.out, HLD.out.grown HGW.out HSZ.out (fun k hk => (World.ownsRow.lt HOT.out k hk).1)⟩
                  rw [pcells_append, ← HN9.out]
                  exact HOW.out
                clear HOW HGW HOT HND HON HPm HGd HP1 HR1 q0 q1 q2 q3 HAT HK2
                go_wp2_with fail
                rw [HN9.out]
                clear HN9
                have hfw : (M.take i ++ M.drop (i + 1)).length ≤ 64 := HK9.out.few
                have HGe : Hid (∀ (i3 : Nat) (hi3 : i3 < (M.take i ++ M.drop (i + 1)).length), getL ((delL L l[j].key).1) (M.take i ++ M.drop (i + 1))[i3].1 = some (M.take i ++ M.drop (i + 1))[i3].2) := fun i3 hi3 => mem_get HK9.out.good (HK9.out.perm.mem_iff.1 (List.getElem_mem hi3))
                have HPL : Hid ((M.take i ++ M.drop (i + 1)).length = (prsL ((delL L l[j].key).1)).length) := HK9.out.perm.length_eq
                have hfl : ((delL L l[j].key).1).length ≤ 64 := HK9.out.good.few
                generalize hMM : (M.take i ++ M.drop (i + 1)) = MM at *
                generalize hLL : ((delL L l[j].key).1) = LL at *
                generalize hAA : (a3 : Option Addr) = AA at *
                clear hMM hLL hAA
                go_loopw [15] (fun k W => ∃ i : Nat, i ≤ MM.length ∧ k = .int .i64 i ∧ Kp7 w id v1 LL AA c3 MM W) (fun k _ => MM.length - (intOf k).toNat)
                case atStart => exact ⟨0, Nat.zero_le _, rfl, HK9.out⟩
                case round =>
                  obtain ⟨i, hi, rfl, hK3⟩ := hrel
                  have HK3 : Hid _ := hK3
                  clear hK3
                  by_cases hlt3 : i < MM.length
                  · obtain ⟨g3, o3, rfl, hg3, y0, y1⟩ := (slQ_of_own HK3.out.row).at i hlt3
                    have hi3 : (i : Int) < (MM.length : Int) := by omega
                    have HGET : Hid _ := get_any _ w.heap.size id 0 v1 LL MM[i].1 _ HK3.out.pg (by omega)
                    go_wp2_with fail
                    refine Calls.mono HGET.out ?_
                    rintro e x3 ⟨rfl, hb3⟩
                    rw [HGe.out i hlt3]
                    have HK4 : Hid _ := HK3.out.call hb3
                    obtain ⟨g4, o4, ea4, hg4, z0, z1⟩ := (slQ_of_own HK4.out.row).at i hlt3
                    simp at ea4
                    obtain ⟨rfl, rfl⟩ := ea4
                    have hqq : ((txt MM[i].2).toList == (txt MM[i].2).toList) = true := by simp
                    clear hb3 HK3 HGET y0 y1
                    dsimp only [Option.getD_some, Option.isSome_some]
                    go_wp2_with fail
                    go_roundw
                    case rel => exact ⟨i + 1, by omega, by simp, HK4.out⟩
                    case measure => first | omega | (simp only [intOf]; omega)
                  · obtain rfl : i = MM.length := by omega
                    go_wp2_with fail
                    refine Calls.mono (pairs_any _ w.heap.size id 0 v1 LL _ HK3.out.pg hfl) ?_
                    rintro e x5 ⟨a5, c5, L5, rfl, hp5, _, _, hb5⟩
                    have hl5 : L5.length = MM.length := by rw [hp5.length_eq, HPL.out]
                    have HK5 : Hid _ := HK3.out.call hb5
                    rw [hl5]
                    have hnl : ((MM.length : Int) != (MM.length : Int)) = false := by simp
                    clear hp5 hb5 hl5 HK3
                    go_wp2_with fail
                    go_roundw
                    case rel => exact ⟨j + 1, v1, LL, AA, c3, MM, by omega, by simp, rfl, HK5.out⟩
                    case measure => first | omega | (simp only [intOf]; omega)


        have b0 : (l[j].kind == 0) = false := by simp [k0]
        have b1 : (l[j].kind == 1) = false := by simp [k1]
        have b2 : (l[j].kind == 2) = false := by simp [k2]
        clear k0 k1 k2
        go_wp2_with fail
        clear q0 q1 q2 q3 b0 b1 b2
        have hfw : (M).length ≤ 64 := HK2.out.few
        have HGe : Hid (∀ (i3 : Nat) (hi3 : i3 < (M).length), getL (L) (M)[i3].1 = some (M)[i3].2) := fun i3 hi3 => mem_get HK2.out.good (HK2.out.perm.mem_iff.1 (List.getElem_mem hi3))
        have HPL : Hid ((M).length = (prsL (L)).length) := HK2.out.perm.length_eq
        have hfl : (L).length ≤ 64 := HK2.out.good.few
        generalize hMM : (M) = MM at *
        generalize hLL : (L) = LL at *
        generalize hAA : (a2 : Option Addr) = AA at *
        clear hMM hLL hAA
        go_loopw [15] (fun k W => ∃ i : Nat, i ≤ MM.length ∧ k = .int .i64 i ∧ Kp7 w id v LL AA c2 MM W) (fun k _ => MM.length - (intOf k).toNat)
        case atStart => exact ⟨0, Nat.zero_le _, rfl, HK2.out⟩
        case round =>
          obtain ⟨i, hi, rfl, hK3⟩ := hrel
          have HK3 : Hid _ := hK3
          clear hK3
          by_cases hlt3 : i < MM.length
          · obtain ⟨g3, o3, rfl, hg3, y0, y1⟩ := (slQ_of_own HK3.out.row).at i hlt3
            have hi3 : (i : Int) < (MM.length : Int) := by omega
            have HGET : Hid _ := get_any _ w.heap.size id 0 v LL MM[i].1 _ HK3.out.pg (by omega)
            go_wp2_with fail
            refine Calls.mono HGET.out ?_
            rintro e x3 ⟨rfl, hb3⟩
            rw [HGe.out i hlt3]
            have HK4 : Hid _ := HK3.out.call hb3
            obtain ⟨g4, o4, ea4, hg4, z0, z1⟩ := (slQ_of_own HK4.out.row).at i hlt3
            simp at ea4
            obtain ⟨rfl, rfl⟩ := ea4
            have hqq : ((txt MM[i].2).toList == (txt MM[i].2).toList) = true := by simp
            clear hb3 HK3 HGET y0 y1
            dsimp only [Option.getD_some, Option.isSome_some]
            go_wp2_with fail
            go_roundw
            case rel => exact ⟨i + 1, by omega, by simp, HK4.out⟩
            case measure => first | omega | (simp only [intOf]; omega)
          · obtain rfl : i = MM.length := by omega
            go_wp2_with fail
            refine Calls.mono (pairs_any _ w.heap.size id 0 v LL _ HK3.out.pg hfl) ?_
            rintro e x5 ⟨a5, c5, L5, rfl, hp5, _, _, hb5⟩
            have hl5 : L5.length = MM.length := by rw [hp5.length_eq, HPL.out]
            have HK5 : Hid _ := HK3.out.call hb5
            rw [hl5]
            have hnl : ((MM.length : Int) != (MM.length : Int)) = false := by simp
            clear hp5 hb5 hl5 HK3
            go_wp2_with fail
            go_roundw
            case rel => exact ⟨j + 1, v, LL, AA, c2, MM, by omega, by simp, rfl, HK5.out⟩
            case measure => first | omega | (simp only [intOf]; omega)

end Go.Proofs.Ytoahcihhpimmgaa
