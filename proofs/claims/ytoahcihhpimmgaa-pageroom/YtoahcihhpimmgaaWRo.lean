/-
  The walk of PageRoom.
-/
import Derived.Test.YtoahcihhpimmgaaMd
import Derived.Test.YtoahcihhpimmgaaRf
import Derived.Deep.RegionWith
import Derived.Test.YtoahcihhpimmgaaRm
namespace Go.Proofs.Ytoahcihhpimmgaa
open Go.RowKit

theorem below_drewN' {B : Nat} {w W : World} (h : Below B w W) (n : Nat) : Below B w (W.drewN n) := by
  induction n with
  | zero => exact h
  | succ n ih => exact ih.drew
theorem PgOk.drewN {w : World} {B p : Nat} {id : Int} {lsn : Nat} {v : Value} {l : List Cl} (h : PgOk w B p id lsn v l) (n : Nat) : PgOk (w.drewN n) B p id lsn v l := by
  induction n with
  | zero => exact h
  | succ n ih => exact ih.drew

theorem conv_buf {W : World} {G : Nat} {L : List UInt8} (h : Buf W G L) (hl : L.length = 512) : (convert 45 9 (.slice (some ⟨G, 0, none⟩) 512 512)).run Try.prog W = .ok (.string (txt L)) W := by
  have := conv_slB (c := 512) (Buf.slB h 0)
  rw [List.drop_zero, hl] at this
  exact this

set_option maxRecDepth 20000 in
set_option maxHeartbeats 4000000 in
theorem room_walk (id : Int) (a : Option Addr) (c : Nat) (ops : List Ov) (k x : List UInt8) (w : World) (hsl : SlO w a ops) (hl : ops.length ≤ maxLen) (hk : k.length ≤ maxLen) (hx : x.length ≤ maxLen) :
    Calls Try.prog 8 #[.int .i64 id, .slice a ops.length c, .agg #[.string (txt k), .string (txt x)]] w fun e w' => e = .returned (.bool true) ∧ Below w.heap.size w w' := by
  have HB0 : Hid (Below w.heap.size w (w.alloc (.cells #[.string (txt k), .string (txt x)] 59))) := (Below.refl _ _).alloc (Nat.le_refl _) _
  have ek := txt_size k
  have ex := txt_size x
  unfold maxLen at hk hx
  by_cases hid : 0 ≤ id ∧ id < 16
  · have HM := (show Hid _ from made_yes id a c ops _ hid (hsl.below HB0.out) hl)
    clear hsl
    go_enter Try.func8, Try.ntmps8
    go_wp2_with fail
    refine Calls.mono HM.out ?_
    rintro e w1 ⟨p, v, rfl, hp, hg, hlsn, hb1⟩
    have HK := (show Hid _ from box_in hb1)
    have HB1 := (show Hid _ from below_on HB0.out hb1)
    have HP := (show Hid _ from hp)
    have HG := (show Hid _ from hg)
    have hq : w1.cell? ⟨w.heap.size, 0, none⟩ = some (.string (txt k)) ∧ w1.cell? ⟨w.heap.size, 1, none⟩ = some (.string (txt x)) := by
      have := HK.out
      constructor <;> simp [World.cell?, this]
    obtain ⟨q0, q1⟩ := hq
    clear hp hg hb1 HM
    generalize (runM (ops.take 100)).1 = l at *
    generalize (runM (ops.take 100)).2 = lsn at *
    go_wp2_with fail
    go_quiet (fail)
    have HPd := (show Hid _ from HP.out.drewN nq)
    have HBd := (show Hid _ from below_drewN' HB1.out nq)
    clear q0 q1 HP HB1 HK
    generalize hW2 : w1.drewN nq = W2 at *
    clear hW2
    by_cases hm : 1 ≤ k.length ∧ k.length ≤ 16 ∧ x.length ≤ 32
    · obtain ⟨m1, m2, m3⟩ := hm
      obtain ⟨idn, rfl⟩ := Int.eq_ofNat_of_zero_le hid.1
      have hP512 := pageB_length idn lsn l HG.out.room
      have HY : Hid (∀ W, Below W2.heap.size W2 W → Calls Try.prog 21 #[.pointer (some ⟨p, 0, none⟩)] W fun e w' => ∃ G, e = .returned (.slice (some ⟨G, 0, none⟩) 512 512) ∧ Buf w' G (pageB idn lsn l) ∧ Below W.heap.size W w') := fun W hW =>
        (bytes_any _ p idn lsn v l W (HPd.out.below hW (Nat.le_refl _)) HG.out (by omega)).mono fun e w' ⟨G, e1, _, e2, e3⟩ => ⟨G, e1, e2, e3⟩
      have HF : Hid (∀ W, Below W2.heap.size W2 W → Calls Try.prog 30 #[.pointer (some ⟨p, 0, none⟩)] W fun e w' => e = .returned (.int .i64 (freeL l)) ∧ Below W.heap.size W w') := fun W hW =>
        free_any _ p _ lsn v l W (HPd.out.below hW (Nat.le_refl _)) HG.out
      have HC : Hid (∀ W, Below W2.heap.size W2 W → Calls Try.prog 23 #[.pointer (some ⟨p, 0, none⟩)] W fun e w' => ∃ r, e = .returned r ∧ w'.ownsRow W.heap.size 65 3 r l.length (cellsV l) ∧ Below W.heap.size W w') := fun W hW =>
        cells_any _ p _ lsn v l W (HPd.out.below hW (Nat.le_refl _)) (by have := HG.out.few; omega)
      have h0 : Below W2.heap.size W2 W2.drew := (Below.refl _ _).drew
      go_wp2_with fail
      go_cut [10, 11, 12] from 44 to 50 (fun s f r wc => s = .string (txt (pageB idn lsn l)) ∧ f = .int .i64 (freeL l) ∧ (∃ ra rc, r = .slice ra l.length rc ∧ SlC wc ra l) ∧ Below W2.heap.size W2 wc)
      case first =>
        go_region_with (first | (go_at_call 21; refine Calls.mono (HY.out _ (by with_reducible assumption)) ?_; rintro e wb ⟨G, rfl, hbuf, hbb⟩; have hb1 := below_on (by with_reducible assumption) hbb; have hcv := conv_buf hbuf hP512) | (go_at_call 30; refine Calls.mono (HF.out _ (by with_reducible assumption)) ?_; rintro e wf ⟨rfl, hbf⟩; have hb2 := below_on (by with_reducible assumption) hbf; try (have hbuf := Buf.below hbuf hbf (Nat.le_refl _); have hcv := conv_buf hbuf hP512)) | (go_at_call 23; refine Calls.mono (HC.out _ (by with_reducible assumption)) ?_; rintro e wc ⟨r, rfl, hown, hbc⟩; have hb3 := below_on (by with_reducible assumption) hbc; try (have hbuf := Buf.below hbuf hbc (Nat.le_refl _); have hcv := conv_buf hbuf hP512)))
        all_goals
          obtain ⟨ra, rc, rfl⟩ := ownsRow_shape hown
          go_wp2_with fail
          go_meet
          exact ⟨rfl, rfl, ⟨_, _, rfl, (slC_of_own hown).1⟩, hb3⟩
      case rest =>
        obtain ⟨rfl, rfl, ⟨ra, rc, rfl, hslc⟩, hbc⟩ := hcut
        have HPc := (show Hid _ from HPd.out.below hbc (Nat.le_refl _))
        have HBc := (show Hid _ from below_on HBd.out hbc)
        have HSc := (show Hid _ from hslc)
        have hroom := HG.out.room
        have hfew := HG.out.few
        have hfle := free_le l
        have HMK : Hid (mayK k x = true) := by show _ = _; simp [mayK]; omega
        clear hbc hslc HY HF HC HPd HBd h0
        have hP512' := hP512
        go_wp2_with fail
        refine Calls.mono (get_any _ p _ lsn v l k _ HPc.out (by omega)) ?_
        rintro e w3 ⟨rfl, hb3⟩
        have HP3 := (show Hid _ from HPc.out.below hb3 (Nat.le_refl _))
        have HB3 := (show Hid _ from below_on HBc.out hb3)
        have HS3 := (show Hid _ from HSc.out.below hb3)
        clear hb3 HPc HBc HSc
        cases hgo : (getL l k).isSome
        · have hgn : getL l k = none := by simpa using hgo
          have HR := (show Hid _ from ins_room (x := x) HMK.out hgn)
          clear hgo
          rw [hgn]
          go_wp2_with fail
          go_loop [16, 17] (fun h i => ∃ j : Nat, j ≤ l.length ∧ i = .int .i64 j ∧ h = .bool ((l.take j).any isFree)) (fun _ i => l.length - (intOf i).toNat)
          case atStart => exact ⟨0, Nat.zero_le _, rfl, by simp⟩
          case round =>
            obtain ⟨j, hj, rfl, rfl⟩ := hrel
            by_cases hlt : j < l.length
            · have hat := any_take l j hlt
              obtain ⟨b, o, rfl, hbl, c0, c1, c2⟩ := HS3.out.at j hlt
              cases hh : (l.take j).any isFree
              · rw [hh, Bool.false_or] at hat
                cases hu : l[j].used
                · rw [hu] at c0
                  go_wp2_with fail
                  go_round
                  case rel => exact ⟨j + 1, by omega, by simp, by rw [hat]; simp [isFree, hu]⟩
                  case measure => first | omega | (simp only [intOf]; omega)
                · rw [hu] at c0
                  go_wp2_with fail
                  go_round
                  case rel => exact ⟨j + 1, by omega, by simp, by rw [hat]; simp [isFree, hu]⟩
                  case measure => first | omega | (simp only [intOf]; omega)
              · rw [hh, Bool.true_or] at hat
                go_wp2_with fail
                go_round
                case rel => exact ⟨j + 1, by omega, by simp, by rw [hat]⟩
                case measure => first | omega | (simp only [intOf]; omega)
            · obtain rfl : j = l.length := by omega
              rw [List.take_length]
              have HI := (show Hid _ from insert_any _ p _ lsn v l k x w3 HP3.out HG.out (by unfold maxLen; omega) (by unfold maxLen; omega))
              have HGi := (show Hid _ from ins_good HG.out k x)
              have HD := (show Hid _ from ins_del HG.out k x)
              have HLV : Hid (∀ W, Calls Try.prog 11 #[] W fun e w' => e = .returned (.bool true) ∧ Below W.heap.size W w') := fun W => lives_any W
              have HNd : Hid (needL l k x = 1 + (k.length : Int) + (x.length : Int) + (if l.any isFree then 0 else 4)) := rfl
              generalize hFe : freeL l = F at *
              generalize hNe : needL l k x = nd at *
              have hnd0 : 0 ≤ nd := by rw [HNd.out]; split <;> omega
              have hnd1 : nd ≤ 100 := by rw [HNd.out]; split <;> omega
              cases hha : l.any isFree
              · have h15 : 1 + (k.length : Int) + (x.length : Int) + 4 = nd := by have := HNd.out; rw [hha] at this; simp at this; omega
                have HHA := (show Hid _ from hha)
                clear hha
                rcases HR.out with ⟨hI, hor⟩ | ⟨h0, hle, hfr⟩
                · rw [hI] at HI
                  have HOR := (show Hid _ from hor)
                  clear hor hI
                  go_wp2_with fail
                  refine Calls.mono HI.out ?_
                  rintro e w4 ⟨rfl, v4, hp4, ht4, _⟩
                  have HP4 := (show Hid _ from hp4)
                  have HB4 := (show Hid _ from HB3.out.trans ((HP3.out.touched ht4).mono (by simp)))
                  clear hp4 ht4 HI
                  simp only
                  by_cases hgt : F < nd
                  · go_wp2_with fail
                    refine Calls.mono (bytes_any _ p idn lsn v4 l _ HP4.out HG.out (by omega)) ?_
                    rintro e w5 ⟨G, rfl, _, hbuf, hb5⟩
                    have hcv := conv_buf hbuf hP512
                    have HB5 := (show Hid _ from below_on HB4.out hb5)
                    clear hbuf hb5
                    go_wp2_with fail
                    refine Calls.mono (HLV.out _) ?_
                    rintro e w6 ⟨rfl, hb6⟩
                    have HB6 := (show Hid _ from below_on HB5.out hb6)
                    clear hb6
                    go_wp2
                    go_ret
                    exact ⟨rfl, HB6.out⟩
                  · have h64 : ((l.length : Int) == 64) = true := by have := HOR.out; simp; omega
                    go_wp2_with fail
                    refine Calls.mono (bytes_any _ p idn lsn v4 l _ HP4.out HG.out (by omega)) ?_
                    rintro e w5 ⟨G, rfl, _, hbuf, hb5⟩
                    have hcv := conv_buf hbuf hP512
                    have HB5 := (show Hid _ from below_on HB4.out hb5)
                    clear hbuf hb5
                    go_wp2_with fail
                    refine Calls.mono (HLV.out _) ?_
                    rintro e w6 ⟨rfl, hb6⟩
                    have HB6 := (show Hid _ from below_on HB5.out hb6)
                    clear hb6
                    go_wp2
                    go_ret
                    exact ⟨rfl, HB6.out⟩
                · rw [h0] at HI
                  have HD' := (show Hid _ from HD.out h0)
                  have HFR := (show Hid _ from hfr)
                  clear h0 hfr
                  generalize (insL l k x).1 = l2 at *
                  go_wp2_with fail
                  refine Calls.mono HI.out ?_
                  rintro e w4 ⟨rfl, v4, hp4, ht4, _⟩
                  have HP4 := (show Hid _ from hp4)
                  have HB4 := (show Hid _ from HB3.out.trans ((HP3.out.touched ht4).mono (by simp)))
                  clear hp4 ht4 HI
                  have hng : ¬ F < nd := by omega
                  go_wp2_with fail
                  have HFX := free_any _ p _ lsn v4 l2 _ HP4.out HGi.out
                  rw [HFR.out] at HFX
                  refine Calls.mono HFX ?_
                  rintro e w5 ⟨rfl, hb5⟩
                  have HP5 := (show Hid _ from HP4.out.below hb5 (Nat.le_refl _))
                  have HB5 := (show Hid _ from below_on HB4.out hb5)
                  have hwr : IntKind.i64.wrap (F - nd) = F - nd := by simp [IntKind.wrap, IntKind.bits, IntKind.signed]; omega
                  clear hb5 HFX
                  go_wp2_with fail
                  have HDX := delete_any _ p _ lsn v4 l2 k _ HP5.out HGi.out
                  rw [HD'.out] at HDX
                  refine Calls.mono HDX ?_
                  rintro e w6 ⟨rfl, v6, hp6, ht6, _⟩
                  have HP6 := (show Hid _ from hp6)
                  have HB6 := (show Hid _ from HB5.out.trans ((HP5.out.touched ht6).mono (by simp)))
                  clear hp6 ht6 HDX
                  go_wp2_with fail
                  refine Calls.mono (bytes_any _ p idn lsn v6 l _ HP6.out HG.out (by omega)) ?_
                  rintro e w7 ⟨G, rfl, _, hbuf, hb7⟩
                  have hcv := conv_buf hbuf hP512
                  have HB7 := (show Hid _ from below_on HB6.out hb7)
                  clear hbuf hb7
                  go_wp2_with fail
                  refine Calls.mono (HLV.out _) ?_
                  rintro e w8 ⟨rfl, hb8⟩
                  have HB8 := (show Hid _ from below_on HB7.out hb8)
                  clear hb8
                  go_wp2
                  go_ret
                  exact ⟨rfl, HB8.out⟩
              · have h15 : 1 + (k.length : Int) + (x.length : Int) = nd := by have := HNd.out; rw [hha] at this; simp at this; omega
                have HHA := (show Hid _ from hha)
                clear hha
                rcases HR.out with ⟨hI, hor⟩ | ⟨h0, hle, hfr⟩
                · rw [hI] at HI
                  have HOR := (show Hid _ from hor)
                  clear hor hI
                  go_wp2_with fail
                  refine Calls.mono HI.out ?_
                  rintro e w4 ⟨rfl, v4, hp4, ht4, _⟩
                  have HP4 := (show Hid _ from hp4)
                  have HB4 := (show Hid _ from HB3.out.trans ((HP3.out.touched ht4).mono (by simp)))
                  clear hp4 ht4 HI
                  simp only
                  by_cases hgt : F < nd
                  · go_wp2_with fail
                    refine Calls.mono (bytes_any _ p idn lsn v4 l _ HP4.out HG.out (by omega)) ?_
                    rintro e w5 ⟨G, rfl, _, hbuf, hb5⟩
                    have hcv := conv_buf hbuf hP512
                    have HB5 := (show Hid _ from below_on HB4.out hb5)
                    clear hbuf hb5
                    go_wp2_with fail
                    refine Calls.mono (HLV.out _) ?_
                    rintro e w6 ⟨rfl, hb6⟩
                    have HB6 := (show Hid _ from below_on HB5.out hb6)
                    clear hb6
                    go_wp2
                    go_ret
                    exact ⟨rfl, HB6.out⟩
                  · exact absurd HOR.out (by rw [HHA.out]; simp; omega)
                · rw [h0] at HI
                  have HD' := (show Hid _ from HD.out h0)
                  have HFR := (show Hid _ from hfr)
                  clear h0 hfr
                  generalize (insL l k x).1 = l2 at *
                  go_wp2_with fail
                  refine Calls.mono HI.out ?_
                  rintro e w4 ⟨rfl, v4, hp4, ht4, _⟩
                  have HP4 := (show Hid _ from hp4)
                  have HB4 := (show Hid _ from HB3.out.trans ((HP3.out.touched ht4).mono (by simp)))
                  clear hp4 ht4 HI
                  have hng : ¬ F < nd := by omega
                  go_wp2_with fail
                  have HFX := free_any _ p _ lsn v4 l2 _ HP4.out HGi.out
                  rw [HFR.out] at HFX
                  refine Calls.mono HFX ?_
                  rintro e w5 ⟨rfl, hb5⟩
                  have HP5 := (show Hid _ from HP4.out.below hb5 (Nat.le_refl _))
                  have HB5 := (show Hid _ from below_on HB4.out hb5)
                  have hwr : IntKind.i64.wrap (F - nd) = F - nd := by simp [IntKind.wrap, IntKind.bits, IntKind.signed]; omega
                  clear hb5 HFX
                  go_wp2_with fail
                  have HDX := delete_any _ p _ lsn v4 l2 k _ HP5.out HGi.out
                  rw [HD'.out] at HDX
                  refine Calls.mono HDX ?_
                  rintro e w6 ⟨rfl, v6, hp6, ht6, _⟩
                  have HP6 := (show Hid _ from hp6)
                  have HB6 := (show Hid _ from HB5.out.trans ((HP5.out.touched ht6).mono (by simp)))
                  clear hp6 ht6 HDX
                  go_wp2_with fail
                  refine Calls.mono (bytes_any _ p idn lsn v6 l _ HP6.out HG.out (by omega)) ?_
                  rintro e w7 ⟨G, rfl, _, hbuf, hb7⟩
                  have hcv := conv_buf hbuf hP512
                  have HB7 := (show Hid _ from below_on HB6.out hb7)
                  clear hbuf hb7
                  go_wp2_with fail
                  refine Calls.mono (HLV.out _) ?_
                  rintro e w8 ⟨rfl, hb8⟩
                  have HB8 := (show Hid _ from below_on HB7.out hb8)
                  clear hb8
                  go_wp2
                  go_ret
                  exact ⟨rfl, HB8.out⟩
        · have hI := ins_twice HMK.out hgo
          have HI := (show Hid _ from insert_any _ p _ lsn v l k x w3 HP3.out HG.out (by unfold maxLen; omega) (by unfold maxLen; omega))
          rw [hI] at HI
          clear hI
          go_wp2_with fail
          refine Calls.mono HI.out ?_
          rintro e w4 ⟨rfl, v4, hp4, ht4, _⟩
          have HP4 := (show Hid _ from hp4)
          have HB4 := (show Hid _ from HB3.out.trans ((HP3.out.touched ht4).mono (by simp)))
          clear hp4 ht4 HI
          simp only
          go_wp2_with fail
          refine Calls.mono (bytes_any _ p idn lsn v4 l _ HP4.out HG.out (by omega)) ?_
          rintro e w5 ⟨G, rfl, _, hbuf, hb5⟩
          have hcv := conv_buf hbuf hP512
          have HB5 := (show Hid _ from below_on HB4.out hb5)
          clear hbuf hb5
          go_wp2_with fail
          refine Calls.mono (lives_any _) ?_
          rintro e w6 ⟨rfl, hb6⟩
          have HB6 := (show Hid _ from below_on HB5.out hb6)
          clear hb6
          go_wp2
          go_ret
          exact ⟨rfl, HB6.out⟩
    · by_cases m1 : 1 ≤ k.length
      · by_cases m2 : k.length ≤ 16
        · have m3 : ¬ x.length ≤ 32 := fun h => hm ⟨m1, m2, h⟩
          clear hm
          go_wp2_with fail
          refine Calls.mono (lives_any _) ?_
          rintro e w6 ⟨rfl, hb6⟩
          have HB6 := (show Hid _ from below_on HBd.out hb6)
          clear hb6
          go_wp2
          go_ret
          exact ⟨rfl, HB6.out⟩
        · clear hm
          go_wp2_with fail
          refine Calls.mono (lives_any _) ?_
          rintro e w6 ⟨rfl, hb6⟩
          have HB6 := (show Hid _ from below_on HBd.out hb6)
          clear hb6
          go_wp2
          go_ret
          exact ⟨rfl, HB6.out⟩
      · clear hm
        go_wp2_with fail
        refine Calls.mono (lives_any _) ?_
        rintro e w6 ⟨rfl, hb6⟩
        have HB6 := (show Hid _ from below_on HBd.out hb6)
        clear hb6
        go_wp2
        go_ret
        exact ⟨rfl, HB6.out⟩
  · have HM := (show Hid _ from made_no id a c ops (w.alloc (.cells #[.string (txt k), .string (txt x)] 59)) hid)
    clear hsl
    go_enter Try.func8, Try.ntmps8
    go_wp2_with fail
    refine Calls.mono HM.out ?_
    rintro e w1 ⟨rfl, hw1⟩
    obtain rfl := hw1.symm
    clear HM
    go_wp2_with fail
    go_quiet (fail)
    have HBd := (show Hid _ from below_drewN' HB0.out nq)
    go_wp2_with fail
    refine Calls.mono (lives_any _) ?_
    rintro e w6 ⟨rfl, hb6⟩
    have HB6 := (show Hid _ from below_on HBd.out hb6)
    clear hb6
    go_wp2
    go_ret
    exact ⟨rfl, HB6.out⟩

end Go.Proofs.Ytoahcihhpimmgaa
