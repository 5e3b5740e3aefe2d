/-
  The document's book: the walk of Fail (28).
-/
import Derived.Test.YtdlanenbbmnbhaaEf
import Derived.Deep.DeepCutAuto
import Derived.Deep.CutBlock
namespace Go.Proofs.Ytdlanenbbmnbhaa
open Go.RowKit

theorem pls_set {L : List Pl} {l : List Lf} (h : pls L = l) (i : Nat) (t : Pl) : pls (L.set i t) = l.set i t.x := by
  rw [← h]
  unfold pls
  rw [List.map_set]
theorem failF_yes {x : Lf} {k : Int} (h : LfOk x) (e : x.owner = k) : failF k x = ⟨x.fast, 0, true, false, leftI k x.ws⟩ := by
  unfold failF
  rw [if_pos e]
  simp only [quitF, leaveF]
  rw [leftI_erase h.nodup]
theorem failF_no {x : Lf} {k : Int} (h : LfOk x) (e : x.owner ≠ k) : failF k x = ⟨x.fast, x.owner, x.lost, x.called, leftI k x.ws⟩ := by
  unfold failF
  rw [if_neg e]
  simp only [quitF]
  rw [leftI_erase h.nodup]

def FailD (w : World) (l : List Lf) (k : Int) (e : Ending) (w' : World) : Prop := ∃ v' lv L', e = .returned (.tuple #[v', lv]) ∧ Dl w' v' L' ∧ pls L' = failL l k ∧ (∃ a c, lv = .slice a (hasL l k).length c ∧ SlI w' a (hasL l k)) ∧ Below w.heap.size w w'

theorem sl_grown {W W' : World} {row : Option Nat} {a : Option Addr} {l : List Int} (h : SlI W a l) (hg : W.grownBy W' row) (hn : ∀ x, a = some x → row ≠ some x.block) : SlI W' a l := by
  by_cases hw : l = []
  · rw [hw]; exact SlI.nil _ _
  · have key : ∀ x, a = some x → W'.heap[x.block]? = W.heap[x.block]? := fun x hx => by
      obtain ⟨M, hM⟩ := h.typ x hx hw
      exact hg.block _ (some_lt hM) (fun e => hn x hx e.symm)
    refine ⟨h.nonil, fun x hx i u hu => ?_, fun x hx hne => ?_⟩
    · obtain ⟨e0, e1⟩ := h.cells x hx i u hu
      refine ⟨e0, ?_⟩
      simp only [World.cell?] at e1 ⊢
      rw [key x hx]
      exact e1
    · obtain ⟨M, hM⟩ := h.typ x hx hne
      exact ⟨M, by rw [key x hx]; exact hM⟩

set_option maxHeartbeats 4000000 in
theorem fail_any_d {w : World} {v : Value} {L : List Pl} (h : Dl w v L) (hok : BkOk (pls L)) (hl : L.length ≤ 16) (k : Int) :
    Calls Try.prog 28 #[v, .int .i64 k] w fun e w' => FailD w (pls L) k e w' := by
  obtain ⟨va, vc, hv⟩ := own_shape h.own
  cases hk : instB k
  · have hbad : k < 1 ∨ (¬ k < 1 ∧ 8 < k) := by rw [inst_no] at hk; omega
    have HH := toHid h
    have HE := toHid (show failL (pls L) k = pls L ∧ hasL (pls L) k = [] by simp [failL, hasL, hk])
    subst hv
    have HX := toHid (show FailD w (pls L) k (.returned (.tuple #[.slice va L.length vc, .slice none 0 0])) w from ⟨_, _, L, rfl, h, HE.out.1.symm, ⟨none, 0, by rw [HE.out.2]; rfl, by rw [HE.out.2]; exact SlI.nil _ _⟩, Below.refl _ _⟩)
    clear h hok hk
    have hL : ¬ (0 : Int) < (L.length : Int) ∨ (0 : Int) < (L.length : Int) := by omega
    rcases hL with hL | hL
    all_goals rcases hbad with h1 | ⟨h1, h2⟩
    all_goals
      go_enter Try.func28, Try.ntmps28
      go_wp2_with fail
      go_loopw [0, 6, 7] (fun u lv i W => u = .slice va L.length vc ∧ lv = .slice none 0 0 ∧ i = .int .i64 0 ∧ W = w) (fun _ _ _ _ => 0)
      case atStart => exact ⟨rfl, rfl, rfl, rfl⟩
      case round =>
        obtain ⟨rfl, rfl, rfl, hw⟩ := hrel
        obtain rfl := hw.symm
        go_wp2
        exact bodyPost_ret (v := .tuple #[.slice va L.length vc, .slice none 0 0]) (by simp [results, Try.results28, go_sem]) rfl HX.out
  · have hkk := inst_iff.1 hk
    have HOk := toHid hok
    have HE := toHid (show failL (pls L) k = failN (pls L) k L.length ∧ hasL (pls L) k = hasN (pls L) k L.length by
      rw [← pls_len L, failN_all]
      simp [failL, hasL, hk])
    have HF : Hid (Fl w w v (.slice none 0 0) L []) := toHid ⟨h, World.ownsRow_nil _ _ _ _, fun g hg => by simp [Value.ownBlock] at hg, Below.refl _ _⟩
    have HL := toHid (pls_len L)
    obtain ⟨l, hl0⟩ : ∃ l, pls L = l := ⟨_, rfl⟩
    obtain ⟨m, hm0⟩ : ∃ m, L.length = m := ⟨_, rfl⟩
    rw [hl0] at HOk HE HL ⊢
    rw [hm0] at HE HL hl
    have HP0 := toHid hl0
    have HM0 := toHid hm0
    clear h hok hk hl0 hm0 hv
    go_enter Try.func28, Try.ntmps28
    go_wp2_with fail
    go_loopw [0, 6, 7] (fun u lv i W => ∃ n L', n ≤ m ∧ L'.length = m ∧ i = .int .i64 (n : Nat) ∧ pls L' = failN l k n ∧ Fl w W u lv L' (hasN l k n)) (fun _ _ i _ => m - (intOf i).toNat)
    case atStart => exact ⟨0, L, Nat.zero_le _, HM0.out, rfl, by rw [failN_zero]; exact HP0.out, HF.out⟩
    case round =>
      clear HF
      generalize hwo : wr = wo at *
      clear hwo wr
      obtain ⟨n, L', hn, hlm, rfl, hpl, hfl⟩ := hrel
      have HFl := toHid hfl
      have HPl := toHid hpl
      obtain ⟨a1, c1, rfl⟩ := own_shape hfl.dl.own
      simp only [hlm]
      have HLm := toHid hlm
      by_cases hlt : n < m
      · have hi : n < L'.length := by omega
        have hxe : L'[n].x = l[n]'(by rw [HL.out]; exact hlt) := by
          have h1 := pls_at hi
          rw [← h1]
          have h2 := failN_at l k n n (by rw [HL.out]; exact hlt)
          rw [if_neg (by omega)] at h2
          rw [← h2]
          congr 1
        have hxo := HOk.out.at (i := n) (by rw [HL.out]; exact hlt)
        have HSu := toHid (failN_succ l k n (by rw [HL.out]; exact hlt))
        have HHa := toHid (hasN_at (k := k) (show n < l.length by rw [HL.out]; exact hlt))
        rw [← hxe] at hxo HSu HHa
        obtain ⟨g, c, hv, hg, hc, ho, c0, c1', c2, c3, c4⟩ := hfl.dl.at hi
        cases hv
        have HXo := toHid hxo
        have HO := toHid ho
        have HI := toHid hi
        generalize hti : L'[n] = t at *
        obtain ⟨x, a, d⟩ := t
        obtain ⟨fa, ow, lo, ca, ws⟩ := x
        dsimp only at c0 c1' c2 c3 c4 ⊢
        have hlen := HXo.out.len
        dsimp only at hlen
        clear hfl hpl hxo hxe ho hi hti hlm
        obtain ⟨W0, hW0⟩ : ∃ W0, W0 = wo.alloc (.cells (plA ⟨⟨fa, ow, lo, ca, ws⟩, a, d⟩) 65) := ⟨_, rfl⟩
        have hb0 : Below wo.heap.size wo W0 := hW0 ▸ (Below.refl _ _).alloc (Nat.le_refl _) _
        have hk0 : W0.heap[wo.heap.size]? = some (.cells (plA ⟨⟨fa, ow, lo, ca, ws⟩, a, d⟩) 65) := hW0 ▸ heap_alloc_new wo _
        have hz0 : W0.heap.size = wo.heap.size + 1 := by rw [hW0]; simp
        have HB0 := toHid hb0
        have HK0 := toHid hk0
        have HZ0 := toHid hz0
        simp only [plA] at hW0
        have HW0 := toHid hW0
        clear hb0 hk0 hz0 hW0
        go_upto_block 2 with fail
        rw [← HW0.out]
        go_cut [9] (fun u W => ∃ a3 d3, u = .slice a3 (leftI k ws).length d3 ∧ W.ownsRow W0.heap.size 3 1 (.slice a3 (leftI k ws).length d3) (leftI k ws).length (inVs (leftI k ws)) ∧ Below W0.heap.size W0 W)
        case first =>
          go_wp2_with fail
          go_loopw [9, 10] (fun u kk W => ∃ j : Nat, j ≤ ws.length ∧ kk = .int .i64 j ∧ W.ownsRow W0.heap.size 3 1 u (leftI k (ws.take j)).length (inVs (leftI k (ws.take j))) ∧ Below W0.heap.size W0 W) (fun _ kk _ => ws.length - (intOf kk).toNat)
          case atStart => exact ⟨0, Nat.zero_le _, rfl, World.ownsRow_nil _ _ _ _, Below.refl _ _⟩
          case round =>
            obtain ⟨j, hj, rfl, hown, hbl⟩ := hrel
            have HOw := toHid hown
            have HBl := toHid hbl
            have hkw := (hbl.block wo.heap.size (by have := HZ0.out; omega)).trans HK0.out
            obtain ⟨q0, q1, q2, q3, q4⟩ := cells5 hkw
            dsimp only at q0 q1 q2 q3 q4
            have hsz := hbl.size
            have hrow := HO.out.row.below (HB0.out.trans (hbl.mono HB0.out.size))
            obtain ⟨ra, rc, rfl⟩ := own_shape hown
            clear hown hbl hkw
            by_cases hjl : j < ws.length
            · obtain ⟨bb, oo, rfl, hbb, e4⟩ := hrow.at j hjl
              have HSn := toHid (leftI_snoc k ws hjl)
              generalize hy : ws[j] = y at *
              by_cases hyk : y = k
              · subst hyk
                rw [if_pos rfl] at HSn
                clear hrow hy
                go_wp2
                go_roundw
                case rel => exact ⟨j + 1, by omega, by simp, by rw [HSn.out]; exact HOw.out, HBl.out⟩
                case measure => simp only [intOf]; omega
              · rw [if_neg hyk] at HSn
                have hyb : (y == k) = false := by simpa using hyk
                clear hrow hy
                go_wp2_with (at_builtin; go_must (
                  obtain ⟨a3, d3, w3, hr, r1, r2⟩ := run_in1 wr 42 W0.heap.size (.slice ra (leftI k (ws.take j)).length rc) (leftI k (ws.take j)) _ rfl HOw.out hsz y (by have := leftI_len k (ws.take j); simp at this; omega)
                  refine wpList_of_run rfl (.tmp 43) (.tmp 49) 42 rfl rfl rfl hr ?_
                  have HR3 := toHid r1
                  have HB3 := toHid (HBl.out.trans r2)
                  clear r1 r2 hr))
                go_roundw
                case rel => exact ⟨j + 1, by omega, by simp, by rw [HSn.out, List.length_append]; exact HR3.out, HB3.out⟩
                case measure => simp only [intOf]; omega
            · obtain rfl : j = ws.length := by omega
              rw [List.take_length] at HOw
              clear hrow
              simp only [List.take_length]
              go_wp2
              go_meet
              case rel => exact ⟨_, _, rfl, HOw.out, HBl.out⟩
        case rest =>
          obtain ⟨a3, d3, rfl, hown, hbl⟩ := hcut
          have HB := toHid hbl
          have HR := toHid (own_sl hown rfl)
          have hlt3 : ∀ x, a3 = some x → x.block < wc.heap.size := fun x hx => by
            rcases own_addr hown with ⟨e, _⟩ | ⟨g3, cur, e, _, h4, _⟩
            · rw [e] at hx; cases hx
            · rw [e] at hx; cases hx; exact some_lt h4
          have hkw := (hbl.block wo.heap.size (by have := HZ0.out; omega)).trans HK0.out
          have hlw := HB0.out.trans (hbl.mono HB0.out.size)
          obtain ⟨q0, q1, q2, q3, q4⟩ := cells5 hkw
          dsimp only at q0 q1 q2 q3 q4
          have hfz : ∀ j, wc.frozen? ⟨wo.heap.size, j, none⟩ = false := fun j => by simp [World.frozen?, hkw]
          have z0 := hfz 0
          have z1 := hfz 1
          have z2 := hfz 2
          have z4 := hfz 4
          by_cases how : ow = k
          · have HF := toHid (failF_yes HXo.out how)
            subst how
            obtain ⟨W6, hW6⟩ : ∃ W6, W6 = (((wc.setCell ⟨wo.heap.size, 4, none⟩ (.slice a3 (leftI ow ws).length d3)).setCell ⟨wo.heap.size, 0, none⟩ (.int .i64 0)).setCell ⟨wo.heap.size, 2, none⟩ (.bool false)).setCell ⟨wo.heap.size, 1, none⟩ (.bool true) := ⟨_, rfl⟩
            have hk6 : W6.heap[wo.heap.size]? = some (.cells (plA ⟨⟨fa, 0, true, false, leftI ow ws⟩, a3, d3⟩) 65) := by rw [hW6]; exact pl_lost (pl_called (pl_owner (pl_waits hkw a3 _ d3) 0) false) true
            have hl6 : Below wo.heap.size wo W6 := hW6 ▸ (((hlw.setCell (Nat.le_refl _) _).setCell (Nat.le_refl _) _).setCell (Nat.le_refl _) _).setCell (Nat.le_refl _) _
            have hs6 : SlI W6 a3 (leftI ow ws) := by
              rw [hW6]
              have hn : ∀ x, a3 = some x → x.block ≠ wo.heap.size := fun x hx e => by
                have h1 := HR.out.2.2.2 x hx
                have := HZ0.out
                omega
              exact HR.out.1.one (((((One.refl wo.heap.size wc).set 4 _).set 0 _).set 2 _).set 1 _) hn
            have he6 : W6.heap.size = wc.heap.size := by rw [hW6]; simp only [World.setCell, Array.size_modify]
            have HK6 := toHid hk6
            have HL6 := toHid hl6
            have HS6 := toHid hs6
            have HE6 := toHid he6
            have HF6 := toHid (HFl.out.below hl6)
            have HW6 := toHid hW6
            have HPl1 := toHid (hasN_len l ow n)
            clear hk6 hl6 hs6 he6 hW6 hlw hkw hown hbl hfz
            go_wp2_with (at_builtin; go_must (
              rw [← HW6.out]
              obtain ⟨lv, w7, hr, r1, r2, r3⟩ := run_lost W6 42 HF6.out (n : Int) (by have := HPl1.out; omega)
              rw [HE6.out] at hr
              refine wpList_of_run rfl (.tmp 60) (.tmp 62) 42 rfl rfl rfl hr ?_
              have HF7 := toHid r1
              have hu6 : ∀ q, u6.ownBlock = some q → q < wo.heap.size := fun q hq => by
                obtain ⟨-, cur, hcur⟩ := own_low HFl.out.own hq
                exact some_lt hcur
              have hk7 : w7.heap[wo.heap.size]? = some (.cells (plA ⟨⟨fa, 0, true, false, leftI ow ws⟩, a3, d3⟩) 65) := by
                rw [r2.block _ (some_lt HK6.out) (fun e => by have := hu6 _ e.symm; omega)]
                exact HK6.out
              have hs7 : SlI w7 a3 (leftI ow ws) := sl_grown HS6.out r2 (fun x hx e => by
                have h1 := HR.out.2.2.2 x hx
                have h2 := hu6 _ e
                have := HZ0.out
                omega)
              have HC := toHid (with40 r1.dl HI.out ⟨⟨fa, 0, true, false, leftI ow ws⟩, a3, d3⟩ ⟨hs7, HR.out.2.1, HR.out.2.2.1⟩ (by rw [HLm.out]; exact hl))
              simp only [plA] at HC
              rw [HLm.out] at HC
              obtain ⟨y0, y1, y2, y3, y4⟩ := cells5 hk7
              dsimp only at y0 y1 y2 y3 y4
              have hoff : ∀ g, lv.ownBlock = some g → ∀ x, a3 = some x → x.block ≠ g := fun g hg x hx e => by
                have h1 := HR.out.2.2.2 x hx
                have h2 := hlt3 x hx
                have := HZ0.out
                rcases r3 g hg with e2 | e2
                · have h3 := hu6 _ e2
                  omega
                · rw [HE6.out] at e2
                  omega
              have HOff := toHid hoff
              clear r1 r2 r3 hr hk7 hs7 hoff hu6 q0 q1 q2 q3 q4 z0 z1 z2 z4))
            refine Calls.mono HC.out ?_
            rintro e w8 ⟨v', rfl, hd, hb⟩
            have HF8 := toHid (HF7.out.set hd hb HOff.out)
            clear HC hd hb
            go_wp2_with fail
            go_roundw
            case rel => exact ⟨n + 1, L'.set n ⟨⟨fa, 0, true, false, leftI ow ws⟩, a3, d3⟩, by omega, by rw [List.length_set]; exact HLm.out, by simp, by rw [pls_set HPl.out, HSu.out, HF.out], by rw [HHa.out, if_pos trivial]; exact HF8.out⟩
            case measure => simp only [intOf]; omega
          · have HF := toHid (failF_no HXo.out how)
            have hl6 : Below wo.heap.size wo (wc.setCell ⟨wo.heap.size, 4, none⟩ (.slice a3 (leftI k ws).length d3)) := hlw.setCell (Nat.le_refl _) _
            have hs6 : SlI (wc.setCell ⟨wo.heap.size, 4, none⟩ (.slice a3 (leftI k ws).length d3)) a3 (leftI k ws) := by
              have hn : ∀ x, a3 = some x → x.block ≠ wo.heap.size := fun x hx e => by
                have h1 := HR.out.2.2.2 x hx
                have := HZ0.out
                omega
              exact HR.out.1.one ((One.refl wo.heap.size wc).set 4 _) hn
            have HF6 := toHid (HFl.out.below hl6)
            have HOff := toHid (show ∀ g, u6.ownBlock = some g → ∀ x, a3 = some x → x.block ≠ g from fun g hg x hx e => by
              have h1 := HR.out.2.2.2 x hx
              have := HZ0.out
              obtain ⟨-, cur, hcur⟩ := own_low HFl.out.own hg
              have := some_lt hcur
              omega)
            have HC := toHid (with40 HF6.out.dl HI.out ⟨⟨fa, ow, lo, ca, leftI k ws⟩, a3, d3⟩ ⟨hs6, HR.out.2.1, HR.out.2.2.1⟩ (by rw [HLm.out]; exact hl))
            simp only [plA] at HC
            rw [HLm.out] at HC
            have HHb := HHa.out
            dsimp only at HHb
            rw [if_neg how] at HHb
            have HHc := toHid HHb
            clear hl6 hs6 hlw hkw hown hbl hfz HHb hlt3
            go_wp2_with fail
            refine Calls.mono HC.out ?_
            rintro e w8 ⟨v', rfl, hd, hb⟩
            have HF8 := toHid (HF6.out.set hd hb HOff.out)
            clear HC hd hb
            go_wp2_with fail
            go_roundw
            case rel => exact ⟨n + 1, L'.set n ⟨⟨fa, ow, lo, ca, leftI k ws⟩, a3, d3⟩, by omega, by rw [List.length_set]; exact HLm.out, by simp, by rw [pls_set HPl.out, HSu.out, HF.out], by rw [HHc.out]; exact HF8.out⟩
            case measure => simp only [intOf]; omega
      · obtain rfl : n = m := by omega
        obtain ⟨b1, d1, rfl⟩ := own_shape hfl.own
        have HX := toHid (show FailD w l k (.returned (.tuple #[.slice a1 n c1, .slice b1 (hasN l k n).length d1])) wo from ⟨_, _, L', rfl, by rw [← HLm.out]; exact hfl.dl, by rw [hpl, HE.out.1], ⟨b1, d1, by rw [HE.out.2], by rw [HE.out.2]; exact (own_sl hfl.own rfl).1⟩, hfl.low⟩)
        clear hfl hpl hlm
        go_wp2
        exact bodyPost_ret (v := .tuple #[.slice a1 n c1, .slice b1 (hasN l k n).length d1]) (by simp [results, Try.results28, go_sem]) rfl HX.out
end Go.Proofs.Ytdlanenbbmnbhaa
