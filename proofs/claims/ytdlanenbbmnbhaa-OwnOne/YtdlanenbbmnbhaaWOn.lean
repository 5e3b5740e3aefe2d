/-
  The law OwnOne: its walk.
-/
import Derived.Test.YtdlanenbbmnbhaaOn
import Derived.Test.YtdlanenbbmnbhaaCn
import Derived.Test.YtdlanenbbmnbhaaLv
namespace Go.Proofs.Ytdlanenbbmnbhaa
open Go.RowKit

set_option maxRecDepth 20000 in
set_option maxHeartbeats 4000000 in
theorem one_walk (n0 : Int) (af : Option Addr) (cf : Nat) (fast : List Bool) (a : Option Addr) (c : Nat) (ops : List OpG) (w : World) (hfs : SlB w af fast) (hfl : fast.length ≤ maxLen) (ho : SlO w a ops) (hol : ops.length ≤ maxLen) :
    Calls Try.prog 4 #[.int .i64 n0, .slice af fast.length cf, .slice a ops.length c] w fun e w' => e = .returned (.bool true) ∧ Below w.heap.size w w' := by
  unfold maxLen at hol hfl
  by_cases hbig : 100 < fast.length
  · have HL := toHid (lives_any w)
    clear ho hfs
    go_enter Try.func4, Try.ntmps4
    go_wp2_with fail
    refine Calls.mono HL.out ?_
    rintro e w3 ⟨rfl, hb3⟩
    have HB3 := toHid hb3
    clear hb3 HL
    go_wp2
    go_ret
    exact ⟨rfl, HB3.out⟩
  · cases hnew : newB n0 fast
    · have HN := toHid (new_no n0 af cf fast w hnew)
      have HL := toHid (lives_any w)
      clear ho hnew hfs
      go_enter Try.func4, Try.ntmps4
      go_wp2_with fail
      refine Calls.mono HN.out ?_
      rintro e w1 ⟨rfl, hw⟩
      obtain rfl := hw.symm
      clear HN hw
      go_wp2_with fail
      refine Calls.mono HL.out ?_
      rintro e w3 ⟨rfl, hb3⟩
      have HB3 := toHid hb3
      clear hb3 HL
      go_wp2
      go_ret
      exact ⟨rfl, HB3.out⟩
    · have hnw : 1 ≤ n0 ∧ n0 ≤ 16 ∧ (fast.length : Int) ≤ n0 := by simp [newB] at hnew; omega
      obtain ⟨m, rfl⟩ : ∃ m : Nat, n0 = (m : Int) := ⟨n0.toNat, by omega⟩
      have hm1 : 1 ≤ m := by omega
      have hm2 : m ≤ 16 := by omega
      have HN := toHid (new_yes m af cf fast w hm1 hm2 (by omega) hfs)
      have HS := toHid ho
      clear ho hnew hnw hfs
      go_enter Try.func4, Try.ntmps4
      go_wp2_with fail
      refine Calls.mono HN.out ?_
      rintro e w1 ⟨⟨p, q, rfl, hb, hp, hq⟩, hBb⟩
      have hbl := hb.lt
      have hB1 := hBb.size
      have j1 := heap_alloc_new w1 (.cells (AI fun _ => 0) 37)
      have b1 := (Below.refl w1.heap.size w1).alloc (Nat.le_refl _) (.cells (AI fun _ => 0) 37)
      have z1 : (w1.alloc (.cells (AI fun _ => 0) 37)).heap.size = w1.heap.size + 1 := by simp
      have j2 := heap_alloc_new (w1.alloc (.cells (AI fun _ => 0) 37)) (.cells (AB fun _ => false) 38)
      rw [z1] at j2
      have b2 := b1.alloc (by omega) (.cells (AB fun _ => false) 38)
      have j3 : ((w1.alloc (.cells (AI fun _ => 0) 37)).alloc (.cells (AB fun _ => false) 38)).heap[w1.heap.size]? = some (.cells (AI fun _ => 0) 37) := by
        rw [((Below.refl (w1.alloc (.cells (AI fun _ => 0) 37)).heap.size _).alloc (Nat.le_refl _) _).block _ (by omega)]
        exact j1
      have HSw : Hid (Sw w ((w1.alloc (.cells (AI fun _ => 0) 37)).alloc (.cells (AB fun _ => false) 38)) p q w1.heap.size (w1.heap.size + 1) (newL m fast) (fun _ => 0) (fun _ => false)) := toHid ⟨hb.below b2, hBb.trans (b2.mono hBb.size), j3, j2⟩
      have HA : Hid (Apart w.heap.size p q w1.heap.size (w1.heap.size + 1)) := toHid ⟨by omega, by omega, hq, by omega, by omega, by omega, by omega, by omega⟩
      have HW : Hid (∃ W, W = (w1.alloc (.cells (AI fun _ => 0) 37)).alloc (.cells (AB fun _ => false) 38)) := toHid ⟨_, rfl⟩
      rw [AI_zero, AB_zero] at HW
      clear hb hp hq hBb hbl hB1 j1 b1 z1 j2 b2 j3 HN
      go_upto_block 0 with fail
      obtain ⟨W0, hW0⟩ := HW.out
      rw [← AI_zero, ← AB_zero] at hW0
      rw [← hW0] at HSw
      rw [AI_zero, AB_zero] at hW0
      first | rw [← hW0] | (simp only [← hW0])
      clear hW0 HW
      obtain ⟨g2, hg2⟩ : ∃ g2, w1.heap.size + 1 = g2 := ⟨_, rfl⟩
      rw [hg2] at HSw HA ⊢
      clear hg2
      generalize w1.heap.size = g1 at HSw HA ⊢
      go_wp2_with fail
      go_loopw [11] (fun i wr => ∃ (n : Nat) (l : List Lf) (f : Nat → Int) (g : Nat → Bool), n ≤ ops.length ∧ i = .int .i64 n ∧ Told m l f g ∧ Sw w wr p q g1 g2 l f g) (fun i _ => ops.length - (intOf i).toNat)
      case atStart => exact ⟨0, _, _, _, Nat.zero_le _, rfl, Told.start m fast, HSw.out⟩
      case round =>
        clear HSw
        obtain ⟨n, l, f, g, hn, rfl, htd, hst⟩ := hrel
        have hso := HS.out.below hst.bel
        have hlw := hst.lt
        by_cases hgo : n < ops.length ∧ n < 100
        · obtain ⟨hlt, h100⟩ := hgo
          obtain ⟨b, o, rfl, c0, c1, c2⟩ := hso.at_ n hlt
          generalize ops[n] = op at c0 c1 c2
          obtain ⟨kd, pgo, ino⟩ := op
          simp only at c0 c1 c2
          have HT := toHid htd
          have HO1 := toHid (heap_alloc_new wr (.cells #[.int .i64 kd, .int .i64 pgo, .int .i64 ino] 34))
          have HSt1 := toHid (hst.below ((Below.refl wr.heap.size wr).alloc (Nat.le_refl _) (.cells #[.int .i64 kd, .int .i64 pgo, .int .i64 ino] 34)))
          have hobq : wr.heap.size ≠ q := by omega
          have hob1 : wr.heap.size ≠ g1 := by omega
          have hob2 : wr.heap.size ≠ g2 := by omega
          clear hso htd hst hlw
          go_upto_block 2 with fail
          generalize World.alloc _ _ = W1 at HO1 HSt1 ⊢
          clear c0 c1 c2
          generalize wr.heap.size = ob at HO1 hobq hob1 hob2 ⊢
          go_cut [13, 14] (fun v er W => ∃ (l2 : List Lf) (f2 : Nat → Int) (gg : Nat → Bool) (os : List Od) (a4 : Option Addr) (c4 : Nat) (e4 : Int), v = .slice a4 os.length c4 ∧ er = .int .i64 e4 ∧ (e4 = 0 ∨ os = []) ∧ os.length ≤ 2 ∧ SlD W a4 os ∧ OkL f2 os ∧ Told m l2 (foldF f2 os) gg ∧ Sw w W p q g1 g2 l2 f2 gg)
          case first =>
            obtain ⟨u0, u1, u2⟩ := op_cells HO1.out
            by_cases k0 : kd = 0
            · subst k0
              as_aux_lemma =>
                obtain ⟨R, hR⟩ : ∃ R, needL l pgo ino = R := ⟨_, rfl⟩
                have HC := toHid (need_any p q l pgo ino W1 HSt1.out.bk HT.out.ok)
                have hT := HT.out.need hm2 pgo ino
                have hod := (need_od HT.out.ok pgo ino).2
                rw [hR] at HC hT hod
                obtain ⟨l2, os, e4⟩ := R
                simp only at hT hod
                clear hR
                have HT2 := toHid hT
                clear hT
                go_wp2_with fail
                refine Calls.mono HC.out ?_
                rintro e w2 ⟨⟨v4, rfl, a4, c4, rfl, s4, n4⟩, hb2, ho2⟩
                simp only at s4 hb2
                have HSt2 := toHid (HSt1.out.one hb2 ho2 HA.out.bq HA.out.q1 HA.out.q2)
                have HS4 := toHid s4
                clear hb2 ho2 s4 n4 HC u0 u1 u2
                go_wp2_with fail
                go_meet
                case rel => exact ⟨l2, f, g, os, a4, c4, e4, rfl, rfl, (by by_cases z : e4 = 0; exact .inl z; exact .inr (HT2.out.1 z)), hod, HS4.out, HT2.out.2.1, HT2.out.2.2, HSt2.out⟩
            · have e0 : (kd == 0) = false := by simpa using k0
              by_cases k1 : kd = 1
              · subst k1
                as_aux_lemma =>
                  obtain ⟨R, hR⟩ : ∃ R, backL l pgo ino = R := ⟨_, rfl⟩
                  have HC := toHid (back_any p q l pgo ino W1 HSt1.out.bk HT.out.ok)
                  have hT := HT.out.back hm2 pgo ino
                  have hod := (back_od HT.out.ok pgo ino).2
                  rw [hR] at HC hT hod
                  obtain ⟨l2, os, e4⟩ := R
                  simp only at hT hod
                  clear hR
                  rcases hT with ⟨he, hos, htd⟩ | ⟨he, pn, hpn, h16, hfn, hok, htd⟩
                  · have HTd := toHid htd
                    have Hos := toHid hos
                    have heb : (e4 == 0) = false := by simpa using he
                    clear htd hos
                    go_wp2_with fail
                    refine Calls.mono HC.out ?_
                    rintro e w2 ⟨⟨v4, rfl, a4, c4, rfl, s4, n4⟩, hb2, ho2⟩
                    simp only at s4 hb2
                    have HSt2 := toHid (HSt1.out.one hb2 ho2 HA.out.bq HA.out.q1 HA.out.q2)
                    have HS4 := toHid s4
                    clear hb2 ho2 s4 n4 HC u0 u1 u2
                    go_wp2_with fail
                    go_meet
                    case rel => exact ⟨l2, f, g, os, a4, c4, e4, rfl, rfl, .inr Hos.out, hod, HS4.out, (by rw [Hos.out]; trivial), (by rw [Hos.out]; exact HTd.out), HSt2.out⟩
                  · subst he
                    subst hpn
                    have HTd := toHid htd
                    have HOk := toHid hok
                    have Hfn := toHid hfn
                    clear htd hok hfn
                    go_wp2_with fail
                    refine Calls.mono HC.out ?_
                    rintro e w2 ⟨⟨v4, rfl, a4, c4, rfl, s4, n4⟩, hb2, ho2⟩
                    simp only at s4 hb2
                    have HSt2 := toHid (HSt1.out.one hb2 ho2 HA.out.bq HA.out.q1 HA.out.q2)
                    have HS4 := toHid s4
                    obtain ⟨x0, x1, x2⟩ := op_cells (ho2.at HO1.out hobq)
                    obtain ⟨y0, y1⟩ := AI_cell HSt2.out.a1 pn h16
                    rw [Hfn.out] at y0
                    have h0 : 0 ≤ (pn : Int) := by omega
                    have h15 : (pn : Int) ≤ 15 := by omega
                    have Hn4 : Hid (∀ x, a4 = some x → x.block ≠ g1) := toHid fun x hx => by have h1 := n4 x hx; have h2 := HSt1.out.lt; omega
                    clear hb2 ho2 s4 n4 HC u0 u1 u2
                    go_wp2_with fail
                    have n15 : ¬ (15 : Int) < (pn : Int) := by omega
                    have m15 : ¬ 15 < pn := by omega
                    have n00 : ¬ (pn : Int) < 0 := by omega
                    go_quiet (fail)
                    obtain ⟨wq, hwq⟩ : ∃ wq, wq = w2.drewN nq := ⟨_, rfl⟩
                    rw [← hwq]
                    have HStq := toHid (HSt2.out.drewN nq)
                    have HSq := toHid (HS4.out.drewN nq)
                    rw [← hwq] at HStq HSq
                    have q1 := cellq hwq x1
                    obtain ⟨y2, y3⟩ := AI_cell HStq.out.a1 pn h16
                    have HSt3 := toHid (HStq.out.set1 HA.out pn h16 0)
                    have HS5 := toHid (HSq.out.one ((One.refl g1 wq).set pn (.int .i64 0)) Hn4.out)
                    clear x0 x1 x2 y0 y1 hwq
                    go_wp2_with fail
                    go_meet
                    case rel => exact ⟨l2, upd f pn 0, g, os, a4, c4, 0, rfl, rfl, .inl rfl, hod, HS5.out, HOk.out, HTd.out, HSt3.out⟩
              · have e1 : (kd == 1) = false := by simpa using k1
                by_cases k2 : kd = 2
                · subst k2
                  as_aux_lemma =>
                    have HC := toHid (fail_any p q l ino W1 HSt1.out.bk HT.out.ok)
                    have HG : Hid (∀ t (ht : t < (hasL l ino).length), _) := toHid fun t ht => HT.out.gone hm2 ino t ht
                    have HTd := toHid (HT.out.fail ino)
                    have hL16 : (hasL l ino).length ≤ 16 := by have h1 := hasL_len l ino; have h2 := HT.out.len; omega
                    generalize hasL l ino = L at HC HG HTd hL16
                    go_wp2_with fail
                    refine Calls.mono HC.out ?_
                    rintro e w2 ⟨⟨al, cl, rfl, hsl, hnl⟩, hb2, ho2⟩
                    have HSt2 := toHid (HSt1.out.one hb2 ho2 HA.out.bq HA.out.q1 HA.out.q2)
                    have HSl := toHid hsl
                    have HO2 := toHid (ho2.at HO1.out hobq)
                    clear hsl hnl hb2 ho2 HC u0 u1 u2
                    go_wp2_with fail
                    go_loopw [16] (fun i wr2 => ∃ t : Nat, t ≤ L.length ∧ i = .int .i64 t ∧ Sw w wr2 p q g1 g2 (failL l ino) (clearF f (L.take t)) (markG g (L.take t)) ∧ SlI wr2 al L ∧ wr2.heap[ob]? = some (.cells #[.int .i64 2, .int .i64 pgo, .int .i64 ino] 34)) (fun i _ => L.length - (intOf i).toNat)
                    case atStart => exact ⟨0, Nat.zero_le _, rfl, by rw [List.take_zero, clearF_nil, markG_nil]; exact HSt2.out, HSl.out, HO2.out⟩
                    case round =>
                      clear HSt2 HSl HO2 HSt1 HO1
                      obtain ⟨t, htl, rfl, hst, hsi, hob⟩ := hrel
                      by_cases hlt : t < L.length
                      · obtain ⟨pn, e1, h16, e2, e3, e5⟩ := HG.out t hlt
                        obtain ⟨b5, o5, rfl, -, z0⟩ := hsi.at t hlt
                        rw [e1] at z0
                        obtain ⟨x0, x1, x2⟩ := op_cells hob
                        obtain ⟨y0, y1⟩ := AI_cell hst.a1 pn h16
                        rw [e2] at y0
                        have hne : L ≠ [] := fun e => by rw [e] at hlt; simp at hlt
                        have HSt := toHid hst
                        have HSi := toHid hsi
                        have HOb := toHid hob
                        have HE3 := toHid e3
                        have HE5 := toHid e5
                        have Hne := toHid hne
                        have h0 : 0 ≤ (pn : Int) := by omega
                        have h15 : (pn : Int) ≤ 15 := by omega
                        clear hst hsi hob e1 e2 e3 e5 hne
                        go_wp2_with fail
                        have n15 : ¬ (15 : Int) < (pn : Int) := by omega
                        have m15 : ¬ 15 < pn := by omega
                        have n00 : ¬ (pn : Int) < 0 := by omega
                        go_quiet (fail)
                        obtain ⟨wq, hwq⟩ : ∃ wq, wq = wr.drewN nq := ⟨_, rfl⟩
                        rw [← hwq]
                        have HStq := toHid (HSt.out.drewN nq)
                        have HSiq := toHid (HSi.out.drewN nq)
                        have HObq : Hid ((wr.drewN nq).heap[ob]? = some (.cells #[.int .i64 2, .int .i64 pgo, .int .i64 ino] 34)) := toHid HOb.out
                        rw [← hwq] at HStq HSiq HObq
                        have q0 := cellq hwq z0
                        obtain ⟨y2, y3⟩ := AI_cell HStq.out.a1 pn h16
                        have HS1 := toHid (HStq.out.set1 HA.out pn h16 0)
                        have HI1 := toHid (sl_cell (u := .int .i64 0) (j := pn) HSiq.out HStq.out.a1 (by decide))
                        have HB1 : Hid ((wq.setCell ⟨g1, pn, none⟩ (.int .i64 0)).heap[ob]? = some (.cells #[.int .i64 2, .int .i64 pgo, .int .i64 ino] 34)) := toHid (by rw [heap_setCell_other _ _ _ _ hob1]; exact HObq.out)
                        have q1 : (wq.setCell ⟨g1, pn, none⟩ (.int .i64 0)).cell? ⟨b5, o5 + t, none⟩ = some (.int .i64 (pn : Int)) := by
                          have hb := sl_apart HSiq.out Hne.out HStq.out.a1 (by decide)
                          rw [World.cell?_setCell_other (h := by simp; try omega)]
                          exact q0
                        obtain ⟨v2, v3⟩ := AB_cell HS1.out.a2 pn h16
                        have HS2 := toHid (HS1.out.set2 HA.out pn h16 true)
                        have HI2 := toHid (sl_cell (u := .bool true) (j := pn) HI1.out HS1.out.a2 (by decide))
                        have HB2 : Hid (((wq.setCell ⟨g1, pn, none⟩ (.int .i64 0)).setCell ⟨g2, pn, none⟩ (.bool true)).heap[ob]? = some (.cells #[.int .i64 2, .int .i64 pgo, .int .i64 ino] 34)) := toHid (by rw [heap_setCell_other _ _ _ _ hob2]; exact HB1.out)
                        clear x0 x1 x2 y0 y1 z0 hwq
                        go_wp2_with fail
                        go_roundw
                        case rel => exact ⟨t + 1, by omega, by simp, by rw [← HE3.out, ← HE5.out]; exact HS2.out, HI2.out, HB2.out⟩
                        case measure => first | omega | (simp only [intOf]; omega)
                      · obtain rfl : t = L.length := by omega
                        rw [List.take_length] at hst
                        have HSt := toHid hst
                        clear hst hsi hob
                        go_wp2
                        go_meet
                        case rel => exact ⟨_, _, _, [], none, 0, 0, rfl, rfl, .inl rfl, by simp, SlD.nil _ _, trivial, HTd.out, HSt.out⟩
                · have e2 : (kd == 2) = false := by simpa using k2
                  by_cases k3 : kd = 3
                  · subst k3
                    as_aux_lemma =>
                      obtain ⟨R, hR⟩ : ∃ R, mendL l pgo = R := ⟨_, rfl⟩
                      have HC := toHid (mend_any p q l pgo W1 HSt1.out.bk HT.out.ok)
                      have hT := HT.out.mend hm2 pgo
                      have hod := (mend_od HT.out.ok pgo).2
                      rw [hR] at HC hT hod
                      obtain ⟨l2, os, e4⟩ := R
                      simp only at hT hod
                      clear hR
                      rcases hT with ⟨he, hos, htd⟩ | ⟨he, pn, hpn, h16, hfn, hok, htd⟩
                      · have HTd := toHid htd
                        have Hos := toHid hos
                        have heb : (e4 == 0) = false := by simpa using he
                        clear htd hos
                        go_wp2_with fail
                        refine Calls.mono HC.out ?_
                        rintro e w2 ⟨⟨v4, rfl, a4, c4, rfl, s4, n4⟩, hb2, ho2⟩
                        simp only at s4 hb2
                        have HSt2 := toHid (HSt1.out.one hb2 ho2 HA.out.bq HA.out.q1 HA.out.q2)
                        have HS4 := toHid s4
                        clear hb2 ho2 s4 n4 HC u0 u1 u2
                        go_wp2_with fail
                        go_meet
                        case rel => exact ⟨l2, f, g, os, a4, c4, e4, rfl, rfl, .inr Hos.out, hod, HS4.out, (by rw [Hos.out]; trivial), (by rw [Hos.out]; exact HTd.out), HSt2.out⟩
                      · subst he
                        subst hpn
                        have HTd := toHid htd
                        have HOk := toHid hok
                        have Hfn := toHid hfn
                        clear htd hok hfn
                        go_wp2_with fail
                        refine Calls.mono HC.out ?_
                        rintro e w2 ⟨⟨v4, rfl, a4, c4, rfl, s4, n4⟩, hb2, ho2⟩
                        simp only at s4 hb2
                        have HSt2 := toHid (HSt1.out.one hb2 ho2 HA.out.bq HA.out.q1 HA.out.q2)
                        have HS4 := toHid s4
                        obtain ⟨x0, x1, x2⟩ := op_cells (ho2.at HO1.out hobq)
                        obtain ⟨y0, y1⟩ := AB_cell HSt2.out.a2 pn h16
                        rw [Hfn.out] at y0
                        have h0 : 0 ≤ (pn : Int) := by omega
                        have h15 : (pn : Int) ≤ 15 := by omega
                        have Hn4 : Hid (∀ x, a4 = some x → x.block ≠ g2) := toHid fun x hx => by have h1 := n4 x hx; have h2 := HSt1.out.lt; omega
                        clear hb2 ho2 s4 n4 HC u0 u1 u2
                        have HSt3 := toHid (HSt2.out.set2 HA.out pn h16 false)
                        have HS5 := toHid (HS4.out.one ((One.refl g2 w2).set pn (.bool false)) Hn4.out)
                        go_wp2_with fail
                        go_meet
                        case rel => exact ⟨l2, f, upd g pn false, os, a4, c4, 0, rfl, rfl, .inl rfl, hod, HS5.out, HOk.out, HTd.out, HSt3.out⟩
                  · have e3 : (kd == 3) = false := by simpa using k3
                    go_wp2_with fail
                    go_meet
                    case rel => exact ⟨l, f, g, [], none, 0, 0, rfl, rfl, .inl rfl, by simp, SlD.nil _ _, trivial, HT.out, HSt1.out⟩
          case rest =>
            clear HSt1 HO1 HT
            obtain ⟨l2, f2, gg, os, a4, c4, e4, rfl, rfl, he4, hol2, hsd, hok, htold, hst⟩ := hcut
            have HC := toHid (told_any f2 a4 c4 os wc hsd hol2 hok)
            have HSt := toHid hst
            have hte : e4 = 0 ∨ ((e4 != 0) = true ∧ ¬ 0 < (os.length : Int)) := by
              by_cases z : e4 = 0
              · exact .inl z
              · rcases he4 with h | h
                · exact absurd h z
                · exact .inr ⟨by simpa using z, by rw [h]; simp⟩
            obtain ⟨F, hF⟩ : ∃ F, foldF f2 os = F := ⟨_, rfl⟩
            rw [hF] at HC htold
            have HT := toHid htold
            clear hF he4 hsd hok hst htold hol2
            rcases hte with rfl | ⟨hte, hto⟩
            all_goals
              as_aux_lemma =>
                go_wp2_with (refine wpList_load_row rfl 37 (.tmp 9) rfl g1 rfl 37 _ (0, 0) _ HSt.out.a1 rfl rfl (by rw [AI_size]; rfl) ?_)
                refine Calls.mono HC.out ?_
                rintro e w3 ⟨rfl, hb3⟩
                have HSt3 := toHid (HSt.out.below hb3)
                have lt3 := HSt3.out.lt
                have k0 := heap_alloc_new w3 (.cells #[.int .i64 0, .int .i64 0, .int .i64 0, .int .i64 0, .int .i64 0, .int .i64 0, .int .i64 0, .int .i64 0, .int .i64 0, .int .i64 0, .int .i64 0, .int .i64 0, .int .i64 0, .int .i64 0, .int .i64 0, .int .i64 0] 37)
                have HSt4 := HSt3.out.below ((Below.refl w3.heap.size w3).alloc (Nat.le_refl _) (.cells #[.int .i64 0, .int .i64 0, .int .i64 0, .int .i64 0, .int .i64 0, .int .i64 0, .int .i64 0, .int .i64 0, .int .i64 0, .int .i64 0, .int .i64 0, .int .i64 0, .int .i64 0, .int .i64 0, .int .i64 0, .int .i64 0] 37))
                have HSt5 := toHid (HSt4.row k0 (by decide) lt3.2.2.2.2 (by omega) (by omega) (by omega) (by omega) (AI F))
                have K1 := toHid k0
                have K2 := toHid (setRow_heap _ w3.heap.size _ (AI F) 37 (0, 0) k0)
                have HSt6 := toHid (HSt5.out.row1 HA.out F)
                clear hb3 HSt HSt4 k0 lt3 HC HSt3
                go_wp2_with (first
                  | (refine wpList_store_row rfl 37 (.tmp 17) (.tmp 182) rfl w3.heap.size (AI F) rfl rfl 37 _ K1.out (by rw [AI_size]; rfl) (by rw [AI_size]; rfl) (AI_one _) ?_)
                  | (refine wpList_load_row rfl 37 (.tmp 17) rfl w3.heap.size rfl 37 _ (0, 0) _ K2.out rfl rfl (by rw [AI_size]; rfl) ?_)
                  | (refine wpList_store_row rfl 37 (.tmp 9) (.tmp 186) rfl g1 (AI F) rfl rfl 37 _ HSt5.out.a1 (by rw [AI_size]; rfl) (by rw [AI_size]; rfl) (AI_one _) ?_))
                go_loopw [19] (fun i wr2 => ∃ k : Nat, k ≤ 16 ∧ i = .int .i64 k ∧ Sw w wr2 p q g1 g2 l2 F gg) (fun i _ => 16 - (intOf i).toNat)
                case atStart => exact ⟨0, Nat.zero_le _, rfl, HSt6.out⟩
                case round =>
                  clear HSt5 HSt6 K1 K2
                  obtain ⟨k, hk, rfl, hst⟩ := hrel
                  have HSt := toHid hst
                  by_cases hlt : k < 16
                  · have HOw : Hid (∀ W, Bk W p q l2 → Calls Try.prog 19 #[.pointer (some ⟨p, 0, none⟩), .int .i64 (k : Int)] W fun e w' => e = .returned (.int .i64 (F k)) ∧ w' = W) := toHid fun W hW => by have := owner_any p q l2 k W hW; rwa [HT.out.own k hlt] at this
                    have HLo : Hid (∀ W, Bk W p q l2 → Calls Try.prog 20 #[.pointer (some ⟨p, 0, none⟩), .int .i64 (k : Int)] W fun e w' => e = .returned (.bool (gg k)) ∧ w' = W) := toHid fun W hW => by have := lost_any p q l2 k W hW; rwa [HT.out.lost k hlt] at this
                    have hap := HT.out.apart k hlt
                    obtain ⟨y0, -⟩ := AI_cell hst.a1 k hlt
                    obtain ⟨z0, -⟩ := AB_cell hst.a2 k hlt
                    obtain ⟨fk, hfk⟩ : ∃ fk, F k = fk := ⟨_, rfl⟩
                    obtain ⟨gk, hgk⟩ : ∃ gk, gg k = gk := ⟨_, rfl⟩
                    simp only [hfk] at HOw hap y0
                    simp only [hgk] at HLo hap z0
                    have hc : fk = 0 ∨ ((fk != 0) = true ∧ gk = false) := by
                      by_cases z : fk = 0
                      · exact .inl z
                      · cases gk
                        · exact .inr ⟨by simpa using z, rfl⟩
                        · exact absurd (hap rfl) z
                    clear hap hfk hgk hst
                    rcases hc with rfl | ⟨hc, rfl⟩
                    all_goals
                      go_wp2_with fail
                      go_quiet ((first | (go_at_call 19; exact Calls.quiet_of_same (HOw.out _ (HSt.out.bk.drewN _))) | (go_at_call 20; exact Calls.quiet_of_same (HLo.out _ (HSt.out.bk.drewN _)))))
                      have HStq := toHid (HSt.out.drewN nq)
                      clear y0 z0 HOw HLo
                      go_wp2_with fail
                      go_roundw
                      case rel => exact ⟨k + 1, by omega, by simp, HStq.out⟩
                      case measure => first | omega | (simp only [intOf]; omega)
                  · obtain rfl : k = 16 := by omega
                    go_wp2_with fail
                    go_roundw
                    case rel => exact ⟨n + 1, l2, F, gg, by omega, by simp, HT.out, HSt.out⟩
                    case measure => first | omega | (simp only [intOf]; omega)
        · have hx : (n < ops.length ∧ ¬ n < 100) ∨ ¬ n < ops.length := by omega
          have HSt := toHid hst
          have HL := toHid (lives_any wr)
          have hszr := hst.bel.size
          clear hgo hso hst hlw
          rcases hx with ⟨hlt, h100⟩ | hlt
          all_goals
            go_wp2_with fail
            refine Calls.mono HL.out ?_
            rintro e w3 ⟨rfl, hb3⟩
            have HB3 := toHid (HSt.out.bel.trans (hb3.mono hszr))
            clear hb3 HL
            go_wp2
            go_ret
            exact ⟨rfl, HB3.out⟩
end Go.Proofs.Ytdlanenbbmnbhaa
