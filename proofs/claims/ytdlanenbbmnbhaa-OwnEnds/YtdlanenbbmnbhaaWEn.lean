/-
  The law OwnEnds: its walk.
-/
import Derived.Test.YtdlanenbbmnbhaaAr
import Derived.Test.YtdlanenbbmnbhaaMe
import Derived.Test.YtdlanenbbmnbhaaBc
import Derived.Test.YtdlanenbbmnbhaaCj
import Derived.Test.YtdlanenbbmnbhaaQt
import Derived.Deep.DeepCutAuto
import Derived.Deep.CutBlock
namespace Go.Proofs.Ytdlanenbbmnbhaa
open Go.RowKit

/-- Where a run stands in memory. -/
structure St (w0 w1 w : World) (p q : Nat) (v : Value) (l : List Lf) (C : List Od) : Prop where
  bk : Bk w p q l
  own : w.ownsRow w1.heap.size 51 5 v C.length (odVs C)
  bel : Below w0.heap.size w0 w
  bel1 : w1.heap.size ≤ w.heap.size
theorem St.one {w0 w1 w w' : World} {p q : Nat} {v : Value} {l l2 : List Lf} {C : List Od} (h : St w0 w1 w p q v l C) (hb : Bk w' p q l2) (ho : One q w w') (hq : w0.heap.size ≤ q) (hq1 : q < w1.heap.size) : St w0 w1 w' p q v l2 C :=
  ⟨hb, own_one h.own ho hq1, h.bel.trans (ho.below hq h.bel.size), Nat.le_trans h.bel1 ho.size⟩
theorem St.drew {w0 w1 w : World} {p q : Nat} {v : Value} {l : List Lf} {C : List Od} (h : St w0 w1 w p q v l C) : St w0 w1 w.drew p q v l C := ⟨h.bk.drew, h.own, h.bel.drew, h.bel1⟩
theorem St.drewN {w0 w1 w : World} {p q : Nat} {v : Value} {l : List Lf} {C : List Od} (h : St w0 w1 w p q v l C) (n : Nat) : St w0 w1 (w.drewN n) p q v l C := ⟨h.bk.drewN n, h.own, below_drewN h.bel n, h.bel1⟩
theorem St.put {w0 w1 w w' : World} {p q : Nat} {v v' : Value} {l : List Lf} {C D : List Od} (h : St w0 w1 w p q v l C) (hB : w0.heap.size ≤ w1.heap.size) (hp : p < w1.heap.size) (hq : q < w1.heap.size) (hown : w'.ownsRow w1.heap.size 51 5 v' (C ++ D).length (odVs (C ++ D))) (hg : Grew w1.heap.size w w') : St w0 w1 w' p q v' l (C ++ D) :=
  ⟨h.bk.grew hg hp hq, hown, h.bel.trans (hg.below hB h.bel.size), by obtain ⟨g, -, -, h3⟩ := hg; exact Nat.le_trans h.bel1 h3.size⟩

set_option maxRecDepth 20000 in
set_option maxHeartbeats 4000000 in
theorem ends_walk (n0 : Int) (a : Option Addr) (c : Nat) (ops : List OpG) (w : World) (ho : SlO w a ops) (hol : ops.length ≤ maxLen) :
    Calls Try.prog 6 #[.int .i64 n0, .slice a ops.length c] w fun e w' => e = .returned (.bool true) ∧ Below w.heap.size w w' := by
  unfold maxLen at hol
  cases hnew : newB n0 []
  · have HN := toHid (new_no n0 none 0 [] w hnew)
    have HL := toHid (lives_any w)
    clear ho hnew
    go_enter Try.func6, Try.ntmps6
    go_wp2_with fail
    refine Calls.mono HN.out ?_
    rintro e w1 ⟨rfl, hw⟩
    obtain rfl := hw.symm
    clear HN hw
    go_wp2_with fail
    refine Calls.mono HL.out ?_
    rintro e w3 ⟨rfl, hb3⟩
    have HB3 := toHid hb3
    clear hb3 HL
    go_wp2
    go_ret
    exact ⟨rfl, HB3.out⟩
  · have hnw : 1 ≤ n0 ∧ n0 ≤ 16 := by simp [newB] at hnew; omega
    obtain ⟨m, rfl⟩ : ∃ m : Nat, n0 = (m : Int) := ⟨n0.toNat, by omega⟩
    have hm1 : 1 ≤ m := by omega
    have hm2 : m ≤ 16 := by omega
    have HN := toHid (new_yes m none 0 [] w hm1 hm2 (by simp) ⟨fun j hj => by simp at hj⟩)
    have HS := toHid ho
    clear ho hnew hnw
    go_enter Try.func6, Try.ntmps6
    go_wp2_with fail
    refine Calls.mono HN.out ?_
    rintro e w1 ⟨⟨p, q, rfl, hb, hp, hq⟩, hBb⟩
    have hB := hBb.size
    have hpB := hb.lt.1
    have hqB := hb.lt.2.1
    have hq1 := hqB
    have HSt1 : Hid (St w w1 w1 p q (.slice none 0 0) (newL m []) []) := toHid ⟨hb, ownsRow_nilD _ _, hBb, Nat.le_refl _⟩
    clear HN hb hBb
    go_upto_block 0 with fail
    go_cut [7] (fun v W => ∃ (l : List Lf) (C : List Od), Run m l C ∧ C.length ≤ 160 ∧ St w w1 W p q v l C)
    case first =>
      go_wp2_with fail
      go_loopw [8, 7] (fun i v wr => ∃ (n : Nat) (l : List Lf) (C : List Od), n ≤ ops.length ∧ n ≤ 80 ∧ i = .int .i64 n ∧ Run m l C ∧ C.length ≤ 2 * n ∧ St w w1 wr p q v l C) (fun i _ _ => ops.length - (intOf i).toNat)
      case atStart => exact ⟨0, _, [], Nat.zero_le _, Nat.zero_le _, rfl, Run.start m, by simp, HSt1.out⟩
      case round =>
        clear HSt1
        obtain ⟨n, l, C, hn, hn8, rfl, hrun, hcl, hst⟩ := hrel
        have HSt := toHid hst
        have hso := HS.out.below hst.bel
        by_cases hgo : n < ops.length ∧ n < 80
        · obtain ⟨hlt, h80⟩ := hgo
          obtain ⟨b, o, rfl, c0, c1, c2⟩ := hso.at_ n hlt
          generalize ops[n] = op at c0 c1 c2
          obtain ⟨kd, pgo, ino⟩ := op
          simp only at c0 c1 c2
          clear hso
          by_cases k0 : kd = 0
          · subst k0
            obtain ⟨R, hR⟩ : ∃ R, needL l pgo ino = R := ⟨_, rfl⟩
            have HC := toHid (need_any p q l pgo ino wr.drew hst.bk.drew hrun.ok)
            have hrun2 := hrun.need pgo ino
            have hod := (need_od hrun.ok pgo ino).2
            rw [hR] at HC hrun2 hod
            obtain ⟨l2, os, f⟩ := R
            simp only at hrun2 hod
            have HRun := toHid hrun2
            clear hR hrun2 hrun
            go_wp2_with fail
            go_region_with (first | (go_at_call 14; refine Calls.mono HC.out ?_; rintro e w2 ⟨⟨v4, rfl, a4, c4, rfl, s4, n4⟩, hb2, ho2⟩; simp only at s4 hb2; have HSt := toHid (HSt.out.drew.one hb2 ho2 hq hq1); have HS4 := toHid s4; clear hb2 ho2 s4 n4))
            all_goals
              have HW := HSt.out.own
              have hszB := HSt.out.bel1
              clear HC
              go_wp2_with (at_builtin; refine wpList_ownD rfl (.tmp 99) (.tmp 100) 39 rfl Try.underlying39 w1.heap.size _ C rfl HW a4 _ c4 os rfl rfl HS4.out (by omega) hszB ?_; intro v' w' ho' hg')
              go_roundw
              case rel => exact ⟨n + 1, _, _, by omega, by omega, by simp, HRun.out, by rw [List.length_append]; omega, HSt.out.put hB hpB hqB ho' hg'⟩
              case measure => first | omega | (simp only [intOf]; omega)
          · have e0 : (kd == 0) = false := by simpa using k0
            by_cases k1 : kd = 1
            · subst k1
              obtain ⟨R, hR⟩ : ∃ R, backL l pgo ino = R := ⟨_, rfl⟩
              have HC := toHid (back_any p q l pgo ino wr.drew hst.bk.drew hrun.ok)
              have hrun2 := hrun.back pgo ino
              have hod := (back_od hrun.ok pgo ino).2
              rw [hR] at HC hrun2 hod
              obtain ⟨l2, os, f⟩ := R
              simp only at hrun2 hod
              have HRun := toHid hrun2
              clear hR hrun2 hrun
              go_wp2_with fail
              go_region_with (first | (go_at_call 15; refine Calls.mono HC.out ?_; rintro e w2 ⟨⟨v4, rfl, a4, c4, rfl, s4, n4⟩, hb2, ho2⟩; simp only at s4 hb2; have HSt := toHid (HSt.out.drew.one hb2 ho2 hq hq1); have HS4 := toHid s4; clear hb2 ho2 s4 n4))
              all_goals
                have HW := HSt.out.own
                have hszB := HSt.out.bel1
                clear HC
                go_wp2_with (at_builtin; refine wpList_ownD rfl (.tmp 99) (.tmp 100) 39 rfl Try.underlying39 w1.heap.size _ C rfl HW a4 _ c4 os rfl rfl HS4.out (by omega) hszB ?_; intro v' w' ho' hg')
                go_roundw
                case rel => exact ⟨n + 1, _, _, by omega, by omega, by simp, HRun.out, by rw [List.length_append]; omega, HSt.out.put hB hpB hqB ho' hg'⟩
                case measure => first | omega | (simp only [intOf]; omega)
            · have e1 : (kd == 1) = false := by simpa using k1
              by_cases k2 : kd = 2
              · subst k2
                have HC := toHid (fail_any p q l ino wr hst.bk hrun.ok)
                have HRun := toHid (hrun.fail ino)
                clear hrun
                go_wp2_with fail
                refine Calls.mono HC.out ?_
                rintro e w2 ⟨⟨va, vc, rfl, hv, hvn⟩, hb2, ho2⟩
                have HSt := toHid (HSt.out.one hb2 ho2 hq hq1)
                have HW := HSt.out.own
                have hszB := HSt.out.bel1
                clear hb2 ho2 hv hvn HC
                go_wp2_with (at_builtin; refine wpList_ownD rfl (.tmp 99) (.tmp 100) 39 rfl Try.underlying39 w1.heap.size _ C rfl HW none _ 0 [] rfl rfl (SlD.nil _ _) (by simp; omega) hszB ?_; intro v' w' ho' hg')
                go_roundw
                case rel => exact ⟨n + 1, _, _, by omega, by omega, by simp, by rw [List.append_nil]; exact HRun.out, by rw [List.append_nil]; omega, HSt.out.put hB hpB hqB ho' hg'⟩
                case measure => first | omega | (simp only [intOf]; omega)
              · have e2 : (kd == 2) = false := by simpa using k2
                by_cases k3 : kd = 3
                · subst k3
                  obtain ⟨R, hR⟩ : ∃ R, mendL l pgo = R := ⟨_, rfl⟩
                  have HC := toHid (mend_any p q l pgo wr hst.bk hrun.ok)
                  have hrun2 := hrun.mend pgo
                  have hod := (mend_od hrun.ok pgo).2
                  rw [hR] at HC hrun2 hod
                  obtain ⟨l2, os, f⟩ := R
                  simp only at hrun2 hod
                  have HRun := toHid hrun2
                  clear hR hrun2 hrun
                  go_wp2_with fail
                  refine Calls.mono HC.out ?_
                  rintro e w2 ⟨⟨v4, rfl, a4, c4, rfl, s4, n4⟩, hb2, ho2⟩
                  simp only at s4 hb2
                  have HSt := toHid (HSt.out.one hb2 ho2 hq hq1)
                  have HS4 := toHid s4
                  clear hb2 ho2 s4 n4
                  have HW := HSt.out.own
                  have hszB := HSt.out.bel1
                  clear HC
                  go_wp2_with (at_builtin; refine wpList_ownD rfl (.tmp 99) (.tmp 100) 39 rfl Try.underlying39 w1.heap.size _ C rfl HW a4 _ c4 os rfl rfl HS4.out (by omega) hszB ?_; intro v' w' ho' hg')
                  go_roundw
                  case rel => exact ⟨n + 1, _, _, by omega, by omega, by simp, HRun.out, by rw [List.length_append]; omega, HSt.out.put hB hpB hqB ho' hg'⟩
                  case measure => first | omega | (simp only [intOf]; omega)
                · have e3 : (kd == 3) = false := by simpa using k3
                  have HRun := toHid hrun
                  have HW := HSt.out.own
                  have hszB := HSt.out.bel1
                  clear hrun hst
                  go_wp2_with (at_builtin; refine wpList_ownD rfl (.tmp 99) (.tmp 100) 39 rfl Try.underlying39 w1.heap.size _ C rfl HW none _ 0 [] rfl rfl (SlD.nil _ _) (by simp; omega) hszB ?_; intro v' w' ho' hg')
                  go_roundw
                  case rel => exact ⟨n + 1, _, _, by omega, by omega, by simp, by rw [List.append_nil]; exact HRun.out, by rw [List.append_nil]; omega, HSt.out.put hB hpB hqB ho' hg'⟩
                  case measure => first | omega | (simp only [intOf]; omega)
        · have hx : (n < ops.length ∧ ¬ n < 80) ∨ ¬ n < ops.length := by omega
          clear hgo hso
          rcases hx with ⟨hlt, h80⟩ | hlt
          all_goals
            go_wp2
            go_meet
            case rel => exact ⟨l, C, hrun, by omega, hst⟩
    case rest =>
      clear HSt1 HS
      obtain ⟨l, C, hrun, hcl, hst⟩ := hcut
      have HSt2 := toHid hst
      have HRun2 := toHid hrun
      clear hst hrun
      go_upto_block 3 with fail
      go_cut [7] (fun v W => ∃ (l : List Lf) (C : List Od), Run m l C ∧ (∀ x ∈ l, x.lost = false) ∧ C.length ≤ 200 ∧ St w w1 W p q v l C)
      case first =>
        go_wp2_with fail
        go_loopw [10, 7] (fun i v wr => ∃ (n : Nat) (l : List Lf) (C : List Od), n ≤ m ∧ i = .int .i64 n ∧ Run m l C ∧ (∀ j x, l[j]? = some x → j < n → x.lost = false) ∧ C.length ≤ 160 + 2 * n ∧ St w w1 wr p q v l C) (fun i _ _ => m - (intOf i).toNat)
        case atStart => exact ⟨0, l, C, Nat.zero_le _, rfl, HRun2.out, fun j _ _ h => absurd h (by omega), by omega, HSt2.out⟩
        case round =>
          clear HSt2 HRun2 hcl
          obtain ⟨n, l, C, hn, rfl, hrun, hlost, hcl, hst⟩ := hrel
          have HSt := toHid hst
          have HLs := toHid hlost
          by_cases hlt : n < m
          · have hi : n < l.length := by rw [hrun.len]; exact hlt
            have HLo := toHid (lost_any p q l n wr hst.bk)
            rw [lfAt_yes hi] at HLo
            obtain ⟨lo, hlo⟩ : ∃ lo, l[n].lost = lo := ⟨_, rfl⟩
            rw [hlo] at HLo
            cases lo
            · have HRun := toHid hrun
              have HL2 : Hid (∀ j x, l[j]? = some x → j < n + 1 → x.lost = false) := toHid fun j x hx h => by
                by_cases e : j = n
                · subst e
                  rw [List.getElem?_eq_getElem hi] at hx
                  cases hx
                  exact hlo
                · exact HLs.out j x hx (by omega)
              clear hrun hlost hst hlo
              go_wp2_with fail
              refine Calls.mono HLo.out ?_
              rintro e w2 ⟨rfl, hw⟩
              obtain rfl := hw.symm
              clear HLo hw
              go_wp2_with fail
              go_roundw
              case rel => exact ⟨n + 1, l, C, by omega, by simp, HRun.out, HL2.out, by omega, HSt.out⟩
              case measure => first | omega | (simp only [intOf]; omega)
            · obtain ⟨R, hR⟩ : ∃ R, mendL l (n : Int) = R := ⟨_, rfl⟩
              have HC := toHid (mend_any p q l n wr hst.bk hrun.ok)
              have hrun2 := hrun.mend (n : Int)
              have hod := (mend_od hrun.ok (n : Int)).2
              have hlost2 : ∀ j x, (mendL l (n : Int)).1[j]? = some x → j < n + 1 → x.lost = false := fun j x hx h => by
                have eq : (mendL l (n : Int)).1 = l.set n (serveF (n : Int) (leaveF false l[n])).1 := by rw [mend_good hi hlo]
                rw [eq, List.getElem?_set] at hx
                by_cases e : n = j
                · subst e
                  rw [if_pos rfl, if_pos hi] at hx
                  cases hx
                  rw [serve_lost]; rfl
                · rw [if_neg e] at hx
                  exact HLs.out j x hx (by omega)
              rw [hR] at HC hrun2 hod hlost2
              obtain ⟨l2, os, f⟩ := R
              simp only at hrun2 hod hlost2
              have HRun := toHid hrun2
              have HL2 := toHid hlost2
              clear hR hrun2 hrun hlost2 hlost hlo hst
              go_wp2_with fail
              refine Calls.mono HLo.out ?_
              rintro e w2 ⟨rfl, hw⟩
              obtain rfl := hw.symm
              clear HLo hw
              go_wp2_with fail
              refine Calls.mono HC.out ?_
              rintro e w2 ⟨⟨v4, rfl, a4, c4, rfl, s4, n4⟩, hb2, ho2⟩
              simp only at s4 hb2
              have HSt := toHid (HSt.out.one hb2 ho2 hq hq1)
              have HS4 := toHid s4
              have HW := HSt.out.own
              have hszB := HSt.out.bel1
              clear hb2 ho2 s4 n4 HC
              go_wp2_with (at_builtin; refine wpList_ownD rfl (.tmp 116) (.tmp 117) 39 rfl Try.underlying39 w1.heap.size _ C rfl HW a4 _ c4 os rfl rfl HS4.out (by omega) hszB ?_; intro v' w' ho' hg')
              go_roundw
              case rel => exact ⟨n + 1, _, _, by omega, by simp, HRun.out, HL2.out, by rw [List.length_append]; omega, HSt.out.put hB hpB hqB ho' hg'⟩
              case measure => first | omega | (simp only [intOf]; omega)
          · obtain rfl : n = m := by omega
            go_wp2
            go_meet
            case rel => exact ⟨l, C, hrun, fun x hx => by
              obtain ⟨j, hj, e⟩ := List.getElem_of_mem hx
              exact HLs.out j x (by rw [List.getElem?_eq_getElem hj, e]) (by rw [hrun.len] at hj; exact hj), by omega, hst⟩
      case rest =>
        clear HSt2 HRun2
        clear hcl
        obtain ⟨l, C, hrun, hlost, hcl, hst⟩ := hcut
        have HLast := toHid (hrun.last hm2 hlost hcl)
        have HSt3 := toHid hst
        clear hst hrun hlost hcl
        go_upto_block 5 with fail
        go_cut [] (fun W => ∃ l : List Lf, l.length = m ∧ BkOk l ∧ (∀ x ∈ l, x.ws = [] ∧ x.lost = false) ∧ Bk W p q l ∧ Below w.heap.size w W)
        case first =>
          go_wp2_with fail
          go_loopw [13, 7] (fun i v wr => ∃ (n : Nat) (l : List Lf) (C : List Od), i = .int .i64 n ∧ Last m l C n ∧ St w w1 wr p q v l C) (fun i _ _ => 700 - (intOf i).toNat)
          case atStart => exact ⟨0, l, C, rfl, HLast.out, HSt3.out⟩
          case round =>
            clear HSt3 HLast
            obtain ⟨n, l, C, rfl, hla, hst⟩ := hrel
            have hfew := hla.few
            have hle := hla.le
            have HSt := toHid hst
            have HLa := toHid hla
            obtain ⟨a7, c7, hv7, hsd⟩ := own_sd hst.own
            subst hv7
            by_cases hlt : n < C.length
            · have hn2 : n < 2000 := by omega
              obtain ⟨b7, o7, rfl, -, x0, x1, x2, x3, x4⟩ := hsd.at n hlt
              have HOw : Hid (∀ W, Bk W p q l → Calls Try.prog 19 #[.pointer (some ⟨p, 0, none⟩), .int .i64 C[n].page] W fun e w' => e = .returned (.int .i64 (lfAt l C[n].page).owner) ∧ w' = W) := toHid fun W hW => owner_any p q l _ W hW
              by_cases hk : C[n].kind = 2
              · rw [hk] at x0
                by_cases hof : (lfAt l C[n].page).owner = C[n].frm
                · have hgo := hla.go hlt hk hof
                  obtain ⟨R, hR⟩ : ∃ R, backL l C[n].page C[n].frm = R := ⟨_, rfl⟩
                  rw [hof] at HOw
                  have HC : Hid (∀ W, Bk W p q l → Calls Try.prog 15 #[.pointer (some ⟨p, 0, none⟩), .int .i64 C[n].page, .int .i64 C[n].frm] W fun e w' => Ans p q W R e w') := toHid fun W hW => by
                    have := back_any p q l C[n].page C[n].frm W hW hla.ok
                    rwa [hR] at this
                  rw [hR] at hgo
                  obtain ⟨l2, os, f⟩ := R
                  obtain ⟨hf, hla2⟩ := hgo
                  simp only at hf hla2
                  subst hf
                  have HLa2 := toHid hla2
                  have hfew2 := hla2.few
                  rw [List.length_append] at hfew2
                  generalize C[n].page = cp at *
                  generalize C[n].frm = cf at *
                  clear hR hla2 hla hst hof hk hsd HLa
                  go_wp2_with fail
                  go_quiet ((go_at_call 19; exact Calls.quiet_of_same (HOw.out _ (HSt.out.bk.drewN _))))
                  obtain ⟨wq, hwq⟩ : ∃ wq, wq = wr.drewN nq := ⟨_, rfl⟩
                  rw [← hwq]
                  have HStq := toHid (HSt.out.drewN nq)
                  rw [← hwq] at HStq
                  have q1 := cellq hwq x1
                  have q2 := cellq hwq x2
                  clear x0 x1 x2 x3 x4 hwq HSt
                  go_wp2_with fail
                  go_region_with (first
                    | (go_at_call 15; refine Calls.mono (HC.out _ HStq.out.bk.drew) ?_; rintro e w2 ⟨⟨v4, rfl, a4, c4, rfl, s4, n4⟩, hb2, ho2⟩; have HSt := toHid (HStq.out.drew.one hb2 ho2 hq hq1); have HS4 := toHid s4; clear hb2 ho2 s4 n4))
                  all_goals
                    have HW := HSt.out.own
                    have hszB := HSt.out.bel1
                    clear HC q1 q2 HStq
                    go_wp2_with (at_builtin; refine wpList_ownD rfl (.tmp 167) (.tmp 168) 39 rfl Try.underlying39 w1.heap.size _ C rfl HW a4 _ c4 os rfl rfl HS4.out (by omega) hszB ?_; intro v' w' ho' hg')
                    go_roundw
                    case rel => exact ⟨n + 1, _, _, by simp, HLa2.out, HSt.out.put hB hpB hqB ho' hg'⟩
                    case measure => simp only [intOf]; omega
                · have HLa2 := toHid (hla.skip hlt (fun e => hof e.2))
                  have hob : ((lfAt l C[n].page).owner == C[n].frm) = false := by simpa using hof
                  generalize (lfAt l C[n].page).owner = ow at *
                  generalize C[n].page = cp at *
                  generalize C[n].frm = cf at *
                  clear hla hst hof hk hsd HLa
                  go_wp2_with fail
                  go_quiet ((go_at_call 19; exact Calls.quiet_of_same (HOw.out _ (HSt.out.bk.drewN _))))
                  have HStq := toHid (HSt.out.drewN nq)
                  clear x0 x1 x2 x3 x4
                  go_wp2_with fail
                  go_roundw
                  case rel => exact ⟨n + 1, _, _, by simp, HLa2.out, HStq.out⟩
                  case measure => simp only [intOf]; omega
              · have HLa2 := toHid (hla.skip hlt (fun e => hk e.1))
                have hkb : (C[n].kind == 2) = false := by simpa using hk
                generalize C[n].kind = ck at *
                generalize C[n].page = cp at *
                generalize C[n].frm = cf at *
                clear hla hst hsd HLa
                go_wp2_with fail
                go_quiet (fail)
                have HStq := toHid (HSt.out.drewN nq)
                clear x0 x1 x2 x3 x4
                go_wp2_with fail
                go_roundw
                case rel => exact ⟨n + 1, _, _, by simp, HLa2.out, HStq.out⟩
                case measure => simp only [intOf]; omega
            · clear hsd
              go_wp2
              go_meet
              case rel => exact ⟨l, hla.len, hla.ok, hla.done (by omega), hst.bk, hst.bel⟩
        case rest =>
          clear HSt3 HLast
          obtain ⟨l, hlm, hok, hall, hbk, hbe⟩ := hcut
          have HAll := toHid hall
          have HBk := toHid hbk
          have HBe := toHid hbe
          have HO := toHid hok
          clear hall hbk hbe hok
          go_wp2_with fail
          go_loopw [16] (fun i wr => ∃ n : Nat, n ≤ m ∧ i = .int .i64 n ∧ Bk wr p q l ∧ Below w.heap.size w wr) (fun i _ => m - (intOf i).toNat)
          case atStart => exact ⟨0, Nat.zero_le _, rfl, HBk.out, HBe.out⟩
          case round =>
            clear HBk HBe
            obtain ⟨n, hn, rfl, hbk, hbe⟩ := hrel
            have HBe := toHid hbe
            have hszr := hbe.size
            by_cases hlt : n < m
            · have hi : n < l.length := by rw [hlm]; exact hlt
              obtain ⟨e1, e2⟩ := HAll.out _ (List.getElem_mem hi)
              have HW := toHid (waits_any p q l n wr hbk HO.out)
              rw [lfAt_yes hi, e1] at HW
              have HBk := toHid hbk
              clear hbk hbe
              go_wp2_with fail
              refine Calls.mono HW.out ?_
              rintro e w2 ⟨⟨v, rfl, a2, c2, rfl, -, -, -⟩, hb2⟩
              have HBk2 := toHid (HBk.out.below hb2)
              have HLo := toHid (lost_any p q l n w2 HBk2.out)
              rw [lfAt_yes hi, e2] at HLo
              have HY := toHid (HBe.out.trans (hb2.mono hszr))
              clear hb2 HW
              go_wp2_with fail
              refine Calls.mono HLo.out ?_
              rintro e w3 ⟨rfl, hw⟩
              obtain rfl := hw.symm
              clear HLo hw
              go_wp2_with fail
              go_roundw
              case rel => exact ⟨n + 1, by omega, by simp, HBk2.out, HY.out⟩
              case measure => first | omega | (simp only [intOf]; omega)
            · obtain rfl : n = m := by omega
              have HL := toHid (lives_any wr)
              clear hbk hbe
              go_wp2_with fail
              refine Calls.mono HL.out ?_
              rintro e w3 ⟨rfl, hb3⟩
              have HB3 := toHid (HBe.out.trans (hb3.mono hszr))
              clear hb3 HL
              go_wp2
              go_ret
              exact ⟨rfl, HB3.out⟩
end Go.Proofs.Ytdlanenbbmnbhaa
