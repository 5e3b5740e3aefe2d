/-
  The walk of Merge.
-/
import Derived.Test.YtnejcjebepidcaaMf
namespace Go.Proofs.Ytnejcjebepidcaa
open Go.RowKit

/-- What Merge tells. -/
def Merged (w : World) (B : Nat) (logs : List (List Rc)) (v : Value) (e : Int) : Prop :=
  (logs.all risB = false ∧ e = 1 ∧ v = .slice none 0 0) ∨ (logs.all risB = true ∧ ¬ (logs.flatten.map Rc.lsn).Nodup ∧ e = 9 ∧ v = .slice none 0 0) ∨
  (logs.all risB = true ∧ e = 0 ∧ ∃ out, out.Perm logs.flatten ∧ risB out = true ∧ AllOk w B v out)

/-- Where the second loop stands. -/
structure L2 (logs : List (List Rc)) (w : World) (v s : Value) (k : Bool) (out cur : List Rc) (th : Nat → Value) (key : Nat → Int) (live : List Nat) (N : Nd) (tv : Value) (tops : List Nat) (sf : Nat → List Rc) (W : World) : Prop where
  all : AllOk W w.heap.size v out
  mg : Mg w w.heap.size th key live N tv tops sf W
  ms : MS logs out cur (live.flatMap sf)
  few : live.length + k.toNat ≤ logs.length
  head : (cur = [] ∧ live = [] ∧ k = false) ∨ (k = true ∧ ∃ kk, Lg w w.heap.size s kk cur)

theorem take_flat {l : List (List Rc)} {i : Nat} (h : i < l.length) : (l.take (i + 1)).flatten = (l.take i).flatten ++ l[i] := by
  rw [List.take_succ_eq_append_getElem h, List.flatten_append]
  simp

theorem lim_of {logs : List (List Rc)} (h : ∀ l, l ∈ logs → ∀ r, r ∈ l → Lim r) {r : Rc} (hr : r ∈ logs.flatten) : Lim r := by
  obtain ⟨l, hl, hrl⟩ := List.mem_flatten.1 hr
  exact h l hl r hrl
theorem recL_one (r : Rc) (p : Pl) : ∀ u ∈ recL r p, u.oneCell' = true := by
  intro u hu
  simp [recL] at hu
  rcases hu with rfl | rfl | rfl | rfl | rfl | rfl | rfl | rfl | rfl | rfl | rfl | rfl <;> rfl
theorem news_rec (w : World) (r : Rc) (p : Pl) : ∀ j u, (recL r p)[j]? = some u → (w.alloc (.cells (recC r p) 46)).cell? ((⟨w.heap.size, 0, none⟩ : Addr).add j) = some u := by
  intro j u hu
  rw [add_plain]
  unfold World.cell?
  simp only [heap_alloc_new]
  simpa [recL] using hu
theorem last_cell {w : World} {B c : Nat} {va : Option Addr} {out : List Rc} (h : AllOk w B (.slice va out.length c) out) {x : Rc} (hx : out.getLast? = some x) : ∃ g p, va = some ⟨g, 0, none⟩ ∧ At12 w g ((out.length - 1) * 12) x p := by
  obtain ⟨qs, rfl, h2, h3⟩ := h
  have hq : ∃ q, qs.getLast? = some q ∧ q.1 = x := by
    rw [List.getLast?_map] at hx
    obtain ⟨q, h1, h2⟩ := Option.map_eq_some_iff.1 hx
    exact ⟨q, h1, h2⟩
  obtain ⟨q, hq, rfl⟩ := hq
  rw [List.getLast?_eq_getElem?] at hq
  rcases own_addr h2 with ⟨rfl, e, _⟩ | ⟨g, cur, rfl, _⟩
  · have : qs = [] := by simpa using e
    subst this
    simp at hq
  · refine ⟨g, q.2, rfl, ?_⟩
    have := own_at12 h2 hq
    simpa using this
/-- What an append to the records leaves. -/
theorem kept_row {w w3 y : World} {W : World} {v : Value} {out : List Rc} {o : Obj} (ha : AllOk W w.heap.size v out) (hb : Below W.heap.size W w3) (hg : (w3.alloc o).grownBy y v.ownBlock) :
    ∀ (k : Nat) (c : Array Value) (t : Nat), (t = 101 ∨ t = 108 ∨ t = 103 ∨ t = 65 ∨ t = 67) ∧ w3.heap[k]? = some (Obj.cells c t) → y.heap[k]? = w3.heap[k]? := by
  rintro k c t ⟨ht, hc⟩
  have hlt := (Array.getElem?_eq_some_iff.1 hc).1
  obtain ⟨qs, _, h2, _⟩ := ha.below hb
  rw [hg.block k (by simp; omega) (fun e => ?_), heap_alloc_old _ _ hlt]
  obtain ⟨c', fz, hc'⟩ := Lib.ownsRow_kind h2 k e.symm
  rw [hc] at hc'
  injection hc' with hc'
  injection hc' with _ hc'
  subst hc'
  omega
theorem low_row {w w3 y : World} {W : World} {v : Value} {out : List Rc} {o : Obj} (ha : AllOk W w.heap.size v out) (hb : Below W.heap.size W w3) (hg : (w3.alloc o).grownBy y v.ownBlock) (hw : w.heap.size ≤ W.heap.size) : Below w.heap.size w3 y := by
  obtain ⟨qs, _, h2, _⟩ := ha
  have := hb.size
  exact ((Below.refl w.heap.size w3).alloc (by omega) o).grown hg (by simp; omega) (fun k hk => (h2.lt k hk).1)
set_option maxRecDepth 100000 in
set_option maxHeartbeats 8000000 in
theorem merge17 (a : Option Addr) (c : Nat) (logs : List (List Rc)) (w : World) (hL : SlL w a logs) (hn : logs.length ≤ 1000) (hf : logs.flatten.length ≤ 100000) (hlim : ∀ l, l ∈ logs → ∀ r, r ∈ l → Lim r) :
    Calls Try.prog 17 #[.slice a logs.length c] w fun e w' => ∃ v er, e = .returned (.tuple #[v, .int .i64 er]) ∧ Merged w' w.heap.size logs v er ∧ Below w.heap.size w w' := by
  obtain ⟨i0, hi0, hz0, hz1, hz2⟩ := info_parts Try.info46
  have HL := toHid hL
  have HLim := toHid hlim
  have HH0 := toHid (⟨HeapR.new w.heap.size (fun _ => .slice none 0 0) (fun _ => 0) w (Nat.le_refl _), fun b hb => by simp at hb, (Below.refl _ _).alloc (Nat.le_refl _) _⟩ : Mg w w.heap.size (fun _ => .slice none 0 0) (fun _ => 0) [] ⟨fun _ => .slice none 0 0, fun _ => []⟩ (.slice none 0 0) [] (fun _ => []) (w.alloc (.cells #[.func (.func 36) #[] #[], .slice none 0 0, .int .i64 0] 101)))
  clear hL hlim
  go_enter Try.func17, Try.ntmps17
  go_wp2_with fail
  refine Calls.mono (newR w) ?_
  rintro e w1 ⟨rfl, hw⟩
  obtain rfl := hw.symm
  go_wp2_with fail
  go_loopw [13] (fun k W => ∃ (i : Nat) (th : Nat → Value) (key : Nat → Int) (live : List Nat) (N : Nd) (tv : Value) (tops : List Nat) (sf : Nat → List Rc), i ≤ logs.length ∧ k = .int .i64 i ∧ Mg w w.heap.size th key live N tv tops sf W ∧ (live.flatMap sf).Perm (logs.take i).flatten ∧ live.length ≤ i ∧ ∀ j, (hj : j < logs.length) → j < i → risB logs[j] = true) (fun k _ => logs.length - (intOf k).toNat)
  case atStart => exact ⟨0, _, _, [], _, _, [], _, Nat.zero_le _, rfl, HH0.out, by simp, Nat.le_refl _, fun j _ hj => by omega⟩
  case round =>
    obtain ⟨i, th, key, live, N, tv, tops, sf, hi, rfl, hM, hP, hlv, hR⟩ := hrel
    have HM := toHid hM
    have HP := toHid hP
    have HR := toHid hR
    clear hM hP hR HH0
    by_cases hlt : i < logs.length
    · obtain ⟨b, o, la, lc, rfl, c0, hs, hcap⟩ := HL.out.get i hlt
      have hbl := World.block_lt_of_cell? _ _ c0
      rw [← HM.out.low.cell (p := ⟨b, o + i, none⟩) hbl] at c0
      have hlen := len_flat hlt
      have hi1 : (i : Int) < (logs.length : Int) := by omega
      have HS := toHid hs
      have HCap := toHid hcap
      have HRi := toHid (rises12 la lc logs[i] wr (hs.below HM.out.low) (by omega))
      clear hs hcap
      go_wp2_with fail
      refine Calls.mono HRi.out ?_
      rintro e w2 ⟨rfl, n, rfl⟩
      clear HRi
      cases hri : risB logs[i]
      · have HA := toHid (show logs.all risB = false from by
          cases e : logs.all risB
          · rfl
          · have := List.all_eq_true.1 e logs[i] (List.getElem_mem hlt)
            rw [hri] at this
            simp at this)
        clear hri
        go_wp2
        go_ret2
        exact ⟨_, _, rfl, .inl ⟨HA.out, rfl, rfl⟩, HM.out.low.trans (below_drewN _ _ _)⟩
      · have HPu := toHid (pushLog37 w w.heap.size th key live N tv tops sf (wr.drewN n) (HM.out.below (below_drewN _ _ _)) la lc logs[i] HS.out HCap.out hri (by omega))
        have HRi := toHid hri
        clear hri
        go_wp2_with fail
        refine Calls.mono HPu.out ?_
        rintro e w3 ⟨rfl, th', key', live', N', tv', tops', sf', hM', hP', hl', -⟩
        have HM' := toHid hM'
        have HP' := toHid hP'
        clear hM' hP' HPu
        go_wp2_with fail
        go_roundw
        case rel =>
          refine ⟨i + 1, th', key', live', N', tv', tops', sf', by omega, by go_num, HM'.out, ?_, by omega, fun j hj hji => ?_⟩
          · rw [take_flat hlt]
            exact HP'.out.trans ((HP.out.append_left _).trans List.perm_append_comm)
          · by_cases e : j = i
            · subst e; exact HRi.out
            · exact HR.out j hj (by omega)
        case measure => simp [intOf]; omega
    · obtain rfl : i = logs.length := by omega
      have HAll := toHid (show logs.all risB = true from List.all_eq_true.2 (fun l hl => by
        obtain ⟨j, hj, rfl⟩ := List.getElem_of_mem hl
        exact HR.out j hj hj))
      have HPo := toHid (popLog logs w w.heap.size th key live N tv tops sf wr HM.out [] (by have := HP.out; rw [List.take_length] at this; simpa using this) rfl (fun x hx => by simp at hx))
      clear HP HR
      go_wp2_with fail
      refine Calls.mono HPo.out ?_
      rintro e w2 ⟨s, k, cur, live', N', tv', tops', rfl, hM2, hS2, hl2, hh2, hv2⟩
      have H20 := toHid (⟨AllOk.nil _ _, hM2, hS2, by omega, hh2⟩ : L2 logs w (.slice none 0 0) s k [] cur th key live' N' tv' tops' sf w2)
      clear hM2 hS2 hl2 hh2 hv2 HPo HM hlv
      go_wp2_with fail
      go_loopw [7, 8, 9] (fun q s k W => ∃ (v t : Value) (kb : Bool) (out cur : List Rc) (th : Nat → Value) (key : Nat → Int) (live : List Nat) (N : Nd) (tv : Value) (tops : List Nat) (sf : Nat → List Rc), q = v ∧ s = t ∧ k = .bool kb ∧ L2 logs w v t kb out cur th key live N tv tops sf W) (fun q _ k _ => 100001 - lenV q)
      case atStart => exact ⟨_, _, _, [], cur, th, key, live', N', tv', tops', sf, rfl, rfl, rfl, H20.out⟩
      case round =>
        obtain ⟨v, t, kb, out, cur, th, key, live, N, tv, tops, sf, hq, hs, rfl, h2⟩ := hrel
        obtain rfl := hq.symm
        obtain rfl := hs.symm
        have H2 := toHid h2
        have hlv := Nat.le_trans (Nat.le_add_right _ _) h2.few
        have hlw := h2.few
        have hof : out.length ≤ 100000 := by have := h2.ms.perm.length_eq; rw [List.length_append] at this; omega
        clear h2 H20
        cases kb
        · have hcl : cur = [] ∧ live = [] := by
            rcases H2.out.head with ⟨e1, e2, _⟩ | ⟨e, _⟩
            · exact ⟨e1, e2⟩
            · simp at e
          obtain ⟨rfl, rfl⟩ := hcl
          go_wp2
          go_ret2
          exact ⟨_, _, rfl, .inr (.inr ⟨HAll.out, rfl, out, by simpa using H2.out.ms.perm, H2.out.ms.ris, H2.out.all⟩), H2.out.mg.low⟩
        · simp only [Bool.toNat_true] at hlw
          obtain ⟨kk, hlg⟩ : ∃ kk, Lg w w.heap.size t kk cur := by
            rcases H2.out.head with ⟨_, _, e⟩ | ⟨_, h⟩
            · simp at e
            · exact h
          obtain ⟨blk, o1, c1, r, s1, rfl, rfl, hcap, hblk, hsl, -, -⟩ := hlg
          obtain ⟨pl, h12, hri⟩ := (hsl.below H2.out.mg.low).get 0 (by simp)
          simp only [List.getElem_cons_zero, Nat.zero_mul, Nat.add_zero] at h12 hri
          have HA12 := toHid h12
          have HRI := toHid hri
          have HSl := toHid hsl
          have HLr := toHid (lim_of HLim.out (H2.out.ms.perm.mem_iff.1 (by simp : r ∈ _)))
          have hlt1 : out.length < 100000 := by have := H2.out.ms.perm.length_eq; rw [List.length_append, List.cons_append, List.length_cons] at this; omega
          obtain ⟨va, vc, rfl⟩ := H2.out.all.shape
          have e0 : (0 : Int) < (s1.length : Int) + 1 := by omega
          have l1 := h12.2.1
          clear h12 hri hsl
          rcases hout : out.getLast? with _ | x
          · have HTw := toHid (show ∀ x, out.getLast? = some x → x.lsn ≠ r.lsn from fun x hx => by rw [hout] at hx; simp at hx)
            have ho0 : out.length = 0 := by rw [List.getLast?_eq_none_iff.1 hout]; rfl
            have g1 : ¬ (0 : Int) < (out.length : Int) := by omega
            have g2 : ¬ 0 < out.length := by omega
            have g3 : decide ((0 : Int) < (out.length : Int)) = false := decide_eq_false g1
            have HFL := toHid hout
            clear hout ho0
            go_wp2_with fail
            go_quiet (fail)
            clear HFL
            obtain ⟨W2, hW2⟩ : ∃ W2, W2 = wr.drewN nq := ⟨_, rfl⟩
            have HBW := toHid (show Below wr.heap.size wr W2 from hW2 ▸ below_drewN _ _ _)
            rw [← hW2]
            clear hW2
            have hA12 := HA12.out.stay (w' := W2) (HBW.out.block _ HA12.out.lt)
            obtain ⟨d0, d1, d2, d3, d4, d5, d6, d7, d8, d9, d10, d11⟩ := hA12
            have HCo := toHid (copied34 r pl W2 (HRI.out.below HBW.out) HLr.out)
            have hsz1 := HBW.out.size
            have hwz := H2.out.mg.low.size
            go_wp2_with fail
            refine Calls.mono HCo.out ?_
            rintro e w3 ⟨pp, rfl, hO3, hb3⟩
            have HB3 := toHid (HBW.out.trans (hb3.mono HBW.out.size))
            have hsz3 := hb3.size
            have HO3 := toHid (hO3.low (show w.heap.size ≤ W2.heap.size by omega))
            clear hO3 hb3 HCo d0 d1 d2 d3 d4 d5 d6 d7 d8 d9 d10 d11
            obtain ⟨qs, hq1, hq2, hq3⟩ := H2.out.all.below HB3.out
            have HQ1 := toHid hq1
            have HQ3 := toHid hq3
            have HRo := toHid (World.ownsRow.alloc hq2 (.cells (recC r pp) 46))
            have HNw := toHid (news_rec w3 r pp)
            clear hq1 hq2 hq3
            by_cases hc1 : c1 = 1
            · have hs0 : s1 = [] := List.eq_nil_of_length_eq_zero (by omega)
              subst hc1 hs0
              go_wp2_with (at_builtin; go_must (refine wpList_append_fresh _ rfl _ _ 26 rfl w.heap.size 46 i0 _ 12 152 Try.underlying26 hi0 hz0 hz1 hz2 rfl (by decide) _ out.length _ rfl HRo.out ⟨w3.heap.size, 0, none⟩ 1 1 (recL r pp) rfl rfl HNw.out (recL_one r pp) (by unfold maxLen; omega) (by omega) (by simp; omega) ?_; intro v5 y1 hown hgrow hfr; obtain ⟨a5, c5, rfl⟩ := ownsRow_shape hown; have HOW := toHid hown; have HGW := toHid hgrow; clear hown hgrow hfr))
              have HY := toHid (kept_row H2.out.all HB3.out (o := .cells (recC r pp) 46) HGW.out)
              have HAl := toHid (AllOk.add (r := r) (p := pp) ⟨qs, HQ1.out, HOW.out, fun q hq => (HQ3.out q hq).stay (fun k c hc => by rcases hc with hc | hc; exact HY.out k c 65 ⟨.inr (.inr (.inr (.inl rfl))), hc⟩; exact HY.out k c 67 ⟨.inr (.inr (.inr (.inr rfl))), hc⟩)⟩ (HO3.out.stay (fun k c hc => by rcases hc with hc | hc; exact HY.out k c 65 ⟨.inr (.inr (.inr (.inl rfl))), hc⟩; exact HY.out k c 67 ⟨.inr (.inr (.inr (.inr rfl))), hc⟩)))
              have HMy := toHid ((H2.out.mg.below HB3.out).stay (W' := y1) (fun k c t ht hc => HY.out k c t ⟨by omega, hc⟩) (low_row H2.out.all HB3.out HGW.out hwz))
              have HSt := toHid (MS.step H2.out.ms HTw.out)
              clear HNw HRo HQ1 HQ3 HOW HGW HY HO3 HBW
              have HPu := toHid (pushLog37 w w.heap.size th key live N tv tops sf y1 HMy.out (some ⟨blk, o1, none⟩) 0 [] (SlR.nil _ _ (fun y hy => by simp at hy; subst hy; rfl)) (Nat.le_refl _) rfl (by omega))
              simp only [List.length_nil] at HPu ⊢
              go_wp2_with fail
              refine Calls.mono HPu.out ?_
              rintro e w6 ⟨rfl, th', key', live', N', tv', tops', sf', hM', hP', hl', hV'⟩
              have HA6 := toHid (HAl.out.moved HMy.out.heap hV')
              have HPo := toHid (popLog logs w w.heap.size th' key' live' N' tv' tops' sf' w6 hM' (out ++ [r]) ((hP'.append_left _).trans HSt.out.1) HSt.out.2.1 (fun x hx y hy => HSt.out.2.2.2 x hx y (hP'.mem_iff.1 hy)))
              have HM6 := toHid hM'
              clear hM' hP' hV' HPu
              go_wp2_with fail
              refine Calls.mono HPo.out ?_
              rintro e w7 ⟨t7, k7, cur7, live7, N7, tv7, tops7, rfl, hM7, hS7, hl7, hh7, hv7⟩
              have HF := toHid (⟨HA6.out.moved HM6.out.heap hv7, hM7, hS7, Nat.le_trans hl7 (by omega), hh7⟩ : L2 logs w (.slice a5 (out.length + 1) c5) t7 k7 (out ++ [r]) cur7 th' key' live7 N7 tv7 tops7 sf' w7)
              clear hM7 hS7 hh7 hv7 HPo
              go_wp2_with fail
              go_roundw
              case rel => exact ⟨_, _, _, _, _, _, _, _, _, _, _, _, rfl, rfl, rfl, HF.out⟩
              case measure => simp only [lenV]; omega
            · have hc3 : ¬ c1 - 1 = 0 := by omega
              have hc4 : ¬ c1 ≤ 1 := by omega
              have hc5 : (1 : Int) ≤ (s1.length : Int) + 1 := by omega
              have hc6 : (1 : Int) ≤ (c1 : Int) := by omega
              have hc7 : (s1.length : Int) + 1 ≤ (c1 : Int) := by omega
              go_wp2_with (at_builtin; go_must (refine wpList_append_fresh _ rfl _ _ 26 rfl w.heap.size 46 i0 _ 12 152 Try.underlying26 hi0 hz0 hz1 hz2 rfl (by decide) _ out.length _ rfl HRo.out ⟨w3.heap.size, 0, none⟩ 1 1 (recL r pp) rfl rfl HNw.out (recL_one r pp) (by unfold maxLen; omega) (by omega) (by simp; omega) ?_; intro v5 y1 hown hgrow hfr; obtain ⟨a5, c5, rfl⟩ := ownsRow_shape hown; have HOW := toHid hown; have HGW := toHid hgrow; clear hown hgrow hfr))
              have HY := toHid (kept_row H2.out.all HB3.out (o := .cells (recC r pp) 46) HGW.out)
              have HAl := toHid (AllOk.add (r := r) (p := pp) ⟨qs, HQ1.out, HOW.out, fun q hq => (HQ3.out q hq).stay (fun k c hc => by rcases hc with hc | hc; exact HY.out k c 65 ⟨.inr (.inr (.inr (.inl rfl))), hc⟩; exact HY.out k c 67 ⟨.inr (.inr (.inr (.inr rfl))), hc⟩)⟩ (HO3.out.stay (fun k c hc => by rcases hc with hc | hc; exact HY.out k c 65 ⟨.inr (.inr (.inr (.inl rfl))), hc⟩; exact HY.out k c 67 ⟨.inr (.inr (.inr (.inr rfl))), hc⟩)))
              have HMy := toHid ((H2.out.mg.below HB3.out).stay (W' := y1) (fun k c t ht hc => HY.out k c t ⟨by omega, hc⟩) (low_row H2.out.all HB3.out HGW.out hwz))
              have HSt := toHid (MS.step H2.out.ms HTw.out)
              clear HNw HRo HQ1 HQ3 HOW HGW HY HO3 HBW
              have HPu := toHid (pushLog37 w w.heap.size th key live N tv tops sf y1 HMy.out (some ⟨blk, o1 + 12, none⟩) (c1 - 1) s1 HSl.out.tail (by omega) HSt.out.2.2.1 (by omega))
              go_wp2_with fail
              refine Calls.mono HPu.out ?_
              rintro e w6 ⟨rfl, th', key', live', N', tv', tops', sf', hM', hP', hl', hV'⟩
              have HA6 := toHid (HAl.out.moved HMy.out.heap hV')
              have HPo := toHid (popLog logs w w.heap.size th' key' live' N' tv' tops' sf' w6 hM' (out ++ [r]) ((hP'.append_left _).trans HSt.out.1) HSt.out.2.1 (fun x hx y hy => HSt.out.2.2.2 x hx y (hP'.mem_iff.1 hy)))
              have HM6 := toHid hM'
              clear hM' hP' hV' HPu
              go_wp2_with fail
              refine Calls.mono HPo.out ?_
              rintro e w7 ⟨t7, k7, cur7, live7, N7, tv7, tops7, rfl, hM7, hS7, hl7, hh7, hv7⟩
              have HF := toHid (⟨HA6.out.moved HM6.out.heap hv7, hM7, hS7, Nat.le_trans hl7 (by omega), hh7⟩ : L2 logs w (.slice a5 (out.length + 1) c5) t7 k7 (out ++ [r]) cur7 th' key' live7 N7 tv7 tops7 sf' w7)
              clear hM7 hS7 hh7 hv7 HPo
              go_wp2_with fail
              go_roundw
              case rel => exact ⟨_, _, _, _, _, _, _, _, _, _, _, _, rfl, rfl, rfl, HF.out⟩
              case measure => simp only [lenV]; omega
          · obtain ⟨g, p5, hva, hcl⟩ := last_cell H2.out.all hout
            subst hva
            have hop : 0 < out.length := by rcases out with _ | ⟨z, out⟩; simp at hout; simp
            have i1 : (0 : Int) < (out.length : Int) := by omega
            have i2 : 0 ≤ (out.length : Int) - 1 := by omega
            have i3 : (out.length : Int) - 1 < (out.length : Int) := by omega
            obtain ⟨on, hon⟩ : ∃ on, out.length = on + 1 := ⟨out.length - 1, by omega⟩
            by_cases hxe : x.lsn = r.lsn
            · have HT := toHid (MS.twice H2.out.ms hout rfl hxe)
              have b1 : ((x.lsn : Int) == (r.lsn : Int)) = true := by simp [hxe]
              have b2 : (x.lsn == r.lsn) = true := by simp [hxe]
              have l2 := hcl.2.1
              clear hcl hxe hon hout
              go_wp2_with fail
              go_quiet (fail)
              go_wp2
              go_ret2
              exact ⟨_, _, rfl, .inr (.inl ⟨HAll.out, HT.out, rfl, rfl⟩), H2.out.mg.low.trans (below_drewN _ _ _)⟩
            · have HTw := toHid (show ∀ y, out.getLast? = some y → y.lsn ≠ r.lsn from fun y hy => by rw [hout] at hy; injection hy with hy; subst hy; exact hxe)
              have b1 : ((x.lsn : Int) == (r.lsn : Int)) = false := by simp; omega
              have b2 : (x.lsn == r.lsn) = false := by simp [hxe]
              have l2 := hcl.2.1
              have HFL := toHid hout
              clear hcl hxe hon hout
              go_wp2_with fail
              go_quiet (fail)
              clear l2 b1 b2
              clear HFL
              obtain ⟨W2, hW2⟩ : ∃ W2, W2 = wr.drewN nq := ⟨_, rfl⟩
              have HBW := toHid (show Below wr.heap.size wr W2 from hW2 ▸ below_drewN _ _ _)
              rw [← hW2]
              clear hW2
              have hA12 := HA12.out.stay (w' := W2) (HBW.out.block _ HA12.out.lt)
              obtain ⟨d0, d1, d2, d3, d4, d5, d6, d7, d8, d9, d10, d11⟩ := hA12
              have HCo := toHid (copied34 r pl W2 (HRI.out.below HBW.out) HLr.out)
              have hsz1 := HBW.out.size
              have hwz := H2.out.mg.low.size
              go_wp2_with fail
              refine Calls.mono HCo.out ?_
              rintro e w3 ⟨pp, rfl, hO3, hb3⟩
              have HB3 := toHid (HBW.out.trans (hb3.mono HBW.out.size))
              have hsz3 := hb3.size
              have HO3 := toHid (hO3.low (show w.heap.size ≤ W2.heap.size by omega))
              clear hO3 hb3 HCo d0 d1 d2 d3 d4 d5 d6 d7 d8 d9 d10 d11
              obtain ⟨qs, hq1, hq2, hq3⟩ := H2.out.all.below HB3.out
              have HQ1 := toHid hq1
              have HQ3 := toHid hq3
              have HRo := toHid (World.ownsRow.alloc hq2 (.cells (recC r pp) 46))
              have HNw := toHid (news_rec w3 r pp)
              clear hq1 hq2 hq3
              by_cases hc1 : c1 = 1
              · have hs0 : s1 = [] := List.eq_nil_of_length_eq_zero (by omega)
                subst hc1 hs0
                go_wp2_with (at_builtin; go_must (refine wpList_append_fresh _ rfl _ _ 26 rfl w.heap.size 46 i0 _ 12 152 Try.underlying26 hi0 hz0 hz1 hz2 rfl (by decide) _ out.length _ rfl HRo.out ⟨w3.heap.size, 0, none⟩ 1 1 (recL r pp) rfl rfl HNw.out (recL_one r pp) (by unfold maxLen; omega) (by omega) (by simp; omega) ?_; intro v5 y1 hown hgrow hfr; obtain ⟨a5, c5, rfl⟩ := ownsRow_shape hown; have HOW := toHid hown; have HGW := toHid hgrow; clear hown hgrow hfr))
                have HY := toHid (kept_row H2.out.all HB3.out (o := .cells (recC r pp) 46) HGW.out)
                have HAl := toHid (AllOk.add (r := r) (p := pp) ⟨qs, HQ1.out, HOW.out, fun q hq => (HQ3.out q hq).stay (fun k c hc => by rcases hc with hc | hc; exact HY.out k c 65 ⟨.inr (.inr (.inr (.inl rfl))), hc⟩; exact HY.out k c 67 ⟨.inr (.inr (.inr (.inr rfl))), hc⟩)⟩ (HO3.out.stay (fun k c hc => by rcases hc with hc | hc; exact HY.out k c 65 ⟨.inr (.inr (.inr (.inl rfl))), hc⟩; exact HY.out k c 67 ⟨.inr (.inr (.inr (.inr rfl))), hc⟩)))
                have HMy := toHid ((H2.out.mg.below HB3.out).stay (W' := y1) (fun k c t ht hc => HY.out k c t ⟨by omega, hc⟩) (low_row H2.out.all HB3.out HGW.out hwz))
                have HSt := toHid (MS.step H2.out.ms HTw.out)
                clear HNw HRo HQ1 HQ3 HOW HGW HY HO3 HBW
                have HPu := toHid (pushLog37 w w.heap.size th key live N tv tops sf y1 HMy.out (some ⟨blk, o1, none⟩) 0 [] (SlR.nil _ _ (fun y hy => by simp at hy; subst hy; rfl)) (Nat.le_refl _) rfl (by omega))
                simp only [List.length_nil] at HPu ⊢
                go_wp2_with fail
                refine Calls.mono HPu.out ?_
                rintro e w6 ⟨rfl, th', key', live', N', tv', tops', sf', hM', hP', hl', hV'⟩
                have HA6 := toHid (HAl.out.moved HMy.out.heap hV')
                have HPo := toHid (popLog logs w w.heap.size th' key' live' N' tv' tops' sf' w6 hM' (out ++ [r]) ((hP'.append_left _).trans HSt.out.1) HSt.out.2.1 (fun x hx y hy => HSt.out.2.2.2 x hx y (hP'.mem_iff.1 hy)))
                have HM6 := toHid hM'
                clear hM' hP' hV' HPu
                go_wp2_with fail
                refine Calls.mono HPo.out ?_
                rintro e w7 ⟨t7, k7, cur7, live7, N7, tv7, tops7, rfl, hM7, hS7, hl7, hh7, hv7⟩
                have HF := toHid (⟨HA6.out.moved HM6.out.heap hv7, hM7, hS7, Nat.le_trans hl7 (by omega), hh7⟩ : L2 logs w (.slice a5 (out.length + 1) c5) t7 k7 (out ++ [r]) cur7 th' key' live7 N7 tv7 tops7 sf' w7)
                clear hM7 hS7 hh7 hv7 HPo
                go_wp2_with fail
                go_roundw
                case rel => exact ⟨_, _, _, _, _, _, _, _, _, _, _, _, rfl, rfl, rfl, HF.out⟩
                case measure => simp only [lenV]; omega
              · have hc3 : ¬ c1 - 1 = 0 := by omega
                have hc4 : ¬ c1 ≤ 1 := by omega
                have hc5 : (1 : Int) ≤ (s1.length : Int) + 1 := by omega
                have hc6 : (1 : Int) ≤ (c1 : Int) := by omega
                have hc7 : (s1.length : Int) + 1 ≤ (c1 : Int) := by omega
                go_wp2_with (at_builtin; go_must (refine wpList_append_fresh _ rfl _ _ 26 rfl w.heap.size 46 i0 _ 12 152 Try.underlying26 hi0 hz0 hz1 hz2 rfl (by decide) _ out.length _ rfl HRo.out ⟨w3.heap.size, 0, none⟩ 1 1 (recL r pp) rfl rfl HNw.out (recL_one r pp) (by unfold maxLen; omega) (by omega) (by simp; omega) ?_; intro v5 y1 hown hgrow hfr; obtain ⟨a5, c5, rfl⟩ := ownsRow_shape hown; have HOW := toHid hown; have HGW := toHid hgrow; clear hown hgrow hfr))
                have HY := toHid (kept_row H2.out.all HB3.out (o := .cells (recC r pp) 46) HGW.out)
                have HAl := toHid (AllOk.add (r := r) (p := pp) ⟨qs, HQ1.out, HOW.out, fun q hq => (HQ3.out q hq).stay (fun k c hc => by rcases hc with hc | hc; exact HY.out k c 65 ⟨.inr (.inr (.inr (.inl rfl))), hc⟩; exact HY.out k c 67 ⟨.inr (.inr (.inr (.inr rfl))), hc⟩)⟩ (HO3.out.stay (fun k c hc => by rcases hc with hc | hc; exact HY.out k c 65 ⟨.inr (.inr (.inr (.inl rfl))), hc⟩; exact HY.out k c 67 ⟨.inr (.inr (.inr (.inr rfl))), hc⟩)))
                have HMy := toHid ((H2.out.mg.below HB3.out).stay (W' := y1) (fun k c t ht hc => HY.out k c t ⟨by omega, hc⟩) (low_row H2.out.all HB3.out HGW.out hwz))
                have HSt := toHid (MS.step H2.out.ms HTw.out)
                clear HNw HRo HQ1 HQ3 HOW HGW HY HO3 HBW
                have HPu := toHid (pushLog37 w w.heap.size th key live N tv tops sf y1 HMy.out (some ⟨blk, o1 + 12, none⟩) (c1 - 1) s1 HSl.out.tail (by omega) HSt.out.2.2.1 (by omega))
                go_wp2_with fail
                refine Calls.mono HPu.out ?_
                rintro e w6 ⟨rfl, th', key', live', N', tv', tops', sf', hM', hP', hl', hV'⟩
                have HA6 := toHid (HAl.out.moved HMy.out.heap hV')
                have HPo := toHid (popLog logs w w.heap.size th' key' live' N' tv' tops' sf' w6 hM' (out ++ [r]) ((hP'.append_left _).trans HSt.out.1) HSt.out.2.1 (fun x hx y hy => HSt.out.2.2.2 x hx y (hP'.mem_iff.1 hy)))
                have HM6 := toHid hM'
                clear hM' hP' hV' HPu
                go_wp2_with fail
                refine Calls.mono HPo.out ?_
                rintro e w7 ⟨t7, k7, cur7, live7, N7, tv7, tops7, rfl, hM7, hS7, hl7, hh7, hv7⟩
                have HF := toHid (⟨HA6.out.moved HM6.out.heap hv7, hM7, hS7, Nat.le_trans hl7 (by omega), hh7⟩ : L2 logs w (.slice a5 (out.length + 1) c5) t7 k7 (out ++ [r]) cur7 th' key' live7 N7 tv7 tops7 sf' w7)
                clear hM7 hS7 hh7 hv7 HPo
                go_wp2_with fail
                go_roundw
                case rel => exact ⟨_, _, _, _, _, _, _, _, _, _, _, _, rfl, rfl, rfl, HF.out⟩
                case measure => simp only [lenV]; omega

end Go.Proofs.Ytnejcjebepidcaa
