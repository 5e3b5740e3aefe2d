/-
  meet of two that stand on top; pairs.
-/
import Derived.Test.YtnejcjebepidcaaHRc
import Derived.Deep.RegionHeld3
namespace Go.Proofs.Ytnejcjebepidcaa
open Go.RowKit

theorem meetTopR (B h : Nat) (th : Nat → Value) (key : Nat → Int) (live : List Nat) (N : Nd) (x y : Nat) (l : List Nat) (tv sz : Value) (w : World) (hN : NdOk 108 103 B th w live N) (hd : live.Nodup) (hP : PermOk live N (x :: y :: l)) (hO : OrdOk live key N)
    (hh : w.heap[h]? = some (.cells #[.func (.func 36) #[] #[], tv, sz] 101)) (hk : ∀ x, x ∈ live → RdR B w (th x) (key x)) (hf : live.length ≤ 500000) (hB : B ≤ w.heap.size) :
    Calls Try.prog 55 #[.pointer (some ⟨h, 0, none⟩), .pointer (some ⟨x, 0, none⟩), .pointer (some ⟨y, 0, none⟩)] w fun e w' =>
      ∃ (N' : Nd) (pa : Nat) (pb : Option Nat), e = .returned (.tuple #[.pointer (some ⟨pa, 0, none⟩), .pointer (pb.map fun x => ⟨x, 0, none⟩)]) ∧ NdOk 108 103 B th w' live N' ∧ Turn live N N' w w' ∧ PermOk live N' (pa :: (pb.toList ++ l)) ∧ OrdOk live key N' ∧
        key pa ≤ key x ∧ key pa ≤ key y ∧ (∀ z, pb = some z → key pa ≤ key z) := by
  have hx := hP.mem (a := x) (by simp)
  have hy := hP.mem (a := y) (by simp)
  refine (meetR B h th key live N x y tv sz w hN hx hy hh hk (by have := kids_few hP hx; omega) (by have := kids_few hP hy; omega) hB).mono ?_
  rintro e w' (⟨hlt, rfl, v, h1, h2⟩ | ⟨hlt, rfl, v, h1, h2⟩ | ⟨heq, rfl, h1, h2⟩)
  · exact ⟨_, x, none, rfl, h1, h2, hP.add hd v, hO.add hlt v, Int.le_refl _, by omega, fun z hz => by simp at hz⟩
  · exact ⟨_, y, none, rfl, h1, h2, (hP.of (List.Perm.swap _ _ _)).add hd v, hO.add hlt v, by omega, Int.le_refl _, fun z hz => by simp at hz⟩
  · exact ⟨N, x, some y, rfl, h1, h2, hP, hO, Int.le_refl _, by omega, fun z hz => by simp at hz; subst hz; omega⟩

theorem news_two (w : World) (m : List (Option Nat)) (p q : Option Nat) (t : Nat) (hm : m = [p, q]) : ∀ j (hj : j < m.length), (w.alloc (.cells #[.pointer (p.map fun x => ⟨x, 0, none⟩), .pointer (q.map fun x => ⟨x, 0, none⟩)] t)).cell? ⟨w.heap.size, 0 + j, none⟩ = some (.pointer (m[j].map fun x => ⟨x, 0, none⟩)) := by
  subst hm
  intro j hj
  have hc : j = 0 ∨ j = 1 := by simp at hj; omega
  rcases hc with rfl | rfl <;> (unfold World.cell?; simp only [heap_alloc_new]; rfl)

/-- Where pairs stands. -/
structure PairsR (B g c : Nat) (th : Nat → Value) (key : Nat → Int) (live : List Nat) (N : Nd) (tops : List Nat) (w : World) (i o n c' : Nat) (R L : List Nat) (N1 : Nd) (u : Value) (W : World) : Prop where
  rest : tops.drop i = R
  len : n = R.length
  cap : n ≤ c'
  off : R ≠ [] → o = i
  own : W.ownsRow B 103 1 u L.length (ptrs L)
  apart : Apart live N1 u
  new : ∀ k, u.ownBlock = some k → w.heap.size ≤ k
  nodes : NdOk 108 103 B th W live N1
  turn : Turn live N N1 w W
  perm : PermOk live N1 (L ++ R)
  ord : OrdOk live key N1
  some : L ++ R ≠ []

set_option maxRecDepth 100000 in
set_option maxHeartbeats 4000000 in
set_option linter.unusedSimpArgs false in
theorem pairsR (B h g c : Nat) (th : Nat → Value) (key : Nat → Int) (live : List Nat) (N : Nd) (tops : List Nat) (tv sz : Value) (w : World) (hN : NdOk 108 103 B th w live N) (hd : live.Nodup) (hP : PermOk live N tops) (hO : OrdOk live key N)
    (hh : w.heap[h]? = some (.cells #[.func (.func 36) #[] #[], tv, sz] 101)) (hk : ∀ x, x ∈ live → RdR B w (th x) (key x)) (hf : live.length ≤ 500000) (hB : B ≤ w.heap.size) (hne : tops ≠ [])
    (hr : w.ownsRow B 103 1 (.slice (some ⟨g, 0, none⟩) tops.length c) tops.length (ptrs tops)) (ha : Apart live N (.slice (some ⟨g, 0, none⟩) tops.length c)) :
    Calls Try.prog 48 #[.pointer (some ⟨h, 0, none⟩), .slice (some ⟨g, 0, none⟩) tops.length c] w fun e w' =>
      ∃ (v : Value) (N' : Nd) (l : List Nat), e = .returned v ∧ w'.ownsRow B 103 1 v l.length (ptrs l) ∧ Apart live N' v ∧ (∀ k, v.ownBlock = some k → w.heap.size ≤ k) ∧ NdOk 108 103 B th w' live N' ∧ Turn live N N' w w' ∧ PermOk live N' l ∧ OrdOk live key N' ∧ l ≠ [] := by
  have hcap : tops.length ≤ c := by
    rcases hr.2 with ⟨e, _⟩ | ⟨g', cap', cur, e, _, _, h1, _⟩
    · simp at e
    · simp at e; omega
  have hgl : g < w.heap.size := (hr.lt g rfl).2
  have HP0 := toHid (⟨by simp, by simp, hcap, fun _ => rfl, World.ownsRow_nil _ _ _ _, Apart.nil _ _, fun k hk => by simp [Value.ownBlock] at hk, hN, Turn.refl _ _ _, by simpa using hP, hO, by simpa using hne⟩ : PairsR B g c th key live N tops w 0 0 tops.length c tops [] N (.slice none 0 0) w)
  have HRow := toHid (fun (W : World) (N1 : Nd) (hT : Turn live N N1 w W) => (hT.row hN (by decide) hr ha))
  have HHp := toHid (fun (W : World) (N1 : Nd) (hT : Turn live N N1 w W) => hT.other hN hh (by decide) (by decide))
  have HKy := toHid (fun (W : World) (N1 : Nd) (hT : Turn live N N1 w W) x hx => (hk x hx).low (hT.low hN hB))
  have HD := toHid hd
  have htf : tops.length ≤ 500000 := Nat.le_trans hP.few hf
  clear hN hP hO hh hk hr ha hd hcap
  go_enter Try.func48, Try.ntmps48
  go_wp2_with fail
  go_loopw [1, 5] (fun s q W => ∃ (i o n c' : Nat) (R L : List Nat) (N1 : Nd) (u : Value), s = .slice (some ⟨g, o, none⟩) n c' ∧ q = u ∧ PairsR B g c th key live N tops w i o n c' R L N1 u W) (fun s _ _ => lenV s)
  case atStart => exact ⟨0, 0, _, _, tops, [], N, _, rfl, rfl, HP0.out⟩
  case round =>
    obtain ⟨i, o, n, c', R, L, N1, u, rfl, hqu, hp⟩ := hrel
    obtain rfl := hqu.symm
    have HP := toHid hp
    clear hp HP0
    have hBw : B ≤ wr.heap.size := Nat.le_trans hB HP.out.turn.size
    have hcc := HP.out.cap
    have hLf : L.length ≤ 500000 := by have := HP.out.perm.few; simp at this; omega
    by_cases h2 : 1 < n
    · obtain ⟨x, y, r, rfl⟩ : ∃ x y r, R = x :: y :: r := by
        have := HP.out.len
        match R, this with
        | [], e => simp at e; omega
        | [_], e => simp at e; omega
        | x :: y :: r, _ => exact ⟨x, y, r, rfl⟩
      obtain rfl : o = i := HP.out.off (by simp)
      obtain ⟨d0, d1, d2⟩ := drop_two HP.out.rest
      have hrw := (HRow.out wr N1 HP.out.turn).1
      have q0 := row_cell hrw d0
      have q1 := row_cell hrw d1
      have HD2 := toHid d2
      have HRW := toHid (fun (W : World) (N2 : Nd) (hT : Turn live N N2 w W) => (⟨row_cell (HRow.out W N2 hT).1 d0, row_cell (HRow.out W N2 hT).1 d1⟩ : W.cell? ⟨g, o, none⟩ = some (.pointer (some ⟨x, 0, none⟩)) ∧ W.cell? ⟨g, o + 1, none⟩ = some (.pointer (some ⟨y, 0, none⟩))))
      have HM := toHid (meetTopR B h th key live N1 x y (L ++ r) tv sz wr.drew HP.out.nodes.drew HD.out (HP.out.perm.of (List.perm_iff_count.2 fun a => by simp [List.count_append, List.count_cons]; omega)) HP.out.ord (HHp.out wr.drew N1 HP.out.turn.drew) (HKy.out wr.drew N1 HP.out.turn.drew) hf hBw)
      have h20 : 0 < n := by omega
      have h2i : (1 : Int) < (n : Int) := by omega
      have h2k : (0 : Int) < (n : Int) := by omega
      have h2j : (2 : Int) ≤ (n : Int) := by omega
      have hci : (n : Int) ≤ (c' : Int) := by omega
      have hcj : (2 : Int) ≤ (c' : Int) := by omega
      have HLn := toHid HP.out.len
      clear d0 d1 d2 hrw
      go_wp2_with fail
      refine wp_region_held_drew (S := fun W => W.cell? ⟨g, o, none⟩ = some (.pointer (some ⟨x, 0, none⟩)) ∧ W.cell? ⟨g, o + 1, none⟩ = some (.pointer (some ⟨y, 0, none⟩))) (by kernel_rfl) ⟨q0, q1⟩ (fun hHeld => ?_)
      clear q0 q1
      refine wpAnyH_take (i := 0) (v := ?_) rfl (by kernel_rfl) (by kernel_rfl) (by kernel_rfl) (fun _ _ _ h => h) (Or.inl ⟨by rfl, ?_⟩) (by assumption) ?_
      rotate_left
      · (intro W hSw; obtain ⟨s0, s1⟩ := hSw; go_simp; try with_reducible rfl)
      try simp only [Act.put, List.getElem_toArray, List.getElem_cons_zero, List.getElem_cons_succ, List.setIfInBounds_toArray, List.set_cons_zero, List.set_cons_succ]
      refine wpAnyH_take (i := 1) (v := ?_) rfl (by kernel_rfl) (by kernel_rfl) (by kernel_rfl) (fun _ _ _ h => h) (Or.inl ⟨by rfl, ?_⟩) (by assumption) ?_
      rotate_left
      · (intro W hSw; obtain ⟨s0, s1⟩ := hSw; go_simp; try with_reducible rfl)
      try simp only [Act.put, List.getElem_toArray, List.getElem_cons_zero, List.getElem_cons_succ, List.setIfInBounds_toArray, List.set_cons_zero, List.set_cons_succ]
      refine wpAnyH_take (i := 2) (v := ?_) rfl (by kernel_rfl) (by kernel_rfl) (by kernel_rfl) (fun _ _ _ h => h) (Or.inl ⟨by rfl, ?_⟩) (by assumption) ?_
      rotate_left
      · (intro W hSw; obtain ⟨s0, s1⟩ := hSw; go_simp; try with_reducible rfl)
      try simp only [Act.put, List.getElem_toArray, List.getElem_cons_zero, List.getElem_cons_succ, List.setIfInBounds_toArray, List.set_cons_zero, List.set_cons_succ]
      refine wpAnyH_take (i := 3) (v := ?_) rfl (by kernel_rfl) (by kernel_rfl) (by kernel_rfl) (fun _ _ _ h => h) (Or.inl ⟨by rfl, ?_⟩) (by assumption) ?_
      rotate_left
      · (intro W hSw; obtain ⟨s0, s1⟩ := hSw; go_simp; try with_reducible rfl)
      try simp only [Act.put, List.getElem_toArray, List.getElem_cons_zero, List.getElem_cons_succ, List.setIfInBounds_toArray, List.set_cons_zero, List.set_cons_succ]
      refine wpAnyH_take (i := 4) (v := ?_) rfl (by kernel_rfl) (by kernel_rfl) (by kernel_rfl) (fun _ _ _ h => h) (Or.inl ⟨by rfl, ?_⟩) (by assumption) ?_
      rotate_left
      · (intro W hSw; obtain ⟨s0, s1⟩ := hSw; go_simp; try with_reducible rfl)
      try simp only [Act.put, List.getElem_toArray, List.getElem_cons_zero, List.getElem_cons_succ, List.setIfInBounds_toArray, List.set_cons_zero, List.set_cons_succ]
      refine wpAnyH_take (i := 5) (v := ?_) rfl (by kernel_rfl) (by kernel_rfl) (by kernel_rfl) (fun _ _ _ h => h) (Or.inl ⟨by rfl, ?_⟩) (by assumption) ?_
      rotate_left
      · (intro W hSw; obtain ⟨s0, s1⟩ := hSw; go_simp; try with_reducible rfl)
      try simp only [Act.put, List.getElem_toArray, List.getElem_cons_zero, List.getElem_cons_succ, List.setIfInBounds_toArray, List.set_cons_zero, List.set_cons_succ]
      refine wpAnyH_take (i := 6) (v := ?_) rfl (by kernel_rfl) (by kernel_rfl) (by kernel_rfl) (fun _ _ _ h => h) (Or.inl ⟨by rfl, ?_⟩) (by assumption) ?_
      rotate_left
      · (intro W hSw; obtain ⟨s0, s1⟩ := hSw; go_simp; try with_reducible rfl)
      try simp only [Act.put, List.getElem_toArray, List.getElem_cons_zero, List.getElem_cons_succ, List.setIfInBounds_toArray, List.set_cons_zero, List.set_cons_succ]
      refine wpAnyH_ready (rs := [7]) (by kernel_rfl) (by simp) ?_
      refine AllReadyH.cons rfl (fun K hK => ?_) AllReadyH.nil
      go_simp
      refine Calls.mono HM.out ?_
      rintro e w2 ⟨N2, pa, pb, rfl, n2, t2, p2, o2, -, -, -⟩
      have HN2 := toHid n2
      have HT2 := toHid t2.undrew1
      have HP2 := toHid p2
      have HO2 := toHid o2
      clear n2 t2 p2 o2 HM
      try go_wp2_with fail
      refine hK.out _ _ (HRW.out w2 N2 (HP.out.turn.trans HT2.out)) (fun hHeld => ?_)
      clear hK K
      try simp only [Act.put, List.getElem_toArray, List.getElem_cons_zero, List.getElem_cons_succ, List.setIfInBounds_toArray, List.set_cons_zero, List.set_cons_succ]
      refine wpAnyH_take (i := 8) (v := ?_) rfl (by kernel_rfl) (by kernel_rfl) (by kernel_rfl) (fun _ _ _ h => h) (Or.inl ⟨by rfl, ?_⟩) (by assumption) ?_
      rotate_left
      · (intro W hSw; obtain ⟨s0, s1⟩ := hSw; go_simp; try with_reducible rfl)
      try simp only [Act.put, List.getElem_toArray, List.getElem_cons_zero, List.getElem_cons_succ, List.setIfInBounds_toArray, List.set_cons_zero, List.set_cons_succ]
      refine wpAnyH_take (i := 9) (v := ?_) rfl (by kernel_rfl) (by kernel_rfl) (by kernel_rfl) (fun _ _ _ h => h) (Or.inl ⟨by rfl, ?_⟩) (by assumption) ?_
      rotate_left
      · (intro W hSw; obtain ⟨s0, s1⟩ := hSw; go_simp; try with_reducible rfl)
      try simp only [Act.put, List.getElem_toArray, List.getElem_cons_zero, List.getElem_cons_succ, List.setIfInBounds_toArray, List.set_cons_zero, List.set_cons_succ]
      refine wpAnyH_take (i := 10) (v := ?_) rfl (by kernel_rfl) (by kernel_rfl) (by kernel_rfl) (fun _ _ _ h => h) (Or.inl ⟨by rfl, ?_⟩) (by assumption) ?_
      rotate_left
      · (intro W hSw; obtain ⟨s0, s1⟩ := hSw; go_simp; try with_reducible rfl)
      try simp only [Act.put, List.getElem_toArray, List.getElem_cons_zero, List.getElem_cons_succ, List.setIfInBounds_toArray, List.set_cons_zero, List.set_cons_succ]
      refine wpAnyH_take (i := 11) (v := ?_) rfl (by kernel_rfl) (by kernel_rfl) (by kernel_rfl) (fun _ _ _ h => h) (Or.inl ⟨by rfl, ?_⟩) (by assumption) ?_
      rotate_left
      · (intro W hSw; obtain ⟨s0, s1⟩ := hSw; go_simp; try with_reducible rfl)
      try simp only [Act.put, List.getElem_toArray, List.getElem_cons_zero, List.getElem_cons_succ, List.setIfInBounds_toArray, List.set_cons_zero, List.set_cons_succ]
      refine wpAnyH_take (i := 12) (v := ?_) rfl (by kernel_rfl) (by kernel_rfl) (by kernel_rfl) (fun _ _ _ h => h) (Or.inl ⟨by rfl, ?_⟩) (by assumption) ?_
      rotate_left
      · (intro W hSw; obtain ⟨s0, s1⟩ := hSw; go_simp; try with_reducible rfl)
      try simp only [Act.put, List.getElem_toArray, List.getElem_cons_zero, List.getElem_cons_succ, List.setIfInBounds_toArray, List.set_cons_zero, List.set_cons_succ]
      refine wpAnyH_done (by kernel_rfl) ?_ _
      have hrow := HT2.out.row HP.out.nodes (by decide) HP.out.own HP.out.apart
      have HRo := toHid hrow.1
      have HAp := toHid hrow.2
      have hsz2 := HT2.out.size
      have HPut := toHid (putR B u L w2.heap.size 0 2 [some pa, pb] (w2.alloc (.cells #[.pointer (some ⟨pa, 0, none⟩), .pointer (pb.map fun x => ⟨x, 0, none⟩)] 103)) (World.ownsRow.alloc hrow.1 _) (news_two w2 _ (some pa) pb 103 rfl) (fun e => by have := (hrow.1.lt _ e).2; omega) (fun _ => by simp) (by simp; omega) (by simp; omega))
      clear hrow hHeld
      go_wp2_with fail
      refine Calls.mono HPut.out ?_
      rintro e w3 ⟨v3, rfl, o3, g3, f3⟩
      have HO3 := toHid o3
      have HG3 := toHid (grownBy_step (World.grownBy_alloc w2 _ _) g3)
      have HF3 := toHid (f3.mono (show w2.heap.size ≤ _ by simp))
      clear o3 g3 f3 HPut
      have HFin := toHid (fun (o' n' : Nat) (hn : n' = r.length) (ho : r ≠ [] → o' = o + 2) (c3 : Nat) (hc : n' ≤ c3) => (⟨HD2.out, hn, hc, ho, by have := HO3.out; rw [filter_two] at this; exact this, HAp.out.grow HN2.out HF3.out, fun k hk => by
          rcases HF3.out k hk with e | e
          · exact HP.out.new k e
          · have := HP.out.turn.size; omega, HN2.out.grow (by decide) HRo.out HAp.out HG3.out, (HP.out.turn.trans HT2.out).grow HG3.out HP.out.new, HP2.out.of (List.perm_iff_count.2 fun a => by simp [List.count_append, List.count_cons]; omega), HO2.out, by simp⟩ : PairsR B g c th key live N tops w (o + 2) o' n' c3 r (L ++ (pa :: pb.toList)) N2 v3 w3))
      by_cases hc2 : c' = 2
      · have hn2 : n = 2 := by omega
        have hr0 : r.length = 0 := by have := HLn.out; simp at this; omega
        have HR0 := toHid hr0
        subst hc2 hn2
        clear hr0
        go_wp2_with fail
        go_roundw
        case rel => exact ⟨o + 2, _, _, _, r, _, N2, v3, rfl, rfl, HFin.out _ _ HR0.out.symm (fun e => absurd (List.eq_nil_of_length_eq_zero HR0.out) e) _ (Nat.le_refl _)⟩
        case measure => simp [lenV]
      · have hc3 : ¬ c' - 2 = 0 := by omega
        have hc4 : ¬ c' ≤ 2 := by omega
        have HRn := toHid (show n - 2 = r.length by have := HLn.out; simp at this; omega)
        go_wp2_with fail
        go_roundw
        case rel => exact ⟨o + 2, _, _, _, r, _, N2, v3, rfl, rfl, HFin.out _ _ HRn.out (fun _ => rfl) _ (by omega)⟩
        case measure => simp [lenV]; omega
    · have HPut := toHid (putR B u L g o c' (R.map some) wr HP.out.own (fun j hj => by
          have hj' : j < R.length := by simpa using hj
          obtain rfl : o = i := HP.out.off (fun e => by rw [e] at hj'; simp at hj')
          have e : tops[o + j]? = some R[j] := by
            have := congrArg (·[j]?) HP.out.rest
            simpa [hj'] using this
          rw [row_cell (HRow.out wr N1 HP.out.turn).1 e]
          simp) (fun e => by have := HP.out.new g e; omega) (fun _ => Nat.lt_of_lt_of_le hgl HP.out.turn.size) (by have := HP.out.perm.few; simp at this ⊢; omega) hBw)
      have hl : (R.map some).length = n := by rw [HP.out.len]; simp
      rw [hl] at HPut
      have hn1 : ¬ (1 : Int) < (n : Int) := by omega
      clear hl
      go_wp2_with fail
      refine Calls.mono HPut.out ?_
      rintro e w3 ⟨v3, rfl, o3, g3, f3⟩
      have HO3 := toHid o3
      have HG3 := toHid g3
      have HF3 := toHid f3
      clear o3 g3 f3 HPut
      go_wp2
      go_ret
      refine ⟨v3, N1, L ++ R, rfl, by have := HO3.out; rw [filter_some] at this; exact this, HP.out.apart.grow HP.out.nodes HF3.out, fun k hk => ?_, HP.out.nodes.grow (by decide) HP.out.own HP.out.apart HG3.out, HP.out.turn.grow HG3.out HP.out.new, HP.out.perm, HP.out.ord, HP.out.some⟩
      rcases HF3.out k hk with e | e
      · exact HP.out.new k e
      · have := HP.out.turn.size; omega

end Go.Proofs.Ytnejcjebepidcaa
