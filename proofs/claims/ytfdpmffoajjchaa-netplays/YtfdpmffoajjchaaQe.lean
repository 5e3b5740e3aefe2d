/-
  The walk of NetPlays.
-/
import Derived.Test.YtfdpmffoajjchaaQd
import Derived.Test.YtfdpmffoajjchaaSm
namespace Go.Proofs.Ytfdpmffoajjchaa
open Go.RowKit Go.Conc

/-- Nothing sent yet. -/
theorem sim_new {w W : World} {n : Nat} (hN : NetOk W w.heap.size n (fun _ => [])) (hB : Below w.heap.size w W) : Sim w W w.heap.size n (fun _ => []) (fun _ => km 0) (fun _ => zeroP) (.slice none 0 0) [] :=
  ⟨hN, hB, Nat.le_refl _, fun j _ b hb => by simp at hb, fun j j' i i' b b' _ _ hb => by simp at hb, World.ownsRow_nil _ _ _ _, fun x hx => by simp at hx, fun x hx => by simp at hx, fun j _ b hb => by simp at hb, fun k _ => rfl, sumR_nil n n⟩

set_option maxRecDepth 100000 in
set_option maxHeartbeats 4000000 in
theorem plays_in (n : Nat) (a : Option Addr) (c : Nat) (l : List Op1) (w : World) (hops : SlO w a l) (hn : 1 ≤ n) (hn8 : n ≤ 8) :
    Calls Try.prog 4 #[.int .i64 n, .slice a l.length c] w fun e w' => e = .returned (.bool true) ∧ Below w.heap.size w w' := by
  have HS := toHid hops
  have HL := toHid lives17
  clear hops
  go_enter Try.func4, Try.ntmps4
  go_wp2_with fail
  go_at_call 9
  refine Calls.mono (new_yes w n hn hn8) ?_
  rintro e w1 ⟨rfl, hN1, hB1, hz1⟩
  have hb2 : Below w1.heap.size w1 (w1.alloc (.cells #[.int .i64 (n : Int), .slice none 0 0] 45)) := (Below.refl _ _).alloc (Nat.le_refl _) _
  have HSim := toHid ((sim_new hN1 hB1).below hb2)
  have HD := toHid (heap_alloc_new w1 (.cells #[.int .i64 (n : Int), .slice none 0 0] 45))
  have HG := toHid hB1.size
  clear hN1 hB1 hz1 hb2
  go_wp2_with fail
  generalize hw2 : w1.alloc (.cells #[.int .i64 (n : Int), .slice none 0 0] 45) = w2 at HSim HD ⊢
  clear hw2
  generalize hG : w1.heap.size = G at HD HG ⊢
  clear hG
  go_loopw [8] (fun k W => ∃ (i : Nat) (R : Nat → List Nat) (MM : Nat → Ms) (PL : Nat → Pl) (v : Value) (its : List It), i ≤ l.length ∧ k = .int .i64 i ∧ Sim w W w.heap.size n R MM PL v its ∧ W.heap[G]? = some (.cells #[.int .i64 (n : Int), v] 45)) (fun k _ => l.length - (intOf k).toNat)
  case atStart => exact ⟨0, _, _, _, _, _, Nat.zero_le _, rfl, HSim.out, HD.out⟩
  case round =>
    obtain ⟨i, R, MM, PL, v, its, hi, rfl, hSr, hDr⟩ := hrel
    obtain ⟨av, cv, rfl⟩ := ownsRow_shape hSr.row
    have HSr := toHid hSr
    have HDr := toHid hDr
    clear hSr hDr HSim HD
    by_cases hlt : i < l.length ∧ i < 80
    · obtain ⟨b, o, p, rfl, hb, hA, hM⟩ := HS.out.get i hlt.1
      obtain ⟨x, hx⟩ : ∃ x, x = l[i] := ⟨_, rfl⟩
      rw [← hx] at hA hM
      have HA : Hid (∀ W, Below w.heap.size w W → At13 W b (o + i * 13) x p) := fun W hW => at13_below hA hW hb
      have HM : Hid (∀ W, Below w.heap.size w W → MI W x.m p) := fun W hW => hM.below hW
      obtain ⟨s0, s1, s2, s3, s4, s5, s6, s7, s8, s9, s10, s11, s12⟩ := at13_cells (HA.out _ HSr.out.bel)
      have e1 : (i : Int) < (l.length : Int) := by omega
      have e2 : (i : Int) < 80 := by omega
      have e3 : 0 ≤ (i : Int) := by omega
      have HLT : Hid (i < l.length) := hlt.1
      clear hA hM hb hx hlt
      by_cases hsm : Small x.m
      · have HLm := toHid hsm.lim
        have HD1 : Hid (decide (Small x.m) = true) := by show _ = _; simp [hsm]
        clear hsm
        go_wp2_with fail
        go_at_call 19
        refine Calls.mono (small19 x.m p _) ?_
        rintro e w3 ⟨rfl, hB3⟩
        rw [HD1.out]
        have HS3 := toHid (HSr.out.below hB3)
        have HD3 := toHid (KeepC.below hB3 _ _ _ _ HDr.out)
        clear hB3 HSr HDr HD1 s0 s1 s2 s3 s4 s5 s6 s7 s8 s9 s10 s11 s12
        go_wp2_with fail
        refine wp_region_held_drew (S := fun W => W.cell? ⟨b, o + i * 13, none⟩ = some (.int .i64 x.kind) ∧ W.cell? ⟨b, o + i * 13 + 1, none⟩ = some (.int .i64 x.frm) ∧ W.cell? ⟨b, o + i * 13 + 2, none⟩ = some (.int .i64 x.tow) ∧ W.cell? ⟨b, o + i * 13 + 3, none⟩ = some (.int .i64 x.n) ∧ W.cell? ⟨b, o + i * 13 + 4, none⟩ = some (.int .i64 x.m.kind) ∧ W.cell? ⟨b, o + i * 13 + 5, none⟩ = some (.int .i64 x.m.txn) ∧ W.cell? ⟨b, o + i * 13 + 6, none⟩ = some (.int .i64 x.m.page) ∧ W.cell? ⟨b, o + i * 13 + 7, none⟩ = some (.int .i64 x.m.to) ∧ W.cell? ⟨b, o + i * 13 + 8, none⟩ = some (.bool x.m.fast) ∧ W.cell? ⟨b, o + i * 13 + 9, none⟩ = some (.int .u64 (x.m.lsn : Int)) ∧ W.cell? ⟨b, o + i * 13 + 10, none⟩ = some (.slice p.wa x.m.wants.length p.wc) ∧ W.cell? ⟨b, o + i * 13 + 11, none⟩ = some (.slice p.pa x.m.pages.length p.pc) ∧ W.cell? ⟨b, o + i * 13 + 12, none⟩ = some (.string (txt x.m.body))) (by kernel_rfl) ?_ (fun hHeld => ?_)
        · exact at13_cells (HA.out _ (HS3.out.bel.trans (((Below.refl _ w3).drew).mono HS3.out.bel.size)))
        have HSd : Hid (Sim w w3.drew w.heap.size n R MM PL (.slice av its.length cv) its) := HS3.out.below ((Below.refl _ w3).drew)
        have HDd : Hid (w3.drew.heap[G]? = some (.cells #[.int .i64 (n : Int), .slice av its.length cv] 45)) := HD3.out
        clear HS3 HD3
        generalize hwd : w3.drew = wd at HSd HDd hHeld ⊢
        clear hwd
        refine wpAnyH_take (i := 0) (v := ?_) rfl (by kernel_rfl) (by kernel_rfl) (by kernel_rfl) (fun _ _ _ h => h) (Or.inl ⟨by rfl, ?_⟩) (by assumption) ?_
        rotate_left
        · (intro W hSw; obtain ⟨s0, s1, s2, s3, s4, s5, s6, s7, s8, s9, s10, s11, s12⟩ := hSw; go_simp; try with_reducible rfl)
        try simp only [Act.put, List.getElem_toArray, List.getElem_cons_zero, List.setIfInBounds_toArray, List.set_cons_zero, List.set_cons_succ]
        refine wpAnyH_take (i := 2) (v := ?_) rfl (by kernel_rfl) (by kernel_rfl) (by kernel_rfl) (fun _ _ _ h => h) (Or.inl ⟨by rfl, ?_⟩) (by assumption) ?_
        rotate_left
        · (intro W hSw; obtain ⟨s0, s1, s2, s3, s4, s5, s6, s7, s8, s9, s10, s11, s12⟩ := hSw; go_simp; try with_reducible rfl)
        try simp only [Act.put, List.getElem_toArray, List.getElem_cons_zero, List.getElem_cons_succ, List.setIfInBounds_toArray, List.set_cons_zero, List.set_cons_succ]
        refine wpAnyH_take (i := 3) (v := ?_) rfl (by kernel_rfl) (by kernel_rfl) (by kernel_rfl) (fun _ _ _ h => h) (Or.inl ⟨by rfl, ?_⟩) (by assumption) ?_
        rotate_left
        · (intro W hSw; obtain ⟨s0, s1, s2, s3, s4, s5, s6, s7, s8, s9, s10, s11, s12⟩ := hSw; go_simp; try with_reducible rfl)
        try simp only [Act.put, List.getElem_toArray, List.getElem_cons_zero, List.getElem_cons_succ, List.setIfInBounds_toArray, List.set_cons_zero, List.set_cons_succ]
        refine wpAnyH_take (i := 4) (v := ?_) rfl (by kernel_rfl) (by kernel_rfl) (by kernel_rfl) (fun _ _ _ h => h) (Or.inl ⟨by rfl, ?_⟩) (by assumption) ?_
        rotate_left
        · (intro W hSw; obtain ⟨s0, s1, s2, s3, s4, s5, s6, s7, s8, s9, s10, s11, s12⟩ := hSw; go_simp; try with_reducible rfl)
        try simp only [Act.put, List.getElem_toArray, List.getElem_cons_zero, List.getElem_cons_succ, List.setIfInBounds_toArray, List.set_cons_zero, List.set_cons_succ]
        refine wpAnyH_take (i := 5) (v := ?_) rfl (by kernel_rfl) (by kernel_rfl) (by kernel_rfl) (fun _ _ _ h => h) (Or.inl ⟨by rfl, ?_⟩) (by assumption) ?_
        rotate_left
        · (intro W hSw; obtain ⟨s0, s1, s2, s3, s4, s5, s6, s7, s8, s9, s10, s11, s12⟩ := hSw; go_simp; try with_reducible rfl)
        try simp only [Act.put, List.getElem_toArray, List.getElem_cons_zero, List.getElem_cons_succ, List.setIfInBounds_toArray, List.set_cons_zero, List.set_cons_succ]
        refine wpAnyH_ready (rs := [1]) (by kernel_rfl) (by simp) ?_
        refine AllReadyH.cons rfl (fun K hK => ?_) AllReadyH.nil
        clear hHeld
        obtain ⟨x0, x1, xf⟩ := cell2 HDd.out
        go_simp
        refine hK.out _ _ (at13_cells (HA.out _ HSd.out.bel)) (fun hHeld => ?_)
        clear hK K x0 x1 xf
        try simp only [Act.put, List.getElem_toArray, List.getElem_cons_zero, List.getElem_cons_succ, List.setIfInBounds_toArray, List.set_cons_zero, List.set_cons_succ]
        refine wpAnyH_ready (rs := [6]) (by kernel_rfl) (by simp) ?_
        refine AllReadyH.cons rfl (fun K hK => ?_) AllReadyH.nil
        clear hHeld
        go_simp
        refine Calls.mono (step20 w wd w.heap.size n (G, #[.int .i64 (n : Int), .slice av its.length cv]) R MM PL _ its x p HSd.out HDd.out HLm.out HM.out) ?_
        rintro e w4 ⟨v', R', MM', PL', its', rfl, hS4, hD4⟩
        obtain ⟨a', c', rfl⟩ := ownsRow_shape hS4.row
        have HS4 := toHid hS4
        have HD4 : Hid (w4.heap[G]? = some (.cells #[.int .i64 (n : Int), .slice av its.length cv] 45)) := hD4
        clear hS4 hD4 HSd HDd
        try go_wp2_with fail
        refine hK.out _ w4 (at13_cells (HA.out _ HS4.out.bel)) (fun hHeld => ?_)
        clear hK K
        try simp only [Act.put, List.getElem_toArray, List.getElem_cons_zero, List.getElem_cons_succ, List.setIfInBounds_toArray, List.set_cons_zero, List.set_cons_succ]
        refine wpAnyH_take (i := 7) (v := ?_) rfl (by kernel_rfl) (by kernel_rfl) (by kernel_rfl) (fun _ _ _ h => h) (Or.inl ⟨by rfl, ?_⟩) (by assumption) ?_
        rotate_left
        · (intro W hSw; obtain ⟨s0, s1, s2, s3, s4, s5, s6, s7, s8, s9, s10, s11, s12⟩ := hSw; go_simp; try with_reducible rfl)
        try simp only [Act.put, List.getElem_toArray, List.getElem_cons_zero, List.getElem_cons_succ, List.setIfInBounds_toArray, List.set_cons_zero, List.set_cons_succ]
        refine wpAnyH_take (i := 8) (v := ?_) rfl (by kernel_rfl) (by kernel_rfl) (by kernel_rfl) (fun _ _ _ h => h) (Or.inl ⟨by rfl, ?_⟩) (by assumption) ?_
        rotate_left
        · (intro W hSw; obtain ⟨s0, s1, s2, s3, s4, s5, s6, s7, s8, s9, s10, s11, s12⟩ := hSw; go_simp; try with_reducible rfl)
        try simp only [Act.put, List.getElem_toArray, List.getElem_cons_zero, List.getElem_cons_succ, List.setIfInBounds_toArray, List.set_cons_zero, List.set_cons_succ]
        refine wpAnyH_take (i := 9) (v := ?_) rfl (by kernel_rfl) (by kernel_rfl) (by kernel_rfl) (fun _ _ _ h => h) (Or.inl ⟨by rfl, ?_⟩) (by assumption) ?_
        rotate_left
        · (intro W hSw; obtain ⟨s0, s1, s2, s3, s4, s5, s6, s7, s8, s9, s10, s11, s12⟩ := hSw; go_simp; try with_reducible rfl)
        try simp only [Act.put, List.getElem_toArray, List.getElem_cons_zero, List.getElem_cons_succ, List.setIfInBounds_toArray, List.set_cons_zero, List.set_cons_succ]
        have hk5 : ∀ k, k ≠ G → ((w4.setCell ⟨G, 0, none⟩ (.int .i64 (n : Int))).setCell ⟨G, 1, none⟩ (.slice a' its'.length c')).heap[k]? = w4.heap[k]? := fun k hk => by rw [heap_setCell_other _ _ _ _ hk, heap_setCell_other _ _ _ _ hk]
        have HS5 := toHid (HS4.out.box HD4.out hk5 (((Below.refl _ _).setCell (p := ⟨G, 0, none⟩) HG.out _).setCell (p := ⟨G, 1, none⟩) HG.out _))
        have HD5 := toHid (put2_same (.int .i64 (n : Int)) (.slice a' its'.length c') HD4.out)
        clear hk5
        refine wpAnyH_ready (rs := [10]) (by kernel_rfl) (by simp) ?_
        refine AllReadyH.cons rfl (fun K hK => ?_) AllReadyH.nil
        clear hHeld
        obtain ⟨x0, x1, xf⟩ := cell2 HD4.out
        go_simp
        refine hK.out _ ((w4.setCell ⟨G, 0, none⟩ (.int .i64 (n : Int))).setCell ⟨G, 1, none⟩ (.slice a' its'.length c')) (at13_cells (HA.out _ HS5.out.bel)) (fun hHeld => ?_)
        clear hK K x0 x1 xf HS4 HD4
        try simp only [Act.put, List.getElem_toArray, List.getElem_cons_zero, List.getElem_cons_succ, List.setIfInBounds_toArray, List.set_cons_zero, List.set_cons_succ]
        generalize hw5 : (w4.setCell ⟨G, 0, none⟩ (.int .i64 (n : Int))).setCell ⟨G, 1, none⟩ (.slice a' its'.length c') = w5 at HS5 HD5 hHeld ⊢
        clear hw5
        refine wpAnyH_take (i := 11) (v := ?_) rfl (by kernel_rfl) (by kernel_rfl) (by kernel_rfl) (fun _ _ _ h => h) (Or.inl ⟨by rfl, ?_⟩) (by assumption) ?_
        rotate_left
        · (intro W hSw; obtain ⟨s0, s1, s2, s3, s4, s5, s6, s7, s8, s9, s10, s11, s12⟩ := hSw; go_simp; try with_reducible rfl)
        try simp only [Act.put, List.getElem_toArray, List.getElem_cons_zero, List.getElem_cons_succ, List.setIfInBounds_toArray, List.set_cons_zero, List.set_cons_succ]
        refine wpAnyH_done (by kernel_rfl) ?_ _
        clear hHeld
        simp only [Exit.then]
        obtain ⟨x0, x1, xf⟩ := cell2 HD5.out
        go_wp2_with fail
        go_at_call 21
        refine Calls.mono (alike21 w _ w.heap.size n R' MM' PL' _ its' HS5.out) ?_
        rintro e w6 ⟨rfl, hB6⟩
        have HS6 := toHid (HS5.out.below hB6)
        have HD6 := toHid (KeepC.below hB6 _ _ _ _ HD5.out)
        clear hB6 x0 x1 xf HS5 HD5
        go_wp2_with fail
        go_roundw
        case rel => exact ⟨i + 1, R', MM', PL', _, its', HLT.out, by go_num, HS6.out, HD6.out⟩
        case measure => have := HLT.out; simp [intOf]; omega
      · have HD1 : Hid (decide (Small x.m) = false) := by show _ = _; simp [hsm]
        clear hsm
        go_wp2_with fail
        go_at_call 19
        refine Calls.mono (small19 x.m p _) ?_
        rintro e w3 ⟨rfl, hB3⟩
        rw [HD1.out]
        have HB3 := toHid (HSr.out.bel.trans (hB3.mono HSr.out.bel.size))
        clear hB3 HSr HDr HD1 s0 s1 s2 s3 s4 s5 s6 s7 s8 s9 s10 s11 s12
        go_wp2_with fail
        go_at_call 17
        refine Calls.mono (HL.out _) ?_
        rintro e w4 ⟨rfl, hB4⟩
        have HB4 := toHid (HB3.out.trans (hB4.mono HB3.out.size))
        clear hB4
        go_wp2_with fail
        go_ret
        exact ⟨rfl, HB4.out⟩
    · have HB3 := toHid HSr.out.bel
      by_cases h : i < l.length
      · have e1 : (i : Int) < (l.length : Int) := by omega
        have e2 : ¬ (i : Int) < 80 := by omega
        go_wp2_with fail
        go_at_call 17
        refine Calls.mono (HL.out _) ?_
        rintro e w4 ⟨rfl, hB4⟩
        have HB4 := toHid (HB3.out.trans (hB4.mono HB3.out.size))
        clear hB4
        go_wp2_with fail
        go_ret
        exact ⟨rfl, HB4.out⟩
      · have e1 : ¬ (i : Int) < (l.length : Int) := by omega
        go_wp2_with fail
        go_at_call 17
        refine Calls.mono (HL.out _) ?_
        rintro e w4 ⟨rfl, hB4⟩
        have HB4 := toHid (HB3.out.trans (hB4.mono HB3.out.size))
        clear hB4
        go_wp2_with fail
        go_ret
        exact ⟨rfl, HB4.out⟩

set_option maxRecDepth 100000 in
set_option maxHeartbeats 3000000 in
theorem plays_out (n : Int) (hn : n < 1 ∨ 8 < n) (a : Option Addr) (c : Nat) (l : List Op1) (w : World) :
    Calls Try.prog 4 #[.int .i64 n, .slice a l.length c] w fun e w' => e = .returned (.bool true) ∧ Below w.heap.size w w' := by
  have HL := toHid lives17
  go_enter Try.func4, Try.ntmps4
  go_wp2_with fail
  go_at_call 9
  refine Calls.mono (new_no w n hn) ?_
  rintro e w3 ⟨rfl, hw3⟩
  obtain rfl := hw3.symm
  have HB3 : Hid (Below w.heap.size w w) := Below.refl _ _
  go_wp2_with fail
  go_at_call 17
  refine Calls.mono (HL.out _) ?_
  rintro e w4 ⟨rfl, hB4⟩
  have HB4 := toHid (HB3.out.trans (hB4.mono HB3.out.size))
  clear hB4
  go_wp2_with fail
  go_ret
  exact ⟨rfl, HB4.out⟩

theorem plays_walk (n : Int) (a : Option Addr) (c : Nat) (l : List Op1) (w : World) (hops : SlO w a l) :
    Calls Try.prog 4 #[.int .i64 n, .slice a l.length c] w fun e w' => e = .returned (.bool true) ∧ Below w.heap.size w w' := by
  by_cases hn : n < 1 ∨ 8 < n
  · exact plays_out n hn a c l w
  · obtain ⟨m, rfl⟩ : ∃ m : Nat, n = m := ⟨n.toNat, by omega⟩
    exact plays_in m a c l w hops (by omega) (by omega)

end Go.Proofs.Ytfdpmffoajjchaa
