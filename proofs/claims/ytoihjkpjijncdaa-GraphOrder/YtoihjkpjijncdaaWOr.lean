/-
  The walk of GraphOrder.
-/
import Derived.Test.YtoihjkpjijncdaaOb
namespace Go.Proofs.Ytoihjkpjijncdaa
open Go.RowKit Go.Maps

/-- The edges in the other order, so far. -/
structure Bk (w0 : World) (m : List (Int × Int)) (v : Value) (W : World) : Prop where
  low : Below w0.heap.size w0 W
  row : W.ownsRow w0.heap.size 27 2 v m.length (m.flatMap eC)

/-- Both graphs. -/
structure Two (w0 : World) (p q N M : Nat) (E F : List (Lit × Lit)) (S T : Nat → Prop) (W : World) : Prop where
  low : Below w0.heap.size w0 W
  g1 : Gr 3 61 W p N E S
  g2 : Gr 3 61 W q M F T
  apart : ∀ i, S i → ¬ T i
  new : ∀ i, S i ∨ T i → w0.heap.size ≤ i

theorem Two.below {w0 : World} {p q N M : Nat} {E F : List (Lit × Lit)} {S T : Nat → Prop} {W W' : World} (h : Two w0 p q N M E F S T W) (hb : Below W.heap.size W W') : Two w0 p q N M E F S T W' :=
  ⟨below_next h.low h.low.size hb, h.g1.below hb, h.g2.below hb, h.apart, h.new⟩
theorem Two.first {w0 : World} {p q N M N' : Nat} {E F E' : List (Lit × Lit)} {S T S' : Nat → Prop} {W W' : World} (h : Two w0 p q N M E F S T W) (g : Gr 3 61 W' p N' E' S') (t : Turn S W W') (hs : ∀ i, S' i → S i ∨ W.heap.size ≤ i) : Two w0 p q N' M E' F S' T W' :=
  ⟨below_trans h.low (t.below h.low.size fun i hi hS => by have := h.new i (.inl hS); omega), g, h.g2.other t h.apart, fun i hi hT => by
    rcases hs i hi with h1 | h1
    · exact h.apart i h1 hT
    · have := h.g2.lt hT; omega, fun i hi => by
    rcases hi with h1 | h1
    · rcases hs i h1 with h2 | h2
      · exact h.new i (.inl h2)
      · exact Nat.le_trans h.low.size h2
    · exact h.new i (.inr h1)⟩
theorem Two.second {w0 : World} {p q N M M' : Nat} {E F F' : List (Lit × Lit)} {S T T' : Nat → Prop} {W W' : World} (h : Two w0 p q N M E F S T W) (g : Gr 3 61 W' q M' F' T') (t : Turn T W W') (hs : ∀ i, T' i → T i) : Two w0 p q N M' E F' S T' W' :=
  ⟨below_trans h.low (t.below h.low.size fun i hi hS => by have := h.new i (.inr hS); omega), h.g1.other t fun i hT hS => h.apart i hS hT, g, fun i hi hT => h.apart i hi (hs i hT), fun i hi => h.new i (hi.imp id (hs i))⟩

set_option maxRecDepth 100000 in
set_option maxHeartbeats 4000000 in
theorem order_walk {w : World} {a : Option Addr} {c : Nat} {l : List (Int × Int)} (hL : SlE w a l) {x y z : Int} (hx : (Lit.int .i64 x).wf = true) (hy : (Lit.int .i64 y).wf = true) (hz : (Lit.int .i64 z).wf = true) :
    Calls Try.prog 8 #[.slice a l.length c, .int .i64 x, .agg #[.int .i64 y, .int .i64 z]] w fun e w' => e = .returned (.bool true) ∧ Below w.heap.size w w' := by
  obtain ⟨i0, hi0, hz0, hz1, hz2⟩ := info_parts inf27
  have hkx := keyI hx
  have hky := keyI hy
  have hkz := keyI hz
  obtain ⟨w0, hw0⟩ : ∃ w0, w0 = w.alloc (.cells #[.int .i64 y, .int .i64 z] 27) := ⟨_, rfl⟩
  have hblk : w0.heap[w.heap.size]? = some (.cells #[.int .i64 y, .int .i64 z] 27) := by rw [hw0]; exact (MapKept.heap_alloc _ _).1
  have hs0 : w0.heap.size = w.heap.size + 1 := by rw [hw0]; simp
  have HB0 : Hid (Below w.heap.size w w0) := by rw [hw0]; exact (Below.refl _ _).alloc (Nat.le_refl _) _
  have HL := toHid (hL.below HB0.out)
  have HEB : Hid (∀ W, Below w0.heap.size w0 W → W.cell? ⟨w.heap.size, 0, none⟩ = some (.int .i64 y) ∧ W.cell? ⟨w.heap.size, 1, none⟩ = some (.int .i64 z)) := fun W hW => by
    have h1 : W.heap[w.heap.size]? = some (.cells #[.int .i64 y, .int .i64 z] 27) := (hW.block _ (by omega)).trans hblk
    exact ⟨by simp [World.cell?, h1], by simp [World.cell?, h1]⟩
  have hal := toHid hw0
  clear hL hblk
  by_cases h60 : 60 < l.length
  · have h6i : (60 : Int) < (l.length : Int) := by omega
    obtain ⟨n, hn⟩ : ∃ n, n = 60 := ⟨_, rfl⟩
    have hnl : n ≤ l.length := by omega
    have hn6 : n ≤ 60 := by omega
    have HT : Hid (l.take n = l.take 60) := by rw [hn]; rfl
    have hnv : Value.int .i64 60 = .int .i64 (n : Int) := by rw [hn]; rfl
    have HNN := toHid hn
    clear hn hnv
    go_enter Try.func8, Try.ntmps8
    go_wp2_with fail
    rw [← hal.out]
    go_loopw [7, 9] (fun s k W => ∃ (m : Nat) (va : Option Addr) (vc : Nat), m ≤ n ∧ k = .int .i64 ((m : Int) - 1) ∧ s = .slice va (n - m) vc ∧ Hid (Bk w0 ((l.take n).drop m).reverse s W)) (fun _ k _ => (intOf k + 1).toNat)
    case atStart => exact ⟨n, none, 0, Nat.le_refl _, by first | (rw [HNN.out]; done) | (rw [HNN.out]; rfl) | (rw [HNN.out]; simp), by rw [Nat.sub_self], toHid ⟨Below.refl _ _, by simpa using World.ownsRow_nil _ _ _ _⟩⟩
    case round =>
      obtain ⟨m, va, vc, hm, rfl, hsv, HK⟩ := hrel
      subst hsv
      rcases m with _ | j
      · rw [List.drop_zero] at HK
        have hlen : n - 0 = (l.take n).reverse.length := by simp; omega
        have HSet : Hid (∀ z, z ∈ madeE l 60 ↔ z ∈ madeE (l.take n).reverse 60) := made_rev hn6 HT.out
        have HWFB : Hid (∀ e, e ∈ (l.take n).reverse → (Lit.int .i64 e.1).wf = true ∧ (Lit.int .i64 e.2).wf = true) := fun e he => HL.out.wf e (List.mem_of_mem_take (List.mem_reverse.1 he))
        rw [hlen] at HK ⊢
        have hBn : (l.take n).reverse.length ≤ 60 := by rw [← hlen]; omega
        generalize (l.take n).reverse = Bl at *
        have HSB := toHid (sle_row HK.out.row HWFB.out)
        clear hlen
        go_wp2_with fail
        refine (made19 (HL.out.below HK.out.low)).mono ?_
        rintro e w1 ⟨p, S, rfl, hM1⟩
        have HSB1 := toHid (HSB.out.below hM1.low)
        have HM1 := toHid hM1
        clear hM1
        go_wp2_with fail
        refine (made19 HSB1.out).mono ?_
        rintro e w2 ⟨q, T, rfl, hM2⟩
        have hEl := madeE_len l 60
        have hFl := madeE_len Bl 60
        have HTw := toHid (show Two w0 p q 60 60 (madeE l 60) (madeE Bl 60) S T w2 from ⟨below_next (below_next HK.out.low HK.out.low.size HM1.out.low) (Nat.le_trans HK.out.low.size HM1.out.low.size) hM2.low, HM1.out.gr.below hM2.low, hM2.gr, fun i hi hT => by have := HM1.out.gr.lt hi; have := hM2.new i hT; omega, fun i hi => by
          rcases hi with h1 | h1
          · exact Nat.le_trans HK.out.low.size (HM1.out.new i h1)
          · exact Nat.le_trans HK.out.low.size (Nat.le_trans HM1.out.low.size (hM2.new i h1))⟩)
        generalize madeE l 60 = E at *
        generalize madeE Bl 60 = F at *
        have hlenEF : E.length = F.length := Nat.le_antisymm (pair_nodup_le HTw.out.g1.nd fun x hx => (HSet.out x).1 hx) (pair_nodup_le HTw.out.g2.nd fun x hx => (HSet.out x).2 hx)
        have HLen := toHid hlenEF
        clear hM2 HM1 HSB1 HSB HK hlenEF
        have tok1 : True := trivial
        have tok2 : True := trivial
        have tok3 : True := trivial
        have tok4 : True := trivial
        go_wp2_with (first
          | (go_at_call 16; have _t := tok1; refine (lenI HTw.out.g1).mono ?_; rintro e w3 ⟨rfl, hw3⟩; subst w3; clear tok1)
          | (go_at_call 16; have _t := tok2; refine (lenI HTw.out.g2).mono ?_; rintro e w3 ⟨rfl, hw3⟩; subst w3; rw [← HLen.out]; clear tok2)
          | (go_at_call 21; have _t := tok3; refine (ringI HTw.out.g1 hkx (by omega)).mono ?_; rintro e w4 ⟨vd, ve, R1, rfl, hr4, hb4, hR4, hl4⟩; have HTw4 := toHid (HTw.out.below hb4); have HRw1 := toHid hr4; have HI1 := toHid hR4; clear hr4 hb4 hR4 tok3)
          | (go_at_call 21; have _t := tok4; refine (ringI HTw4.out.g2 hkx (by omega)).mono ?_; rintro e w5 ⟨vf, vg, R2, rfl, hr5, hb5, hR5, hl5⟩; obtain rfl := ring_set HSet.out HI1.out hR5; have HTw5 := toHid (HTw4.out.below hb5); have HRI1 := toHid ((RowI.of HRw1.out).below hb5); have HRI2 := toHid (RowI.of hr5); clear hr5 hb5 hR5 tok4)
          | (go_at_call 24; refine (same24 HRI1.out HRI2.out (by omega) (by omega)).mono ?_; rintro e w6 ⟨rfl, hb6⟩; rw [decide_eq_true rfl]; have HTw6 := toHid (HTw5.out.below hb6); clear hb6)
          | fail)
        clear HTw HTw4 HTw5 HRI1 HRI2 HRw1 HI1
        refine (ringI HTw6.out.g1 hkx (by omega)).mono ?_
        rintro e w7 ⟨va7, vc7, R, rfl, hr7, hb7, hR7, hl7⟩
        have HTw7 := toHid (HTw6.out.below hb7)
        have HW7 := toHid hr7
        have HI7 := toHid hR7
        obtain ⟨c0, c1⟩ := HEB.out _ HTw7.out.low
        clear hr7 hb7 hR7 HTw6
        go_wp2_with fail
        refine (addI HTw7.out.g1 hky hkz (by unfold maxLen; omega) (by omega)).mono ?_
        rintro e w8 ⟨S8, rfl, hg8, ht8, hs8⟩
        have HTw8 := toHid (HTw7.out.first hg8 ht8 hs8)
        have HW8 := toHid (row_turn HW7.out HTw7.out.g1 ht8)
        have hal8 := addE_len E (.int .i64 y, .int .i64 z)
        clear hg8 ht8 hs8 c0 c1 HTw7 HW7
        go_wp2_with fail
        refine (ringI HTw8.out.g1 hkx (by omega)).mono ?_
        rintro e w9 ⟨va9, vc9, R9, rfl, hr9, hb9, hR9, hl9⟩
        have HTw9 := toHid (HTw8.out.below hb9)
        have HW9 := toHid (row_below HW8.out hb9)
        have HRI9 := toHid (RowI.of HW9.out)
        have HRM9 := toHid (RowI.of hr9)
        have HIN9 : Hid (∀ v, v ∈ R → v ∈ R9) := fun v hv => ring_mono (fun e he => mem_addE.2 (.inl he)) HI7.out hR9 hv
        clear hr9 hb9 hR9 HTw8 HW8
        go_wp2_with fail
        go_loop [14] (fun k => ∃ i : Nat, i ≤ R.length ∧ k = .int .i64 i) (fun k => R.length - (intOf k).toNat)
        case atStart => exact ⟨0, Nat.zero_le _, rfl⟩
        case round =>
          obtain ⟨i, hi, rfl⟩ := hrel
          by_cases hlt : i < R.length
          · obtain ⟨g, rfl, hcs⟩ := HRI9.out.resolve_left (fun e => by rw [e] at hlt; simp at hlt)
            have d0 := hcs i hlt
            have HM := toHid (HIN9.out _ (List.getElem_mem hlt))
            obtain ⟨v, hv⟩ : ∃ v, R[i] = v := ⟨_, rfl⟩
            rw [hv] at d0 HM
            have hq1 : (i : Int) < (R.length : Int) := by omega
            have hq2 : 0 ≤ (i : Int) := by omega
            clear hv hcs
            go_wp2_with (first
              | (go_at_call 22; refine (has22 HRM9.out (by omega) v).mono ?_; rintro e w10 ⟨rfl, hw⟩; subst w10; rw [decide_eq_true HM.out])
              | fail)
            go_round
            case rel => exact ⟨i + 1, by omega, by simp⟩
            case measure => first | omega | (simp only [intOf]; omega)
          · obtain rfl : i = R.length := by omega
            obtain ⟨c0, c1⟩ := HEB.out _ HTw9.out.low
            go_wp2_with fail
            refine (drop13 HTw9.out.g2 hky hkz (by omega)).mono ?_
            rintro e w11 ⟨T11, rfl, hg11, ht11, hs11⟩
            have HTw11 := toHid (HTw9.out.second hg11 ht11 hs11)
            have HW11 := toHid (row_turn HW9.out HTw9.out.g2 ht11)
            have hdl : (dropE F (.int .i64 y, .int .i64 z)).length ≤ F.length := List.length_filter_le _ _
            clear hg11 ht11 hs11 c0 c1
            go_wp2_with fail
            refine (ringI HTw11.out.g2 hkx (by omega)).mono ?_
            rintro e w12 ⟨va12, vc12, R12, rfl, hr12, hb12, hR12, hl12⟩
            have HTw12 := toHid (HTw11.out.below hb12)
            have HW12 := toHid (row_below HW11.out hb12)
            have HRI12 := toHid (RowI.of HW12.out)
            have HRL12 := toHid (RowI.of hr12)
            have HIN12 : Hid (∀ v, v ∈ R12 → v ∈ R) := fun v hv => ring_mono (fun e he => (HSet.out e).2 (dropE_sub he)) hR12 HI7.out hv
            clear hr12 hb12 hR12 HTw11 HW11
            go_wp2_with fail
            go_loop [16] (fun k => ∃ i : Nat, i ≤ R12.length ∧ k = .int .i64 i) (fun k => R12.length - (intOf k).toNat)
            case atStart => exact ⟨0, Nat.zero_le _, rfl⟩
            case round =>
              obtain ⟨i, hi, rfl⟩ := hrel
              by_cases hlt2 : i < R12.length
              · obtain ⟨g, rfl, hcs⟩ := HRL12.out.resolve_left (fun e => by rw [e] at hlt2; simp at hlt2)
                have d0 := hcs i hlt2
                have HM := toHid (HIN12.out _ (List.getElem_mem hlt2))
                obtain ⟨v, hv⟩ : ∃ v, R12[i] = v := ⟨_, rfl⟩
                rw [hv] at d0 HM
                have hq1 : (i : Int) < (R12.length : Int) := by omega
                have hq2 : 0 ≤ (i : Int) := by omega
                clear hv hcs
                go_wp2_with (first
                  | (go_at_call 22; refine (has22 HRI12.out (by omega) v).mono ?_; rintro e w13 ⟨rfl, hw⟩; subst w13; rw [decide_eq_true HM.out])
                  | fail)
                go_round
                case rel => exact ⟨i + 1, by omega, by simp⟩
                case measure => first | omega | (simp only [intOf]; omega)
              · obtain rfl : i = R12.length := by omega
                go_wp2_with (first
                  | (go_at_call 18; refine (lives18 _).mono ?_; rintro e w14 ⟨rfl, hb14⟩; have HB14 := toHid (below_next (below_trans HB0.out ⟨HTw12.out.low.os, HTw12.out.low.tape, HTw12.out.low.output, HTw12.out.low.size, fun i hi => HTw12.out.low.block i (by omega)⟩) (by have := HTw12.out.low.size; omega) hb14); clear hb14)
                  | fail)
                go_ret
                exact ⟨rfl, HB14.out⟩
      · have hjl : j < l.length := by omega
        obtain ⟨b, o, rfl, c0, c1⟩ := HL.out.at_ j hjl
        have hlen : (((l.take n).drop (j + 1)).reverse).length = n - (j + 1) := by simp; omega
        have HNX : Hid (((l.take n).drop j).reverse = ((l.take n).drop (j + 1)).reverse ++ [l[j]]) := by
          show _ = _
          rw [List.drop_eq_getElem_cons (show j < (l.take n).length by simp; omega)]
          simp
        obtain ⟨e, he⟩ : ∃ e, l[j] = e := ⟨_, rfl⟩
        rw [he] at c0 c1 HNX
        obtain ⟨u, v⟩ := e
        have d0 : wr.cell? ⟨b, o + j * 2, none⟩ = some (.int .i64 u) := cell_low c0 (cell_lt c0) HK.out.low
        have d1 : wr.cell? ⟨b, o + j * 2 + 1, none⟩ = some (.int .i64 v) := cell_low c1 (cell_lt c1) HK.out.low
        clear c0 c1 he
        rw [← hlen] at HK ⊢
        generalize ((l.take n).drop (j + 1)).reverse = Bj at *
        have hq1 : (j : Int) < (l.length : Int) := by omega
        have hq2 : 0 ≤ (j : Int) := by omega
        rw [show Value.int .i64 (((j + 1 : Nat) : Int) - 1) = .int .i64 (j : Int) from by simp]
        have HRA := toHid (HK.out.row.alloc (.cells #[.int .i64 u, .int .i64 v] 27))
        go_wp2_with (first
          | (at_builtin; refine wpList_append_own _ rfl _ _ 25 rfl w0.heap.size 27 i0 _ 2 16 Try.underlying25 hi0 hz0 hz1 hz2 rfl (by decide) _ Bj.length _ rfl HRA.out ⟨wr.heap.size, 0, none⟩ 1 1 [.int .i64 u, .int .i64 v] rfl rfl (cell_two wr _ _ _) (by intro q hq; simp at hq; rcases hq with rfl | rfl <;> rfl) (by unfold maxLen; omega) (by omega) (Nat.le_trans HK.out.low.size (by simp)) ?_; intro v7 w7 hown7 hgrow7 _)
          | fail)
        obtain ⟨va7, vc7, hv7⟩ : ∃ a c, v7 = .slice a (Bj.length + 1) c := by
          rcases hown7.2 with ⟨_, h0⟩ | ⟨g, cap, cur, rfl, _⟩
          · cases h0
          · exact ⟨_, _, rfl⟩
        subst hv7
        have HK7 := toHid (show Bk w0 (Bj ++ [(u, v)]) (.slice va7 (Bj.length + 1) vc7) w7 from ⟨((HK.out.low).alloc HK.out.low.size _).grown hgrow7 (Nat.le_trans HK.out.low.size (by simp)) (fun i hi => (HK.out.row.lt i hi).1), by simpa [eC] using hown7⟩)
        go_roundw
        case rel => exact ⟨j, va7, vc7, by omega, rfl, by rw [show n - j = Bj.length + 1 by omega], by rw [HNX.out]; exact HK7⟩
        case measure => simp only [intOf]; omega
  · have h6i : ¬ (60 : Int) < (l.length : Int) := by omega
    have h6j : (l.length : Int) ≤ 60 := by omega
    obtain ⟨n, hn⟩ : ∃ n, n = l.length := ⟨_, rfl⟩
    have hnl : n ≤ l.length := by omega
    have hn6 : n ≤ 60 := by omega
    have HT : Hid (l.take n = l.take 60) := by show _ = _; rw [hn, List.take_length, List.take_of_length_le (by omega)]
    have hnv : Value.int .i64 (l.length : Int) = .int .i64 (n : Int) := by rw [hn]
    have HNN := toHid hn
    clear hn hnv
    go_enter Try.func8, Try.ntmps8
    go_wp2_with fail
    rw [← hal.out]
    go_loopw [7, 9] (fun s k W => ∃ (m : Nat) (va : Option Addr) (vc : Nat), m ≤ n ∧ k = .int .i64 ((m : Int) - 1) ∧ s = .slice va (n - m) vc ∧ Hid (Bk w0 ((l.take n).drop m).reverse s W)) (fun _ k _ => (intOf k + 1).toNat)
    case atStart => exact ⟨n, none, 0, Nat.le_refl _, by first | (rw [HNN.out]; done) | (rw [HNN.out]; rfl) | (rw [HNN.out]; simp), by rw [Nat.sub_self], toHid ⟨Below.refl _ _, by simpa using World.ownsRow_nil _ _ _ _⟩⟩
    case round =>
      obtain ⟨m, va, vc, hm, rfl, hsv, HK⟩ := hrel
      subst hsv
      rcases m with _ | j
      · rw [List.drop_zero] at HK
        have hlen : n - 0 = (l.take n).reverse.length := by simp; omega
        have HSet : Hid (∀ z, z ∈ madeE l 60 ↔ z ∈ madeE (l.take n).reverse 60) := made_rev hn6 HT.out
        have HWFB : Hid (∀ e, e ∈ (l.take n).reverse → (Lit.int .i64 e.1).wf = true ∧ (Lit.int .i64 e.2).wf = true) := fun e he => HL.out.wf e (List.mem_of_mem_take (List.mem_reverse.1 he))
        rw [hlen] at HK ⊢
        have hBn : (l.take n).reverse.length ≤ 60 := by rw [← hlen]; omega
        generalize (l.take n).reverse = Bl at *
        have HSB := toHid (sle_row HK.out.row HWFB.out)
        clear hlen
        go_wp2_with fail
        refine (made19 (HL.out.below HK.out.low)).mono ?_
        rintro e w1 ⟨p, S, rfl, hM1⟩
        have HSB1 := toHid (HSB.out.below hM1.low)
        have HM1 := toHid hM1
        clear hM1
        go_wp2_with fail
        refine (made19 HSB1.out).mono ?_
        rintro e w2 ⟨q, T, rfl, hM2⟩
        have hEl := madeE_len l 60
        have hFl := madeE_len Bl 60
        have HTw := toHid (show Two w0 p q 60 60 (madeE l 60) (madeE Bl 60) S T w2 from ⟨below_next (below_next HK.out.low HK.out.low.size HM1.out.low) (Nat.le_trans HK.out.low.size HM1.out.low.size) hM2.low, HM1.out.gr.below hM2.low, hM2.gr, fun i hi hT => by have := HM1.out.gr.lt hi; have := hM2.new i hT; omega, fun i hi => by
          rcases hi with h1 | h1
          · exact Nat.le_trans HK.out.low.size (HM1.out.new i h1)
          · exact Nat.le_trans HK.out.low.size (Nat.le_trans HM1.out.low.size (hM2.new i h1))⟩)
        generalize madeE l 60 = E at *
        generalize madeE Bl 60 = F at *
        have hlenEF : E.length = F.length := Nat.le_antisymm (pair_nodup_le HTw.out.g1.nd fun x hx => (HSet.out x).1 hx) (pair_nodup_le HTw.out.g2.nd fun x hx => (HSet.out x).2 hx)
        have HLen := toHid hlenEF
        clear hM2 HM1 HSB1 HSB HK hlenEF
        have tok1 : True := trivial
        have tok2 : True := trivial
        have tok3 : True := trivial
        have tok4 : True := trivial
        go_wp2_with (first
          | (go_at_call 16; have _t := tok1; refine (lenI HTw.out.g1).mono ?_; rintro e w3 ⟨rfl, hw3⟩; subst w3; clear tok1)
          | (go_at_call 16; have _t := tok2; refine (lenI HTw.out.g2).mono ?_; rintro e w3 ⟨rfl, hw3⟩; subst w3; rw [← HLen.out]; clear tok2)
          | (go_at_call 21; have _t := tok3; refine (ringI HTw.out.g1 hkx (by omega)).mono ?_; rintro e w4 ⟨vd, ve, R1, rfl, hr4, hb4, hR4, hl4⟩; have HTw4 := toHid (HTw.out.below hb4); have HRw1 := toHid hr4; have HI1 := toHid hR4; clear hr4 hb4 hR4 tok3)
          | (go_at_call 21; have _t := tok4; refine (ringI HTw4.out.g2 hkx (by omega)).mono ?_; rintro e w5 ⟨vf, vg, R2, rfl, hr5, hb5, hR5, hl5⟩; obtain rfl := ring_set HSet.out HI1.out hR5; have HTw5 := toHid (HTw4.out.below hb5); have HRI1 := toHid ((RowI.of HRw1.out).below hb5); have HRI2 := toHid (RowI.of hr5); clear hr5 hb5 hR5 tok4)
          | (go_at_call 24; refine (same24 HRI1.out HRI2.out (by omega) (by omega)).mono ?_; rintro e w6 ⟨rfl, hb6⟩; rw [decide_eq_true rfl]; have HTw6 := toHid (HTw5.out.below hb6); clear hb6)
          | fail)
        clear HTw HTw4 HTw5 HRI1 HRI2 HRw1 HI1
        refine (ringI HTw6.out.g1 hkx (by omega)).mono ?_
        rintro e w7 ⟨va7, vc7, R, rfl, hr7, hb7, hR7, hl7⟩
        have HTw7 := toHid (HTw6.out.below hb7)
        have HW7 := toHid hr7
        have HI7 := toHid hR7
        obtain ⟨c0, c1⟩ := HEB.out _ HTw7.out.low
        clear hr7 hb7 hR7 HTw6
        go_wp2_with fail
        refine (addI HTw7.out.g1 hky hkz (by unfold maxLen; omega) (by omega)).mono ?_
        rintro e w8 ⟨S8, rfl, hg8, ht8, hs8⟩
        have HTw8 := toHid (HTw7.out.first hg8 ht8 hs8)
        have HW8 := toHid (row_turn HW7.out HTw7.out.g1 ht8)
        have hal8 := addE_len E (.int .i64 y, .int .i64 z)
        clear hg8 ht8 hs8 c0 c1 HTw7 HW7
        go_wp2_with fail
        refine (ringI HTw8.out.g1 hkx (by omega)).mono ?_
        rintro e w9 ⟨va9, vc9, R9, rfl, hr9, hb9, hR9, hl9⟩
        have HTw9 := toHid (HTw8.out.below hb9)
        have HW9 := toHid (row_below HW8.out hb9)
        have HRI9 := toHid (RowI.of HW9.out)
        have HRM9 := toHid (RowI.of hr9)
        have HIN9 : Hid (∀ v, v ∈ R → v ∈ R9) := fun v hv => ring_mono (fun e he => mem_addE.2 (.inl he)) HI7.out hR9 hv
        clear hr9 hb9 hR9 HTw8 HW8
        go_wp2_with fail
        go_loop [14] (fun k => ∃ i : Nat, i ≤ R.length ∧ k = .int .i64 i) (fun k => R.length - (intOf k).toNat)
        case atStart => exact ⟨0, Nat.zero_le _, rfl⟩
        case round =>
          obtain ⟨i, hi, rfl⟩ := hrel
          by_cases hlt : i < R.length
          · obtain ⟨g, rfl, hcs⟩ := HRI9.out.resolve_left (fun e => by rw [e] at hlt; simp at hlt)
            have d0 := hcs i hlt
            have HM := toHid (HIN9.out _ (List.getElem_mem hlt))
            obtain ⟨v, hv⟩ : ∃ v, R[i] = v := ⟨_, rfl⟩
            rw [hv] at d0 HM
            have hq1 : (i : Int) < (R.length : Int) := by omega
            have hq2 : 0 ≤ (i : Int) := by omega
            clear hv hcs
            go_wp2_with (first
              | (go_at_call 22; refine (has22 HRM9.out (by omega) v).mono ?_; rintro e w10 ⟨rfl, hw⟩; subst w10; rw [decide_eq_true HM.out])
              | fail)
            go_round
            case rel => exact ⟨i + 1, by omega, by simp⟩
            case measure => first | omega | (simp only [intOf]; omega)
          · obtain rfl : i = R.length := by omega
            obtain ⟨c0, c1⟩ := HEB.out _ HTw9.out.low
            go_wp2_with fail
            refine (drop13 HTw9.out.g2 hky hkz (by omega)).mono ?_
            rintro e w11 ⟨T11, rfl, hg11, ht11, hs11⟩
            have HTw11 := toHid (HTw9.out.second hg11 ht11 hs11)
            have HW11 := toHid (row_turn HW9.out HTw9.out.g2 ht11)
            have hdl : (dropE F (.int .i64 y, .int .i64 z)).length ≤ F.length := List.length_filter_le _ _
            clear hg11 ht11 hs11 c0 c1
            go_wp2_with fail
            refine (ringI HTw11.out.g2 hkx (by omega)).mono ?_
            rintro e w12 ⟨va12, vc12, R12, rfl, hr12, hb12, hR12, hl12⟩
            have HTw12 := toHid (HTw11.out.below hb12)
            have HW12 := toHid (row_below HW11.out hb12)
            have HRI12 := toHid (RowI.of HW12.out)
            have HRL12 := toHid (RowI.of hr12)
            have HIN12 : Hid (∀ v, v ∈ R12 → v ∈ R) := fun v hv => ring_mono (fun e he => (HSet.out e).2 (dropE_sub he)) hR12 HI7.out hv
            clear hr12 hb12 hR12 HTw11 HW11
            go_wp2_with fail
            go_loop [16] (fun k => ∃ i : Nat, i ≤ R12.length ∧ k = .int .i64 i) (fun k => R12.length - (intOf k).toNat)
            case atStart => exact ⟨0, Nat.zero_le _, rfl⟩
            case round =>
              obtain ⟨i, hi, rfl⟩ := hrel
              by_cases hlt2 : i < R12.length
              · obtain ⟨g, rfl, hcs⟩ := HRL12.out.resolve_left (fun e => by rw [e] at hlt2; simp at hlt2)
                have d0 := hcs i hlt2
                have HM := toHid (HIN12.out _ (List.getElem_mem hlt2))
                obtain ⟨v, hv⟩ : ∃ v, R12[i] = v := ⟨_, rfl⟩
                rw [hv] at d0 HM
                have hq1 : (i : Int) < (R12.length : Int) := by omega
                have hq2 : 0 ≤ (i : Int) := by omega
                clear hv hcs
                go_wp2_with (first
                  | (go_at_call 22; refine (has22 HRI12.out (by omega) v).mono ?_; rintro e w13 ⟨rfl, hw⟩; subst w13; rw [decide_eq_true HM.out])
                  | fail)
                go_round
                case rel => exact ⟨i + 1, by omega, by simp⟩
                case measure => first | omega | (simp only [intOf]; omega)
              · obtain rfl : i = R12.length := by omega
                go_wp2_with (first
                  | (go_at_call 18; refine (lives18 _).mono ?_; rintro e w14 ⟨rfl, hb14⟩; have HB14 := toHid (below_next (below_trans HB0.out ⟨HTw12.out.low.os, HTw12.out.low.tape, HTw12.out.low.output, HTw12.out.low.size, fun i hi => HTw12.out.low.block i (by omega)⟩) (by have := HTw12.out.low.size; omega) hb14); clear hb14)
                  | fail)
                go_ret
                exact ⟨rfl, HB14.out⟩
      · have hjl : j < l.length := by omega
        obtain ⟨b, o, rfl, c0, c1⟩ := HL.out.at_ j hjl
        have hlen : (((l.take n).drop (j + 1)).reverse).length = n - (j + 1) := by simp; omega
        have HNX : Hid (((l.take n).drop j).reverse = ((l.take n).drop (j + 1)).reverse ++ [l[j]]) := by
          show _ = _
          rw [List.drop_eq_getElem_cons (show j < (l.take n).length by simp; omega)]
          simp
        obtain ⟨e, he⟩ : ∃ e, l[j] = e := ⟨_, rfl⟩
        rw [he] at c0 c1 HNX
        obtain ⟨u, v⟩ := e
        have d0 : wr.cell? ⟨b, o + j * 2, none⟩ = some (.int .i64 u) := cell_low c0 (cell_lt c0) HK.out.low
        have d1 : wr.cell? ⟨b, o + j * 2 + 1, none⟩ = some (.int .i64 v) := cell_low c1 (cell_lt c1) HK.out.low
        clear c0 c1 he
        rw [← hlen] at HK ⊢
        generalize ((l.take n).drop (j + 1)).reverse = Bj at *
        have hq1 : (j : Int) < (l.length : Int) := by omega
        have hq2 : 0 ≤ (j : Int) := by omega
        rw [show Value.int .i64 (((j + 1 : Nat) : Int) - 1) = .int .i64 (j : Int) from by simp]
        have HRA := toHid (HK.out.row.alloc (.cells #[.int .i64 u, .int .i64 v] 27))
        go_wp2_with (first
          | (at_builtin; refine wpList_append_own _ rfl _ _ 25 rfl w0.heap.size 27 i0 _ 2 16 Try.underlying25 hi0 hz0 hz1 hz2 rfl (by decide) _ Bj.length _ rfl HRA.out ⟨wr.heap.size, 0, none⟩ 1 1 [.int .i64 u, .int .i64 v] rfl rfl (cell_two wr _ _ _) (by intro q hq; simp at hq; rcases hq with rfl | rfl <;> rfl) (by unfold maxLen; omega) (by omega) (Nat.le_trans HK.out.low.size (by simp)) ?_; intro v7 w7 hown7 hgrow7 _)
          | fail)
        obtain ⟨va7, vc7, hv7⟩ : ∃ a c, v7 = .slice a (Bj.length + 1) c := by
          rcases hown7.2 with ⟨_, h0⟩ | ⟨g, cap, cur, rfl, _⟩
          · cases h0
          · exact ⟨_, _, rfl⟩
        subst hv7
        have HK7 := toHid (show Bk w0 (Bj ++ [(u, v)]) (.slice va7 (Bj.length + 1) vc7) w7 from ⟨((HK.out.low).alloc HK.out.low.size _).grown hgrow7 (Nat.le_trans HK.out.low.size (by simp)) (fun i hi => (HK.out.row.lt i hi).1), by simpa [eC] using hown7⟩)
        go_roundw
        case rel => exact ⟨j, va7, vc7, by omega, rfl, by rw [show n - j = Bj.length + 1 by omega], by rw [HNX.out]; exact HK7⟩
        case measure => simp only [intOf]; omega

end Go.Proofs.Ytoihjkpjijncdaa
