/-
  TableLocks: the walk.
-/
import Derived.Test.YtebchgoaelamcaaDoorHe
import Derived.Test.YtebchgoaelamcaaDoorAg
import Derived.Test.YtebchgoaelamcaaDoorWHo
namespace Go.Proofs.YtebchgoaelamcaaDoor
open Go.RowKit
set_option maxRecDepth 100000

theorem take_any {α : Type} (l : List α) (f : α → Bool) (k : Nat) (h : k < l.length) : (l.take (k + 1)).any f = ((l.take k).any f || f l[k]) := by
  rw [List.take_succ_eq_append_getElem h, List.any_append]
  simp only [List.any_cons, List.any_nil, Bool.or_false]

set_option maxHeartbeats 8000000 in
theorem locks_walk (o p : As) (hk0 : o.key.length ≤ 9223372036854775807) (hk1 : p.key.length ≤ 9223372036854775807) (n : Int) (h0 : -9223372036854775808 ≤ n) (h1 : n ≤ 9223372036854775807) (w : World) (ht : Tb w) :
    Calls Tryd.prog 8 #[.agg (askC o), .agg (askC p), .int .i64 n] w fun e w' => e = .returned (.bool true) ∧ Below w.heap.size w w' := by
  obtain ⟨k, key, val⟩ := o
  obtain ⟨j, key', val'⟩ := p
  simp only at hk0 hk1
  have hB0 := ((Below.refl w.heap.size w).alloc (Nat.le_refl _) (.cells (askC ⟨k, key, val⟩) 23)).alloc (by have := size_alloc w (.cells (askC ⟨k, key, val⟩) 23); omega) (.cells (askC ⟨j, key', val'⟩) 23)
  have hn := heap_alloc_new (w.alloc (.cells (askC ⟨k, key, val⟩) 23)) (.cells (askC ⟨j, key', val'⟩) 23)
  have hz : (w.alloc (.cells (askC ⟨k, key, val⟩) 23)).heap.size = w.heap.size + 1 := by rw [World.alloc, Array.size_push]
  have hm : ((w.alloc (.cells (askC ⟨k, key, val⟩) 23)).alloc (.cells (askC ⟨j, key', val'⟩) 23)).heap[w.heap.size]? = some (.cells (askC ⟨k, key, val⟩) 23) := by rw [Below.heap_alloc _ _ _ (by omega)]; exact heap_alloc_new _ _
  rw [hz] at hn
  have HS : Hid (∀ W, Below (w.heap.size + 2) ((w.alloc (.cells (askC ⟨k, key, val⟩) 23)).alloc (.cells (askC ⟨j, key', val'⟩) 23)) W → w.heap.size + 2 ≤ W.heap.size ∧ Tb W ∧ (W.cell? ⟨w.heap.size, 0, none⟩ = some (.int .i64 k) ∧ W.cell? ⟨w.heap.size, 1, none⟩ = some (.string (txt key)) ∧ W.cell? ⟨w.heap.size, 2, none⟩ = some (.string (txt val))) ∧ (W.cell? ⟨w.heap.size + 1, 0, none⟩ = some (.int .i64 j) ∧ W.cell? ⟨w.heap.size + 1, 1, none⟩ = some (.string (txt key')) ∧ W.cell? ⟨w.heap.size + 1, 2, none⟩ = some (.string (txt val'))) ∧ Below w.heap.size w W) := fun W hW => by
    have e := hW.block w.heap.size (by omega)
    rw [hm] at e
    have e' := hW.block (w.heap.size + 1) (by omega)
    rw [hn] at e'
    exact ⟨by have := hW.size; rw [World.alloc, Array.size_push, hz] at this; omega, (ht.below hB0).below (hW.mono (by rw [World.alloc, Array.size_push, hz]; omega)), ⟨cell_of e 0 rfl, cell_of e 1 rfl, cell_of e 2 rfl⟩, ⟨cell_of e' 0 rfl, cell_of e' 1 rfl, cell_of e' 2 rfl⟩, hB0.trans (hW.mono (by omega))⟩
  have B0 := toHid (Below.refl (w.heap.size + 2) ((w.alloc (.cells (askC ⟨k, key, val⟩) 23)).alloc (.cells (askC ⟨j, key', val'⟩) 23)))
  clear hB0 hn hm ht
  have HZ := toHid hz
  clear hz
  simp only [askC] at *
  generalize hw0 : (w.alloc (.cells #[.int .i64 k, .string (txt key), .string (txt val)] 23)).alloc (.cells #[.int .i64 j, .string (txt key'), .string (txt val')] 23) = w0 at HS B0
  obtain ⟨_, T0, ⟨c0, c1, c2⟩, ⟨d0, d1, d2⟩, _⟩ := HS.out _ B0.out
  go_enter Tryd.func8, Tryd.ntmps8
  go_wp2_with fail
  clear hw0 HZ
  have R16a : Hid (∀ W, Tb W → Calls Tryd.prog 16 #[.int .i64 k, .string (txt key), .int .i64 n] W fun e w' => ∃ a, e = .returned (.slice a (wantsL k key n).length (wantsL k key n).length) ∧ SlW w' a (wantsL k key n) ∧ Below W.heap.size W w') := fun W h => wants_any k key hk0 n h0 h1 W h
  have R16b : Hid (∀ W, Tb W → Calls Tryd.prog 16 #[.int .i64 j, .string (txt key'), .int .i64 n] W fun e w' => ∃ a, e = .returned (.slice a (wantsL j key' n).length (wantsL j key' n).length) ∧ SlW w' a (wantsL j key' n) ∧ Below W.heap.size W w') := fun W h => wants_any j key' hk1 n h0 h1 W h
  have HY : Hid (wrt k = true → (j = 6 ∨ (wrt j = true ∨ j = 2) ∧ key = key') → meetL (wantsL k key n) (wantsL j key' n) = true) := fun a b => meet_yes a b
  have HN : Hid (wrt k = false → wrt j = false → meetL (wantsL k key n) (wantsL j key' n) = false) := fun a b => meet_no a b
  have HL : Hid (∀ W, Below (w.heap.size + 2) w0 W → Calls Tryd.prog 10 #[] W fun e w' => e = .returned (.bool true) ∧ Below w.heap.size w w') := fun W hW => by
    refine Calls.mono (lives_any W (HS.out W hW).2.1) ?_
    rintro e w' ⟨rfl, b⟩
    exact ⟨rfl, (HS.out W hW).2.2.2.2.trans (b.mono (by have := (HS.out W hW).1; omega))⟩
  have HLx := toHid (wants_le k key n)
  have HLy := toHid (wants_le j key' n)
  have HMx := toHid (wants_modes k key n)
  have HMy := toHid (wants_modes j key' n)
  generalize wantsL k key n = x at *
  generalize wantsL j key' n = y at *
  clear hk0 hk1 h0 h1
  refine Calls.mono (short_any k key val _) ?_
  rintro e w1 ⟨x1, rfl, b1⟩
  have B1 := toHid (B0.out.trans (b1.mono (HS.out _ B0.out).1))
  clear b1 c0 c1 c2 d0 d1 d2 B0 T0
  obtain ⟨_, T1, ⟨c0, c1, c2⟩, ⟨d0, d1, d2⟩, _⟩ := HS.out _ B1.out
  cases x1
  case false =>
    go_wp2_with fail
    refine Calls.mono (HL.out _ B1.out) ?_
    rintro e w2 ⟨rfl, b2⟩
    have B2 := toHid b2
    clear b2
    go_wp2_with fail
    go_ret
    exact ⟨rfl, B2.out⟩
  case true =>
  go_wp2_with fail
  refine Calls.mono (short_any j key' val' _) ?_
  rintro e w2 ⟨x2, rfl, b2⟩
  have B2 := toHid (B1.out.trans (b2.mono (HS.out _ B1.out).1))
  clear b2 c0 c1 c2 d0 d1 d2 B1 T1
  obtain ⟨_, T2, ⟨c0, c1, c2⟩, ⟨d0, d1, d2⟩, _⟩ := HS.out _ B2.out
  cases x2
  case false =>
    go_wp2_with fail
    refine Calls.mono (HL.out _ B2.out) ?_
    rintro e w3 ⟨rfl, b3⟩
    have B3 := toHid b3
    clear b3
    go_wp2_with fail
    go_ret
    exact ⟨rfl, B3.out⟩
  case true =>
  by_cases hn : n < 1
  · go_wp2_with fail
    refine Calls.mono (HL.out _ B2.out) ?_
    rintro e w3 ⟨rfl, b3⟩
    have B3 := toHid b3
    clear b3
    go_wp2_with fail
    go_ret
    exact ⟨rfl, B3.out⟩
  · have Bd := toHid (B2.out.trans (Below.refl _ _).drew)
    obtain ⟨_, Td, ⟨e0, e1, e2⟩, ⟨f0, f1, f2⟩, _⟩ := HS.out _ Bd.out
    go_wp2_with fail
    go_region_held3 (fun W => W.cell? ⟨w.heap.size, 0, none⟩ = some (.int .i64 k) ∧ W.cell? ⟨w.heap.size, 1, none⟩ = some (.string (txt key)) ∧ W.cell? ⟨w.heap.size + 1, 0, none⟩ = some (.int .i64 j) ∧ W.cell? ⟨w.heap.size + 1, 1, none⟩ = some (.string (txt key'))) (with_reducible exact ⟨by assumption, by assumption, by assumption, by assumption⟩) ((first
      | (go_at_call 16; with_reducible refine Calls.mono (R16a.out _ Td) ?_; rintro e wa ⟨a1, rfl, s1, ba⟩; have Ba := toHid (Bd.out.trans (ba.mono (HS.out _ Bd.out).1)); have S1 := toHid s1; clear s1 ba; obtain ⟨_, Ta, ⟨g0, g1, g2⟩, ⟨i0, i1, i2⟩, _⟩ := HS.out _ Ba.out)
      | (go_at_call 16; with_reducible refine Calls.mono (R16b.out _ Ta) ?_; rintro e wb ⟨a2, rfl, s2, bb⟩; have Bb := toHid (Ba.out.trans (bb.mono (HS.out _ Ba.out).1)); replace S1 := toHid (S1.out.below bb); have S2 := toHid s2; clear s2 bb; obtain ⟨_, Tb2, ⟨j0, j1, j2⟩, ⟨k0, k1, k2⟩, _⟩ := HS.out _ Bb.out)))
    clear c0 c1 c2 d0 d1 d2 e0 e1 e2 f0 f1 f2 g0 g1 g2 i0 i1 i2 Bd Ba B2 R16a R16b Td Ta T2 j0 j1 j2 k0 k1 k2
    go_wp2_with fail
    go_loopw [9, 10] (fun m i wr => ∃ a : Nat, a ≤ x.length ∧ i = .int .i64 a ∧ m = .bool ((x.take a).any fun p => y.any (mt1 p)) ∧ ∃ q, wr = wb.drewN q) (fun _ i _ => x.length - (intOf i).toNat)
    case atStart => exact ⟨0, Nat.zero_le _, rfl, rfl, 0, rfl⟩
    case round =>
      obtain ⟨a, ha, rfl, rfl, q, rfl⟩ := hrel
      have hx2 := HLx.out
      by_cases hlt : a < x.length
      · have HT := toHid (take_any x (fun p => y.any (mt1 p)) a hlt)
        generalize (x.take a).any (fun p => y.any (mt1 p)) = m0 at *
        obtain ⟨g, rfl, _, c0, c1⟩ := S1.out.get a hlt
        have hma := HMx.out _ (List.getElem_mem hlt)
        have HX1 : Hid (x[a] = (x[a].1, x[a].2)) := rfl
        generalize hxa : x[a] = xa at *
        obtain ⟨nx, mx⟩ := xa
        simp only at c0 c1 hma
        go_wp2_with fail
        go_loopw [9, 11] (fun m i wr => ∃ b : Nat, b ≤ y.length ∧ i = .int .i64 b ∧ m = .bool (m0 || (y.take b).any (mt1 (nx, mx))) ∧ ∃ q, wr = wb.drewN q) (fun _ i _ => y.length - (intOf i).toNat)
        case atStart => exact ⟨0, Nat.zero_le _, rfl, by simp, q, rfl⟩
        case round =>
          obtain ⟨b, hb, rfl, rfl, q', rfl⟩ := hrel
          have hy2 := HLy.out
          by_cases hlt2 : b < y.length
          · have HT2 := toHid (take_any y (mt1 (nx, mx)) b hlt2)
            have HM1 : Hid ((m0 || (y.take (b + 1)).any (mt1 (nx, mx))) = ((m0 || (y.take b).any (mt1 (nx, mx))) || mt1 (nx, mx) y[b])) := by
              unfold Hid
              rw [HT2.out, Bool.or_assoc]
            generalize (m0 || (y.take b).any (mt1 (nx, mx))) = m1 at *
            obtain ⟨g', rfl, _, d0, d1⟩ := S2.out.get b hlt2
            have hmb := HMy.out _ (List.getElem_mem hlt2)
            generalize hyb : y[b] = yb at *
            obtain ⟨ny, my⟩ := yb
            simp only at d0 d1 hmb
            have BR : Hid (∀ W, Calls Tryd.prog 32 #[.int .i64 mx, .int .i64 my] W fun e w' => e = .returned (.bool (bsI mx my)) ∧ w' = W) := fun W => beside_any mx my hma hmb W
            cases m1
            case true =>
              have HF : Hid ((m0 || (y.take (b + 1)).any (mt1 (nx, mx))) = true) := by rw [HM1.out]; rfl
              go_wp2_with fail
              go_quiet (fail)
              go_wp2_with fail
              go_roundw
              case rel => first | exact ⟨b + 1, by omega, by simp, by rw [HF.out], _, rfl⟩ | exact ⟨b + 1, by omega, by simp, by rw [HF.out], _, World.drewN_drewN _ _ _⟩
              case measure => first | omega | (simp only [intOf]; omega)
            case false =>
              by_cases hq : nx = ny
              · subst hq
                have hqq : ((txt nx).toList == (txt nx).toList) = true := by simp
                have HF : Hid ((m0 || (y.take (b + 1)).any (mt1 (nx, mx))) = !bsI mx my) := by rw [HM1.out]; simp [mt1, Hid]
                go_wp2_with fail
                go_region_held3 (fun W => W.cell? ⟨g, a * 2, none⟩ = some (.string (txt nx)) ∧ W.cell? ⟨g, a * 2 + 1, none⟩ = some (.int .i64 mx) ∧ W.cell? ⟨g', b * 2, none⟩ = some (.string (txt nx)) ∧ W.cell? ⟨g', b * 2 + 1, none⟩ = some (.int .i64 my)) (exact ⟨c0, c1, d0, d1⟩) ((go_at_call 32; refine Calls.mono (BR.out _) ?_; rintro e wq ⟨rfl, rfl⟩))
                go_wp2_with fail
                go_roundw
                case rel => first | exact ⟨b + 1, by omega, by simp, by rw [HF.out], _, rfl⟩ | exact ⟨b + 1, by omega, by simp, by rw [HF.out], _, World.drewN_drewN _ _ _⟩
                case measure => first | omega | (simp only [intOf]; omega)
              · have hqq : ((txt nx).toList == (txt ny).toList) = false := by simp [txt_toList, hq]
                have HF : Hid ((m0 || (y.take (b + 1)).any (mt1 (nx, mx))) = false) := by rw [HM1.out]; simp [mt1, hq, Hid]
                go_wp2_with fail
                go_quiet (fail)
                go_wp2_with fail
                go_roundw
                case rel => first | exact ⟨b + 1, by omega, by simp, by rw [HF.out], _, rfl⟩ | exact ⟨b + 1, by omega, by simp, by rw [HF.out], _, World.drewN_drewN _ _ _⟩
                case measure => first | omega | (simp only [intOf]; omega)
          · have e : b = y.length := by omega
            subst e
            rw [List.take_length]
            go_wp2_with fail
            go_roundw
            case rel => exact ⟨a + 1, by omega, by simp, by rw [HT.out], _, rfl⟩
            case measure => first | omega | (simp only [intOf]; omega)
      · have e : a = x.length := by omega
        subst e
        rw [List.take_length]
        have HYm : Hid (wrt k = true → (j = 6 ∨ (wrt j = true ∨ j = 2) ∧ key = key') → x.any (fun p => y.any (mt1 p)) = true) := HY.out
        have HNm : Hid (wrt k = false → wrt j = false → x.any (fun p => y.any (mt1 p)) = false) := HN.out
        generalize x.any (fun p => y.any (mt1 p)) = m at *
        have Bq := toHid (Bb.out.trans (show Below _ _ (wb.drewN q) from ⟨rfl, rfl, rfl, Nat.le_refl _, fun _ _ => rfl⟩))
        have Bq' := toHid (Bb.out.trans (show Below _ _ (wb.drewN (q + 1)) from ⟨rfl, rfl, rfl, Nat.le_refl _, fun _ _ => rfl⟩))
        obtain ⟨_, Tq, ⟨c0, c1, c2⟩, ⟨d0, d1, d2⟩, _⟩ := HS.out _ Bq.out
        obtain ⟨_, Tq', ⟨e0, e1, e2⟩, ⟨f0, f1, f2⟩, _⟩ := HS.out _ Bq'.out
        go_wp2_with fail
        go_region_held3 (fun W => W.cell? ⟨w.heap.size, 0, none⟩ = some (.int .i64 k) ∧ W.cell? ⟨w.heap.size + 1, 0, none⟩ = some (.int .i64 j)) (exact ⟨c0, d0⟩) ((go_at_call 33; refine Calls.mono (writes_any k _) ?_; rintro e wq ⟨rfl, rfl⟩))
        have WJ : Hid (∀ W, Calls Tryd.prog 33 #[.int .i64 j] W fun e w' => e = .returned (.bool (wrt j)) ∧ w' = W) := fun W => writes_any j W
        cases hk : wrt k
        · go_wp2_with fail
          refine Calls.mono (WJ.out _) ?_
          rintro e wq ⟨rfl, rfl⟩
          cases hj : wrt j
          · have hm := HNm.out hk hj
            subst hm
            go_wp2_with fail
            refine Calls.mono (HL.out _ Bq'.out) ?_
            rintro e wz ⟨rfl, bz⟩
            have BZ := toHid bz
            clear bz
            go_wp2_with fail
            go_ret
            exact ⟨rfl, BZ.out⟩
          · go_wp2_with fail
            refine Calls.mono (HL.out _ Bq'.out) ?_
            rintro e wz ⟨rfl, bz⟩
            have BZ := toHid bz
            clear bz
            go_wp2_with fail
            go_ret
            exact ⟨rfl, BZ.out⟩
        · by_cases h6 : j = 6
          · have hm := HYm.out hk (.inl h6)
            subst hm
            subst h6
            go_wp2_with fail
            refine Calls.mono (HL.out _ Bq'.out) ?_
            rintro e wz ⟨rfl, bz⟩
            have BZ := toHid bz
            clear bz
            go_wp2_with fail
            go_ret
            exact ⟨rfl, BZ.out⟩
          · go_wp2_with fail
            refine Calls.mono (WJ.out _) ?_
            rintro e wq ⟨rfl, rfl⟩
            by_cases hq : key = key'
            · subst hq
              have hqq : ((txt key).toList == (txt key).toList) = true := by simp
              cases hj : wrt j
              · by_cases h2 : j = 2
                · have hm := HYm.out hk (.inr ⟨.inr h2, rfl⟩)
                  subst hm
                  subst h2
                  go_wp2_with fail
                  refine Calls.mono (HL.out _ Bq'.out) ?_
                  rintro e wz ⟨rfl, bz⟩
                  have BZ := toHid bz
                  clear bz
                  go_wp2_with fail
                  go_ret
                  exact ⟨rfl, BZ.out⟩
                · go_wp2_with fail
                  refine Calls.mono (HL.out _ Bq'.out) ?_
                  rintro e wz ⟨rfl, bz⟩
                  have BZ := toHid bz
                  clear bz
                  go_wp2_with fail
                  go_ret
                  exact ⟨rfl, BZ.out⟩
              · have hm := HYm.out hk (.inr ⟨.inl hj, rfl⟩)
                subst hm
                go_wp2_with fail
                refine Calls.mono (HL.out _ Bq'.out) ?_
                rintro e wz ⟨rfl, bz⟩
                have BZ := toHid bz
                clear bz
                go_wp2_with fail
                go_ret
                exact ⟨rfl, BZ.out⟩
            · have hqq : ((txt key).toList == (txt key').toList) = false := by simp [txt_toList, hq]
              cases hj : wrt j
              · by_cases h2 : j = 2
                · subst h2
                  go_wp2_with fail
                  refine Calls.mono (HL.out _ Bq'.out) ?_
                  rintro e wz ⟨rfl, bz⟩
                  have BZ := toHid bz
                  clear bz
                  go_wp2_with fail
                  go_ret
                  exact ⟨rfl, BZ.out⟩
                · go_wp2_with fail
                  refine Calls.mono (HL.out _ Bq'.out) ?_
                  rintro e wz ⟨rfl, bz⟩
                  have BZ := toHid bz
                  clear bz
                  go_wp2_with fail
                  go_ret
                  exact ⟨rfl, BZ.out⟩
              · go_wp2_with fail
                refine Calls.mono (HL.out _ Bq'.out) ?_
                rintro e wz ⟨rfl, bz⟩
                have BZ := toHid bz
                clear bz
                go_wp2_with fail
                go_ret
                exact ⟨rfl, BZ.out⟩
end Go.Proofs.YtebchgoaelamcaaDoor
