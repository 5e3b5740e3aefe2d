/-
  against (77): the walk.
-/
import Derived.Test.YtclppfljengnbaaGreatAg
namespace Go.Proofs.YtclppfljengnbaaGreat
open Go.RowKit Go.Maps Go.Sort Go.Shelf

set_option maxRecDepth 100000 in
set_option maxHeartbeats 4000000 in
theorem against49 {KT KN : List Lit} {w : World} {σ : Sg} {n : Name} {b z : Nat} (h : Mem KT KN w σ) (hb : σ.lb n = some b) (hz : IsW (σ.own z)) (hm : (σ.nd z).m < 6) (hh : (σ.nd z).had < 6) :
    Calls Tryz.prog 59 #[.pointer (some ⟨b, 0, none⟩), .pointer (some ⟨z, 0, none⟩)] w fun e w' => ∃ va c L, e = .returned (.slice va (List.length L) c) ∧ w'.ownsRow w.heap.size 3 1 (.slice va (List.length L) c) (List.length L) (L.map (Value.int .i64)) ∧ Below w.heap.size w w' ∧ L.length ≤ 6000 ∧ ∀ t, t ∈ L ↔ t ≠ (σ.nd z).t ∧ ∃ m, m < 6 ∧ σ.lh n m t = true ∧ besB m (joinN (σ.nd z).had (σ.nd z).m) = false := by
  have hl := h.hL n b hb
  obtain ⟨c0', c1, c2, c3, c4, c5, c6, c7', c8'⟩ := hl.cells
  clear c0' c7' c8'
  have hwz := h.hW z hz
  have hzlt := lt_of_heap hwz
  have HMp := toHid (show ∀ m, MapO Tryz.prog 3 w (σ.lm n m) KT (lhF (σ.lh n m)) from hl.maps)
  have HB := toHid (show ∀ m c, σ.lm n m = some c → c < w.heap.size from fun m c hc => h.lt c (by rw [hl.tagm m c hc]; simp))
  have HZ := toHid hwz
  have HKT := toHid h.kt
  clear hwz hl h hb hz
  generalize σ.nd z = x at *
  generalize σ.lm n = lm at *
  generalize σ.lh n = lh at *
  generalize σ.ah z = ax at *
  generalize σ.bh z = bx at *
  obtain ⟨xt, xn, xm, xh⟩ := x
  simp only at *
  have hidx := idx93 lm
  obtain ⟨i0, hi0, hz0, hz1, hz2⟩ := info_parts info3
  go_enter Tryz.func59, Tryz.ntmps59
  go_wp2_with fail
  go_loopw [5, 13] (fun v k W => ∃ (i : Nat) (va : Option Addr) (c : Nat) (L : List Int), i ≤ 6 ∧ k = .int .i64 i ∧ v = .slice va L.length c ∧ Hid (AgI w lh xt (joinN xh xm) i va c L W)) (fun _ k _ => 6 - (intOf k).toNat)
  case atStart => exact ⟨0, none, 0, [], by omega, rfl, rfl, toHid ⟨World.ownsRow_nil _ _ _ _, Below.refl _ _, by simp, fun t => by simp⟩⟩
  case round =>
    rename World => W1
    obtain ⟨i, va, c, L, hi, rfl, rfl, I⟩ := hrel
    have hq0 : 0 ≤ (i : Int) := by omega
    by_cases hlt : i < 6
    · have hq1 : (i : Int) < 6 := by omega
      have hidx1 := hidx i hlt W1
      have HZr := toHid (show WaitOk W1 z ⟨xt, xn, xm, xh⟩ ax bx from (I.out.bel.block z hzlt).trans HZ.out)
      have hbes := fun W => beside_any ((i : Nat) : Int) ((joinN xh xm : Nat) : Int) W
      rw [cnt_nat hlt, cnt_nat (joinN_lt _ _ hh hm)] at hbes
      have hwd := would61 HZr.out hm hh
      simp only at hwd
      clear hidx HZr
      rcases Bool.eq_false_or_eq_true (besB i (joinN xh xm)) with hbb | hbb
      · rw [hbb] at hbes
        have HX := toHid (fun W3 (hW : Below W1.heap.size W1 W3) => I.out.skip hW (fun t e => by rw [hbb] at e; cases e.2))
        clear hbb
        go_wp2_with (first
          | (go_at_call 85; refine hwd.mono ?_; rintro e w2 ⟨rfl, hb2⟩; have HW2 := toHid hb2; clear hb2)
          | (go_at_call 84; refine (hbes _).mono ?_; rintro e w3 ⟨rfl, hb3⟩; have HW3 := toHid (bnext HW2.out hb3); clear hb3))
        go_roundw
        case rel => exact ⟨i + 1, va, c, L, by omega, by simp, rfl, toHid (HX.out _ HW3.out)⟩
        case measure => first | omega | (simp only [intOf]; omega)
      · rw [hbb] at hbes
        have HBB := toHid hbb
        have HMi := toHid (HMp.out i)
        have HBi := toHid (HB.out i)
        clear hbb
        cases hlm : lm i with
        | none =>
          rw [hlm] at hidx1 HMi
          have hrn := fun W => run_range_nilMap (P := Tryz.prog) W 123 3 _ Tryz.underlying123
          have hnn := fun W ty a b s => run_next_nilMap (P := Tryz.prog) W ty a b s
          have HX := toHid (fun W3 (hW : Below W1.heap.size W1 W3) => I.out.skip hW (fun t e => by rw [lhF_none HMi.out t] at e; cases e.1))
          clear hlm
          go_wp2_with (first
            | (go_at_call 85; refine hwd.mono ?_; rintro e w2 ⟨rfl, hb2⟩; have HW2 := toHid hb2; clear hb2)
            | (go_at_call 84; refine (hbes _).mono ?_; rintro e w3 ⟨rfl, hb3⟩; have HW3 := toHid (bnext HW2.out hb3); clear hb3))
          have HW4 := toHid (show Below W1.heap.size W1 (w3.alloc (.mapIter none 0 #[] 0)) from bnext HW3.out ((Below.refl _ _).alloc (Nat.le_refl _) _))
          go_loopw [5] (fun v W => v = .slice va L.length c ∧ W = w3.alloc (.mapIter none 0 #[] 0)) (fun _ _ => 0)
          case atStart => exact ⟨rfl, rfl⟩
          case round =>
            obtain ⟨rfl, rfl⟩ := hrel
            have hn1 := fun ty => hnn w3 ty 0 0 #[]
            go_wp2_with fail
            go_roundw
            case rel => exact ⟨i + 1, va, c, L, by omega, by simp, rfl, toHid (HX.out _ HW4.out)⟩
            case measure => first | omega | (simp only [intOf]; omega)
        | some A =>
          rw [hlm] at hidx1 HMi
          have HA := toHid (HBi.out A hlm)
          have HRg := toHid (fun W3 (hW : Below W1.heap.size W1 W3) => MapV.range (t := 123) (show MapV Tryz.prog 3 W3 A KT (lhF (lh i)) from MapV.at HMi.out ((bnext I.out.bel hW).block A HA.out)) lawI Tryz.underlying123)
          clear hlm
          go_wp2_with (first
            | (go_at_call 85; refine hwd.mono ?_; rintro e w2 ⟨rfl, hb2⟩; have HW2 := toHid hb2; clear hb2)
            | (go_at_call 84; refine (hbes _).mono ?_; rintro e w3 ⟨rfl, hb3⟩; have HW3 := toHid (bnext HW2.out hb3); clear hb3; obtain ⟨w4, cnt, r1, r2, r3, r4⟩ := HRg.out _ HW3.out; have R2 := toHid r2; have R3 := toHid r3; clear r2 r3 r4))
          try go_frame
          obtain ⟨r, hr⟩ : ∃ r, w3.heap.size = r := ⟨_, rfl⟩
          have HN0 := toHid (show AgN KT w (lh i) xt L A r (fun x => (lhF (lh i) x).isSome) cnt va c L w4 from by
            have hb4 : Below w3.heap.size w3 w4 := ⟨R3.out.os, R3.out.tape, R3.out.output, R3.out.size, fun i hi => R3.out.block i hi (by simp)⟩
            have I4 := I.out.below (bnext HW3.out hb4)
            have s3 := (bnext I.out.bel HW3.out).size
            refine ⟨by rw [← hr]; exact R2.out, I4.row, I4.bel, by omega, [], by simp, List.nodup_nil, fun t => ?_⟩
            simp only [List.not_mem_nil, false_iff]
            rintro ⟨_, e1, e2⟩
            simp [lhF, e1] at e2)
          rw [hr]
          clear hr r1 R2 R3 HRg
          go_loopw [5] (fun v W => ∃ (va' : Option Addr) (c' : Nat) (L' : List Int) (left : Lit → Bool) (cnt : Nat), v = .slice va' L'.length c' ∧ Hid (AgN KT w (lh i) xt L A r left cnt va' c' L' W)) (fun _ W => W.rangeLeft A r)
          case atStart => exact ⟨va, c, L, _, cnt, rfl, HN0⟩
          case round =>
            rename World => W5
            obtain ⟨va', c', L', left, cnt', rfl, N⟩ := hrel
            have HLn : L'.length ≤ 7000 := by
              obtain ⟨ns, e, h1, _⟩ := N.out.ns_few
              have := I.out.few
              have := HKT.out
              rw [e, List.length_append]
              omega
            go_wp2_with (first
              | (at_next; refine wpList_next_v _ rfl _ rfl lawI rfl N.out.rng ?_ ?_)
              | fail)
            · intro hc0 hl0
              have HX := toHid (show AgI w lh xt (joinN xh xm) (i + 1) va' c' L' W5 from by
                obtain ⟨ns, e, h1, h2⟩ := N.out.ns_few
                have hrow := N.out.row
                subst e
                refine I.out.more N.out.bel hrow (Nat.le_trans h1 HKT.out) (fun t => ?_)
                rw [h2, hl0]
                simp [HBB.out])
              go_wp2_with fail
              go_roundw
              case rel => exact ⟨i + 1, va', c', L', by omega, by simp, rfl, HX⟩
              case measure => first | omega | (simp only [intOf]; omega)
            · intro key v kl w4 cnt4 hk hlk hfv hrg4 hlt4 hg4 hs4 hen
              obtain ⟨t, rfl, hgt⟩ := lhF_some (show lhF (lh i) kl ≠ none from by rw [hfv]; simp)
              obtain rfl := keyI_inv hk
              have R4 := toHid hrg4
              have G4 := toHid hg4
              have HZr := toHid (show WaitOk w4 z ⟨xt, xn, xm, xh⟩ ax bx from ((N.out.next4 hg4).2.block z hzlt).trans HZ.out)
              obtain ⟨z0, _⟩ := HZr.out.cells
              have hw4 := (N.out.next4 hg4).2.size
              have HM4 := toHid (show w4.rangeLeft A r < W5.rangeLeft A r from by rw [hrg4.left_eq, N.out.rng.left_eq]; exact hlt4)
              have O4 := toHid (N.out.next4 hg4).1
              clear hrg4 hg4 hfv hs4
              by_cases htx : t = xt
              · subst htx
                have HX := toHid (N.out.skip G4.out R4.out)
                go_wp2_with fail
                go_roundw
                case rel => exact ⟨va', c', L', _, cnt4, rfl, HX⟩
                case measure => exact HM4.out
              · have HTX := toHid htx
                have hn2 : ¬ (t == xt) = true := by simp [htx]
                have hn3 : (t == xt) = false := by simp [htx]
                go_wp2_with (first
                  | (at_builtin; refine wpList_append_own _ rfl _ _ 44 rfl w.heap.size 3 i0 _ 1 8 Tryz.underlying44 hi0 hz0 hz1 hz2 rfl (by decide) _ L'.length _ rfl (O4.out.alloc _) ⟨w4.heap.size, 0, none⟩ 1 1 [.int .i64 t] rfl rfl (cell_one w4 _ _) (by intro u hu; simp at hu; subst hu; rfl) (by unfold maxLen; omega) (by omega) (by simp; omega) ?_; intro v7 w7 hown7 hgrow7 _)
                  | fail)
                have HO7 := toHid hown7
                have HG7 := toHid hgrow7
                obtain ⟨va7, vc7, hv7⟩ : ∃ a c, v7 = .slice a (L'.length + 1) c := by
                  rcases hown7.2 with ⟨_, h0⟩ | ⟨g, cap, cur, rfl, _⟩
                  · cases h0
                  · exact ⟨_, _, rfl⟩
                subst hv7
                clear hown7 hgrow7
                have HX := toHid (N.out.app (va7 := va7) (c7 := vc7) G4.out R4.out hlk hgt HTX.out HO7.out HG7.out)
                have HM7 := toHid (show w7.rangeLeft A r < W5.rangeLeft A r from by rw [HX.out.rng.left_eq, N.out.rng.left_eq]; exact hlt4)
                go_roundw
                case rel => exact ⟨va7, vc7, L' ++ [t], _, cnt4, by simp, HX⟩
                case measure => exact HM7.out
    · obtain rfl : i = 6 := by omega
      go_wp2_with fail
      go_ret
      exact ⟨va, c, L, rfl, I.out.row, I.out.bel, by have := I.out.few; omega, I.out.mem⟩

end Go.Proofs.YtclppfljengnbaaGreat
