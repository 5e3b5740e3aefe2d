/-
  The document's slots with one of them put: the walk.
-/
import Derived.Test.YtebchgoaelamcaaDoorRx
namespace Go.Proofs.YtebchgoaelamcaaDoor
open Go.RowKit
set_option maxRecDepth 100000

theorem SlC.take {w : World} {a : Option Addr} {l : List Cl} (h : SlC w a l) (k : Nat) : SlC w a (l.take k) :=
  ⟨fun e => by rw [h.nonil e]; simp, fun x hx i t ht => h.cells x hx i t (by
    rw [List.getElem?_take] at ht
    split at ht
    · exact ht
    · cases ht)⟩

theorem trim_take (l : List Cl) : trimL l = l.take (trimL l).length := by
  obtain ⟨p, hp, _⟩ := trimL_prefix l
  have := congrArg (List.take (trimL l).length) hp
  rw [List.take_left' rfl] at this
  exact this.symm

def slLen : Value → Nat
  | .slice _ n _ => n
  | _ => 0

theorem with_end {w W0 wX : World} {n : Nat} {xa : Option Addr} {xc : Nat} {L : List Cl} (id : Int) (lsn k : Nat) (_h0 : Below (n + 3) W0 wX) (hB : Below n w wX) (hm : wX.heap[n + 2]? = some (.cells #[.int .i64 0, .int .u64 0, .slice none 0 0] 39)) (ho : wX.ownsRow (n + 3) 55 3 (.slice xa L.length xc) L.length (cellsV L)) :
    (((wX.setCell ⟨n + 2, 0, none⟩ (.int .i64 id)).setCell ⟨n + 2, 1, none⟩ (.int .u64 (lsn : Int))).setCell ⟨n + 2, 2, none⟩ (.slice xa k xc)).cell? ⟨n + 2, 0, none⟩ = some (.int .i64 id) ∧
    (((wX.setCell ⟨n + 2, 0, none⟩ (.int .i64 id)).setCell ⟨n + 2, 1, none⟩ (.int .u64 (lsn : Int))).setCell ⟨n + 2, 2, none⟩ (.slice xa k xc)).cell? ⟨n + 2, 1, none⟩ = some (.int .u64 (lsn : Int)) ∧
    (((wX.setCell ⟨n + 2, 0, none⟩ (.int .i64 id)).setCell ⟨n + 2, 1, none⟩ (.int .u64 (lsn : Int))).setCell ⟨n + 2, 2, none⟩ (.slice xa k xc)).cell? ⟨n + 2, 2, none⟩ = some (.slice xa k xc) ∧
    SlC (((wX.setCell ⟨n + 2, 0, none⟩ (.int .i64 id)).setCell ⟨n + 2, 1, none⟩ (.int .u64 (lsn : Int))).setCell ⟨n + 2, 2, none⟩ (.slice xa k xc)) xa (L.take k) ∧
    (∀ y, xa = some y → n ≤ y.block) ∧ Below n w (((wX.setCell ⟨n + 2, 0, none⟩ (.int .i64 id)).setCell ⟨n + 2, 1, none⟩ (.int .u64 (lsn : Int))).setCell ⟨n + 2, 2, none⟩ (.slice xa k xc)) := by
  have h1 := heap_setCell_same wX (n + 2) 0 _ 39 (.int .i64 id) hm
  have h2 := heap_setCell_same _ (n + 2) 1 _ 39 (.int .u64 (lsn : Int)) h1
  have h3 := heap_setCell_same _ (n + 2) 2 _ 39 (.slice xa k xc) h2
  obtain ⟨r0, r1, r2, _⟩ := cell3 (show _ = some (Obj.cells #[.int .i64 id, .int .u64 (lsn : Int), .slice xa k xc] 39) from h3)
  have hne : (Value.slice xa L.length xc).ownBlock ≠ some (n + 2) := fun e => by have := (ho.lt _ e).1; omega
  have o1 := ownsRow_setCell_other ho (a := ⟨n + 2, 0, none⟩) hne (.int .i64 id)
  have o2 := ownsRow_setCell_other o1 (a := ⟨n + 2, 1, none⟩) hne (.int .u64 (lsn : Int))
  have o3 := ownsRow_setCell_other o2 (a := ⟨n + 2, 2, none⟩) hne (.slice xa k xc)
  exact ⟨r0, r1, r2, (slC_of_own o3).1.take k, fun y hy => by subst hy; have := (ho.lt y.block rfl).1; omega, ((hB.setCell (by simp) _).setCell (by simp) _).setCell (by simp) _⟩

set_option maxRecDepth 20000 in
set_option maxHeartbeats 2000000 in
theorem refwith_any (id : Int) (lsn : Nat) (a : Option Addr) (c : Nat) (l : List Cl) (ii : Nat) (d : Cl) (w : World) (h : SlC w a l) (hl : l.length ≤ 64) (hii : ii ≤ l.length) :
    Calls Tryd.prog 65 #[.agg (refP id lsn a l.length c), .int .i64 ii, .agg (cellV d)] w fun e w' => ∃ a', (∃ c', e = .returned (.agg (refP id lsn a' (withL l ii d).length c'))) ∧ SlC w' a' (withL l ii d) ∧ (∀ y, a' = some y → w.heap.size ≤ y.block) ∧ Below w.heap.size w w' := by
  obtain ⟨i0, hi, hz0, hz1, hz2⟩ := info_parts Tryd.info55
  have HB0 : Hid (Below (w.heap.size + 3) (((w.alloc (.cells #[.int .i64 id, .int .u64 (lsn : Int), .slice a l.length c] 39)).alloc (.cells #[.bool d.used, .string (txt d.key), .string (txt d.val)] 55)).alloc (.cells #[.int .i64 0, .int .u64 0, .slice none 0 0] 39)) (((w.alloc (.cells #[.int .i64 id, .int .u64 (lsn : Int), .slice a l.length c] 39)).alloc (.cells #[.bool d.used, .string (txt d.key), .string (txt d.val)] 55)).alloc (.cells #[.int .i64 0, .int .u64 0, .slice none 0 0] 39))) := Below.refl _ _
  have HBB : Hid (∀ W, Below (w.heap.size + 3) (((w.alloc (.cells #[.int .i64 id, .int .u64 (lsn : Int), .slice a l.length c] 39)).alloc (.cells #[.bool d.used, .string (txt d.key), .string (txt d.val)] 55)).alloc (.cells #[.int .i64 0, .int .u64 0, .slice none 0 0] 39)) W → Below w.heap.size w W) := fun W hW => ((((Below.refl _ _).alloc (Nat.le_refl _) _).alloc (by simp) _).alloc (by simp; omega) _).trans (hW.mono (by omega))
  have H3 : Hid (∀ W, Below (w.heap.size + 3) (((w.alloc (.cells #[.int .i64 id, .int .u64 (lsn : Int), .slice a l.length c] 39)).alloc (.cells #[.bool d.used, .string (txt d.key), .string (txt d.val)] 55)).alloc (.cells #[.int .i64 0, .int .u64 0, .slice none 0 0] 39)) W → W.heap[w.heap.size]? = some (.cells #[.int .i64 id, .int .u64 (lsn : Int), .slice a l.length c] 39) ∧ W.heap[w.heap.size + 1]? = some (.cells #[.bool d.used, .string (txt d.key), .string (txt d.val)] 55) ∧ W.heap[w.heap.size + 2]? = some (.cells #[.int .i64 0, .int .u64 0, .slice none 0 0] 39)) := fun W hW => three_kept hW
  have HS := (show Hid _ from h)
  have HON : Hid (∀ W W' v xs k, Below (w.heap.size + 3) (((w.alloc (.cells #[.int .i64 id, .int .u64 (lsn : Int), .slice a l.length c] 39)).alloc (.cells #[.bool d.used, .string (txt d.key), .string (txt d.val)] 55)).alloc (.cells #[.int .i64 0, .int .u64 0, .slice none 0 0] 39)) W → W.ownsRow (w.heap.size + 3) 55 3 v k xs → ∀ o, (W.alloc o).grownBy W' v.ownBlock → Below (w.heap.size + 3) (((w.alloc (.cells #[.int .i64 id, .int .u64 (lsn : Int), .slice a l.length c] 39)).alloc (.cells #[.bool d.used, .string (txt d.key), .string (txt d.val)] 55)).alloc (.cells #[.int .i64 0, .int .u64 0, .slice none 0 0] 39)) W') := fun W W' v xs k hW ho o hg =>
    (hW.alloc (by have := hW.size; simpa using this) o).grown hg (by have := hW.size; simp at this ⊢; omega) (fun j hj => (ho.lt j hj).1)
  clear h
  simp only [refP, cellV]
  go_enter Tryd.func65, Tryd.ntmps65
  go_wp2_with fail
  go_loopw [7, 8] (fun v i wr => ∃ k : Nat, k ≤ l.length ∧ i = .int .i64 k ∧ wr.ownsRow (w.heap.size + 3) 55 3 v k (cellsV ((l.set ii d).take k)) ∧ Below (w.heap.size + 3) (((w.alloc (.cells #[.int .i64 id, .int .u64 (lsn : Int), .slice a l.length c] 39)).alloc (.cells #[.bool d.used, .string (txt d.key), .string (txt d.val)] 55)).alloc (.cells #[.int .i64 0, .int .u64 0, .slice none 0 0] 39)) wr) (fun _ i _ => l.length - (intOf i).toNat)
  case atStart => exact ⟨0, Nat.zero_le _, rfl, by simpa [cellsV] using World.ownsRow_nil _ _ _ _, HB0.out⟩
  case round =>
    obtain ⟨k, hk, rfl, hor, hbr⟩ := hrel
    obtain ⟨va, vc, rfl⟩ := ownsRow_shape hor
    have HOr : Hid (wr.ownsRow (w.heap.size + 3) 55 3 (.slice va k vc) k (cellsV ((l.set ii d).take k))) := hor
    have HBr := (show Hid _ from hbr)
    obtain ⟨k0, k1, k2⟩ := H3.out _ hbr
    obtain ⟨p0, p1, p2, f0, f1, f2, hz⟩ := cell3 k0
    obtain ⟨q0, q1, q2, g0, g1, g2, hzz⟩ := cell3 k1
    clear k0 k1 k2
    clear hor hbr
    by_cases hlt : k < l.length
    · have HTP := (show Hid _ from take_put l ii d k hlt)
      by_cases hki : k = ii
      · have hki' : ((k : Int) == (ii : Int)) = true := by simp [hki]
        have HKI := (show Hid _ from hki)
        clear hki
        go_wp2_with (at_builtin; refine wpList_append_own _ rfl _ _ 37 rfl (w.heap.size + 3) 55 i0 _ 3 40 Tryd.underlying37 hi hz0 hz1 hz2 rfl (by decide) _ k _ rfl (HOr.out.alloc _) ⟨wr.heap.size, 0, none⟩ 1 1 [.bool d.used, .string (txt d.key), .string (txt d.val)] rfl rfl (three_cells _ _ _ _ _) (by intro u hu; simp at hu; rcases hu with rfl | rfl | rfl <;> rfl) (by unfold maxLen; omega) (by omega) (by have := HBr.out.size; simp at this ⊢; omega) ?_; intro v' w1 hown hgrow _)
        have hO1 : w1.ownsRow (w.heap.size + 3) 55 3 v' (k + 1) (cellsV ((l.set ii d).take (k + 1))) := by
          rw [HTP.out, if_pos HKI.out, cellsV_append]
          simpa [cellsV] using hown
        have HO1 : Hid (w1.ownsRow (w.heap.size + 3) 55 3 v' (k + 1) (cellsV ((l.set ii d).take (k + 1)))) := hO1
        clear hO1
        have HB1 := (show Hid _ from HON.out _ _ _ _ _ HBr.out HOr.out _ hgrow)
        clear hown hgrow
        go_wp2_with fail
        go_roundw
        case rel => exact ⟨k + 1, by omega, by simp, HO1.out, HB1.out⟩
        case measure => first | omega | (simp only [intOf]; omega)
      · have hki' : ((k : Int) == (ii : Int)) = false := by simp; omega
        have HKI := (show Hid _ from hki)
        clear hki
        obtain ⟨b, o, rfl, hbl, c0, c1, c2⟩ := (HS.out.below (HBB.out _ HBr.out)).at k hlt
        go_wp2_with (at_builtin; refine wpList_append_own _ rfl _ _ 37 rfl (w.heap.size + 3) 55 i0 _ 3 40 Tryd.underlying37 hi hz0 hz1 hz2 rfl (by decide) _ k _ rfl (HOr.out.alloc _) ⟨wr.heap.size, 0, none⟩ 1 1 [.bool l[k].used, .string (txt l[k].key), .string (txt l[k].val)] rfl rfl (three_cells _ _ _ _ _) (by intro u hu; simp at hu; rcases hu with rfl | rfl | rfl <;> rfl) (by unfold maxLen; omega) (by omega) (by have := HBr.out.size; simp at this ⊢; omega) ?_; intro v' w1 hown hgrow _)
        have hO1 : w1.ownsRow (w.heap.size + 3) 55 3 v' (k + 1) (cellsV ((l.set ii d).take (k + 1))) := by
          rw [HTP.out, if_neg HKI.out, cellsV_append]
          simpa [cellsV] using hown
        have HO1 : Hid (w1.ownsRow (w.heap.size + 3) 55 3 v' (k + 1) (cellsV ((l.set ii d).take (k + 1)))) := hO1
        clear hO1
        have HB1 := (show Hid _ from HON.out _ _ _ _ _ HBr.out HOr.out _ hgrow)
        clear hown hgrow
        go_wp2_with fail
        go_roundw
        case rel => exact ⟨k + 1, by omega, by simp, HO1.out, HB1.out⟩
        case measure => first | omega | (simp only [intOf]; omega)
    · obtain rfl : k = l.length := by omega
      by_cases hil : ii = l.length
      · have hil' : ((ii : Int) == (l.length : Int)) = true := by simp [hil]
        obtain ⟨L, hL⟩ : ∃ L, L = l ++ [d] := ⟨_, rfl⟩
        have HW : Hid (withL l ii d = trimL L) := by show _ = _; unfold withL; rw [if_pos hil, hL]
        have hcut : (l.set ii d).take l.length = l := by rw [hil, List.set_eq_of_length_le (Nat.le_refl _), List.take_length]
        have HLn : Hid (L.length = l.length + 1) := by show _ = _; rw [hL]; simp
        have HCL : Hid (cellsV L = cellsV l ++ [.bool d.used, .string (txt d.key), .string (txt d.val)]) := by show _ = _; rw [hL, cellsV_append]; simp [cellsV]
        have hOr2 : wr.ownsRow (w.heap.size + 3) 55 3 (.slice va l.length vc) l.length (cellsV l) := by have := HOr.out; rw [hcut] at this; exact this
        clear HOr hL hcut hil
        have HOr : Hid (wr.ownsRow (w.heap.size + 3) 55 3 (.slice va l.length vc) l.length (cellsV l)) := hOr2
        clear hOr2
        go_wp2_with (at_builtin; refine wpList_append_own _ rfl _ _ 37 rfl (w.heap.size + 3) 55 i0 _ 3 40 Tryd.underlying37 hi hz0 hz1 hz2 rfl (by decide) _ l.length _ rfl (HOr.out.alloc _) ⟨wr.heap.size, 0, none⟩ 1 1 [.bool d.used, .string (txt d.key), .string (txt d.val)] rfl rfl (three_cells _ _ _ _ _) (by intro u hu; simp at hu; rcases hu with rfl | rfl | rfl <;> rfl) (by unfold maxLen; omega) (by omega) (by have := HBr.out.size; simp at this ⊢; omega) ?_; intro v' w1 hown hgrow _)
        obtain ⟨xa, xc, rfl⟩ := ownsRow_shape hown
        have hO1 : w1.ownsRow (w.heap.size + 3) 55 3 (.slice xa L.length xc) L.length (cellsV L) := by
          rw [HCL.out, HLn.out]
          exact hown
        have HOL : Hid (w1.ownsRow (w.heap.size + 3) 55 3 (.slice xa L.length xc) L.length (cellsV L)) := hO1
        have HBX := (show Hid _ from HON.out _ _ _ _ _ HBr.out HOr.out _ hgrow)
        have hl65 : L.length ≤ 65 := by rw [HLn.out]; omega
        rw [← HLn.out]
        clear hown hgrow hO1 p0 p1 p2 f0 f1 f2 hz q0 q1 q2 g0 g1 g2 hzz
        generalize w1 = wX at *
        obtain ⟨m0, m1, m2⟩ := H3.out _ HBX.out
        obtain ⟨p0, p1, p2, f0, f1, f2, hz⟩ := cell3 m0
        obtain ⟨q0, q1, q2, g0, g1, g2, hzz⟩ := cell3 m2
        have HM2 := (show Hid _ from m2)
        have HSL := (show Hid _ from (slC_of_own HOL.out).1)
        have hcap : L.length ≤ xc := (slC_of_own HOL.out).2.2.1
        clear m0 m1 m2
        try go_wp2_with fail
        go_loop [7] (fun v => ∃ k : Nat, k ≤ L.length ∧ v = .slice xa k xc ∧ trimL (L.take k) = trimL L) (fun v => slLen v)
        case atStart => exact ⟨L.length, Nat.le_refl _, rfl, by rw [List.take_length]⟩
        case round =>
          obtain ⟨k, hk, rfl, ht⟩ := hrel
          have HT := (show Hid _ from ht)
          clear ht
          have hFin := (show Hid _ from with_end (xa := xa) (xc := xc) id lsn k HBX.out (HBB.out _ HBX.out) HM2.out HOL.out)
          cases k with
          | zero =>
            have HZ : Hid (trimL L = L.take 0) := by show _ = _; rw [← HT.out]; rfl
            obtain ⟨r0, r1, r2, hS, hB⟩ := hFin.out
            have HF := (show Hid _ from And.intro hS hB)
            clear hS hB hFin
            go_wp2
            refine bodyPost_ret (v := .agg #[.int .i64 id, .int .u64 (lsn : Int), .slice xa 0 xc]) (by simp only [results, Tryd.results65, go_sem]; simp [go_sem, r0, r1, r2]) rfl ⟨xa, ⟨xc, ?_⟩, ?_, HF.out.2.1, HF.out.2.2⟩
            · rw [HW.out, HZ.out]; rfl
            · rw [HW.out, HZ.out]; exact HF.out.1
          | succ k =>
            obtain ⟨b, o, rfl, hbl, c0, c1, c2⟩ := HSL.out.at k (by omega)
            have ek : ((k + 1 : Nat) : Int) - 1 = (k : Int) := by omega
            cases hu : L[k].used
            · rw [hu] at c0
              clear hFin
              go_wp2_with fail
              go_round
              case rel => exact ⟨k, by omega, by simp, by rw [← trimL_take L k (by omega) hu]; exact HT.out⟩
              case measure => first | omega | (simp only [slLen]; omega)
            · rw [hu] at c0
              have HZ : Hid (trimL L = L.take (k + 1)) := by
                show _ = _
                rw [← HT.out, List.take_add_one, List.getElem?_eq_getElem (by omega)]
                simp only [Option.toList_some]
                rw [trimL_snoc_used _ _ hu]
              have hlk : (L.take (k + 1)).length = k + 1 := by simp; omega
              obtain ⟨r0, r1, r2, hS, hB⟩ := hFin.out
              have HF := (show Hid _ from And.intro hS hB)
              clear hS hB hFin hu HT
              go_wp2
              refine bodyPost_ret (v := .agg #[.int .i64 id, .int .u64 (lsn : Int), .slice (some ⟨b, o, none⟩) (k + 1) xc]) (by simp only [results, Tryd.results65, go_sem]; simp [go_sem, r0, r1, r2]) rfl ⟨some ⟨b, o, none⟩, ⟨xc, ?_⟩, ?_, HF.out.2.1, HF.out.2.2⟩
              · rw [HW.out, HZ.out, hlk]
              · rw [HW.out, HZ.out]; exact HF.out.1
      · have hil' : ((ii : Int) == (l.length : Int)) = false := by simp; omega
        obtain ⟨L, hL⟩ : ∃ L, L = l.set ii d := ⟨_, rfl⟩
        have HW : Hid (withL l ii d = trimL L) := by show _ = _; unfold withL; rw [if_neg hil, hL]
        have hln : L.length = l.length := by rw [hL]; simp
        have hOr2 : wr.ownsRow (w.heap.size + 3) 55 3 (.slice va L.length vc) L.length (cellsV L) := by
          have := HOr.out
          rw [← hL, ← hln, List.take_length] at this
          exact this
        clear HOr hL hil
        have HOL : Hid (wr.ownsRow (w.heap.size + 3) 55 3 (.slice va L.length vc) L.length (cellsV L)) := hOr2
        have HBX := HBr
        have hl65 : L.length ≤ 65 := by omega
        clear hOr2
        go_wp2_with fail
        rw [← hln]
        clear p0 p1 p2 f0 f1 f2 hz q0 q1 q2 g0 g1 g2 hzz
        generalize wr = wX at *
        obtain ⟨xa, xc, hxa, hxc⟩ : ∃ xa xc, xa = va ∧ xc = vc := ⟨_, _, rfl, rfl⟩
        rw [← hxa, ← hxc] at HOL ⊢
        clear hxa hxc
        obtain ⟨m0, m1, m2⟩ := H3.out _ HBX.out
        obtain ⟨p0, p1, p2, f0, f1, f2, hz⟩ := cell3 m0
        obtain ⟨q0, q1, q2, g0, g1, g2, hzz⟩ := cell3 m2
        have HM2 := (show Hid _ from m2)
        have HSL := (show Hid _ from (slC_of_own HOL.out).1)
        have hcap : L.length ≤ xc := (slC_of_own HOL.out).2.2.1
        clear m0 m1 m2
        try go_wp2_with fail
        go_loop [7] (fun v => ∃ k : Nat, k ≤ L.length ∧ v = .slice xa k xc ∧ trimL (L.take k) = trimL L) (fun v => slLen v)
        case atStart => exact ⟨L.length, Nat.le_refl _, rfl, by rw [List.take_length]⟩
        case round =>
          obtain ⟨k, hk, rfl, ht⟩ := hrel
          have HT := (show Hid _ from ht)
          clear ht
          have hFin := (show Hid _ from with_end (xa := xa) (xc := xc) id lsn k HBX.out (HBB.out _ HBX.out) HM2.out HOL.out)
          cases k with
          | zero =>
            have HZ : Hid (trimL L = L.take 0) := by show _ = _; rw [← HT.out]; rfl
            obtain ⟨r0, r1, r2, hS, hB⟩ := hFin.out
            have HF := (show Hid _ from And.intro hS hB)
            clear hS hB hFin
            go_wp2
            refine bodyPost_ret (v := .agg #[.int .i64 id, .int .u64 (lsn : Int), .slice xa 0 xc]) (by simp only [results, Tryd.results65, go_sem]; simp [go_sem, r0, r1, r2]) rfl ⟨xa, ⟨xc, ?_⟩, ?_, HF.out.2.1, HF.out.2.2⟩
            · rw [HW.out, HZ.out]; rfl
            · rw [HW.out, HZ.out]; exact HF.out.1
          | succ k =>
            obtain ⟨b, o, rfl, hbl, c0, c1, c2⟩ := HSL.out.at k (by omega)
            have ek : ((k + 1 : Nat) : Int) - 1 = (k : Int) := by omega
            cases hu : L[k].used
            · rw [hu] at c0
              clear hFin
              go_wp2_with fail
              go_round
              case rel => exact ⟨k, by omega, by simp, by rw [← trimL_take L k (by omega) hu]; exact HT.out⟩
              case measure => first | omega | (simp only [slLen]; omega)
            · rw [hu] at c0
              have HZ : Hid (trimL L = L.take (k + 1)) := by
                show _ = _
                rw [← HT.out, List.take_add_one, List.getElem?_eq_getElem (by omega)]
                simp only [Option.toList_some]
                rw [trimL_snoc_used _ _ hu]
              have hlk : (L.take (k + 1)).length = k + 1 := by simp; omega
              obtain ⟨r0, r1, r2, hS, hB⟩ := hFin.out
              have HF := (show Hid _ from And.intro hS hB)
              clear hS hB hFin hu HT
              go_wp2
              refine bodyPost_ret (v := .agg #[.int .i64 id, .int .u64 (lsn : Int), .slice (some ⟨b, o, none⟩) (k + 1) xc]) (by simp only [results, Tryd.results65, go_sem]; simp [go_sem, r0, r1, r2]) rfl ⟨some ⟨b, o, none⟩, ⟨xc, ?_⟩, ?_, HF.out.2.1, HF.out.2.2⟩
              · rw [HW.out, HZ.out, hlk]
              · rw [HW.out, HZ.out]; exact HF.out.1

end Go.Proofs.YtebchgoaelamcaaDoor
