/-
  The walk of LsnApart.
-/
import Derived.Test.YtflemjdeciekeaaWAb
import Derived.Test.YtflemjdeciekeaaWMx
namespace Go.Proofs.Ytflemjdeciekeaa
open Go.RowKit

theorem ownsRow_grown {w w' : World} {B q : Nat} {e : TypeId} {size : Nat} {v : Value} {n : Nat} {xs : List Value} (h : w.ownsRow B e size v n xs) (hg : w.grownBy w' (some q)) (hq : q < B) : w'.ownsRow B e size v n xs := by
  refine ⟨h.1, ?_⟩
  rcases h.2 with h2 | ⟨g, cap, cur, hv, hgB, hh, r⟩
  · exact .inl h2
  · refine .inr ⟨g, cap, cur, hv, hgB, ?_, r⟩
    rw [hg.block g (lt_of_block hh) (fun e => by simp at e; omega)]
    exact hh

theorem seeN_valid (c n k : Nat) (hk : k < 8) (h1 : 1 ≤ n) (h2 : n ≤ 72057594037927936) : seeN c (16 * n + k) = max c n := by
  unfold seeN
  rw [if_pos (okL_made n k hk h1 h2)]
  congr 1
  omega

/-- What was met: numbers of the one instance up to its count, and of the other one up to its. -/
def Met (i s mc md : Nat) (M : List Nat) : Prop := ∀ y ∈ M, (y % 16 = i ∧ y / 16 ≤ mc) ∨ (y % 16 = s ∧ y / 16 ≤ md)

theorem Met.more {i s mc md mc' md' : Nat} {M : List Nat} (h : Met i s mc md M) (h1 : mc ≤ mc') (h2 : md ≤ md') : Met i s mc' md' M := fun y hy => by
  rcases h y hy with ⟨a, b⟩ | ⟨a, b⟩
  · exact .inl ⟨a, by omega⟩
  · exact .inr ⟨a, by omega⟩

theorem Met.snoc {i s mc md x : Nat} {M : List Nat} (h : Met i s mc md M) (hx : (x % 16 = i ∧ x / 16 ≤ mc) ∨ (x % 16 = s ∧ x / 16 ≤ md)) : Met i s mc md (M ++ [x]) := fun y hy => by
  rcases List.mem_append.1 hy with h1 | h1
  · exact h y h1
  · simp at h1
    subst h1
    exact hx

/-- What stands behind the ticks of a round. -/
structure Mid (w W : World) (i s k nc nd xx : Nat) (M : List Nat) (v : Value) : Prop where
  nc1 : nc ≤ k + 1
  nd1 : nd ≤ k + 1
  xv : ∃ n t, xx = 16 * n + t ∧ 1 ≤ n ∧ n ≤ k + 1 ∧ t < 8
  len : M.length = k
  met : Met i s nc nd (M ++ [xx])
  new : ∀ y ∈ M, y ≠ xx
  c : COk W w.heap.size (i : Int) nc
  d : COk W (w.heap.size + 1) (s : Int) nd
  own : W.ownsRow (w.heap.size + 2) 23 1 v k (u64s M)
  bel : Below w.heap.size w W

set_option maxRecDepth 20000 in
set_option maxHeartbeats 4000000 in
theorem apart_walk (x y : Int) (a : Option Addr) (c : Nat) (l : List Bool) (w : World) (hsl : SlV w a (boolsV l)) (hll : l.length ≤ maxLen) :
    Calls Try.prog 7 #[.int .i64 x, .int .i64 y, .slice a l.length c] w fun e w' => e = .returned (.bool true) ∧ Below w.heap.size w w' := by
  unfold maxLen at hll
  obtain ⟨i, hi, hi8⟩ := inst8 x
  obtain ⟨s, hs, hs8⟩ := inst8 y
  obtain ⟨i0, hinf, hz0, hz1, hz2⟩ := info_parts Try.info23
  have HI : Hid (wrap64 ((IntKind.u64.wrap x).tmod 8) = (i : Int)) := hi
  have HS : Hid (wrap64 ((IntKind.u64.wrap y).tmod 8) = (s : Int)) := hs
  by_cases his : i = s
  · have he : (wrap64 ((IntKind.u64.wrap x).tmod 8) == wrap64 ((IntKind.u64.wrap y).tmod 8)) = true := by rw [hi, hs, his]; simp
    clear hi hs his
    go_enter Try.func7, Try.ntmps7
    go_wp2_with (go_at_call 15; go_must (refine (lives_any _).mono ?_); rintro e w' ⟨rfl, hb⟩)
    go_ret
    exact ⟨rfl, hb⟩
  · have he : (wrap64 ((IntKind.u64.wrap x).tmod 8) == wrap64 ((IntKind.u64.wrap y).tmod 8)) = false := by rw [hi, hs]; simp; omega
    clear hi hs
    go_enter Try.func7, Try.ntmps7
    go_wp2_with fail
    clear he
    rw [HI.out, HS.out]
    clear HI HS
    refine (new_yes (i : Int) w (by omega) (by omega)).mono ?_
    rintro e w1 ⟨rfl, hC1, hb1, hs1⟩
    go_wp2_with fail
    refine (new_yes (s : Int) w1 (by omega) (by omega)).mono ?_
    rintro e w2 ⟨rfl, hD2, hb2, hs2⟩
    have hC2 : COk w2 w.heap.size (i : Int) 0 := hC1.below hb2 (Nat.le_refl _)
    rw [hs1] at hD2
    have hB2 : Below w.heap.size w w2 := hb1.trans (hb2.mono (by omega))
    rw [hs1]
    have hsz2 : w2.heap.size = w.heap.size + 2 := by omega
    clear hC1 hb1 hb2 hs2 hs1
    go_wp2_with fail
    have HE : Hid (i < 8 ∧ s < 8 ∧ i ≠ s) := ⟨hi8, hs8, his⟩
    clear hi8 hs8 his
    go_loopw [13, 14] (fun v j wr => ∃ (k mc md : Nat) (M : List Nat), k ≤ l.length ∧ k ≤ 60 ∧ j = .int .i64 k ∧ mc ≤ k ∧ md ≤ k ∧ M.length = k ∧ Met i s mc md M ∧ wr.ownsRow (w.heap.size + 2) 23 1 v k (u64s M) ∧ COk wr w.heap.size (i : Int) mc ∧ COk wr (w.heap.size + 1) (s : Int) md ∧ Below w.heap.size w wr) (fun _ j _ => 60 - (intOf j).toNat)
    case atStart => exact ⟨0, 0, 0, [], by omega, by omega, rfl, by omega, by omega, rfl, fun y hy => by simp at hy, World.ownsRow_nil _ _ _ _, hC2, hD2, hB2⟩
    case round =>
      obtain ⟨k, mc, md, M, hk, hk60, rfl, hmc, hmd, hMl, hMet, hown, hC, hD, hB⟩ := hrel
      clear hC2 hD2 hB2 hsz2
      obtain ⟨av, cv, rfl⟩ := ownsRow_shape hown
      by_cases hlt : k < l.length ∧ k < 60
      · obtain ⟨hlt1, hlt2⟩ := hlt
        obtain ⟨g, o, rfl, hcell, hg⟩ := hsl.at k _ (boolsV_at l k hlt1)
        have hDlt : w.heap.size + 1 < wr.heap.size := hD.lt
        have htk := tick_yes w.heap.size (i : Int) mc wr hC (by omega) (by have := HE.out; omega) (by omega)
        rw [Int.toNat_natCast] at htk
        obtain ⟨q, Hq⟩ : ∃ q, Hid (q = 16 * (mc + 1) + i) := ⟨_, rfl⟩
        rw [← Hq.out] at htk
        have HK : Hid (M.length = k ∧ Met i s mc md M) := ⟨hMl, hMet⟩
        clear hMl hMet
        go_wp2_with fail
        refine htk.mono ?_
        rintro e w3 ⟨rfl, hC3, hg3, hs3⟩
        have hD3 := hD.grown hg3 (by omega)
        have hB3 := hB.grown hg3 (by omega) (by simp)
        have hown3 := ownsRow_grown hown hg3 (by omega)
        have hcell3 : w3.cell? ⟨g, o + k, none⟩ = some (.bool l[k]) := by rw [hB3.cell (p := ⟨g, o + k, none⟩) hg]; exact hcell
        clear hcell hB hC hD hown htk
        generalize l[k] = bb at hcell3
        have hf3 : w.heap.size + 1 < w3.heap.size := hD3.lt
        cases bb with
        | false =>
          have hmid : Mid w w3 i s k (mc + 1) md q M (.slice av k cv) := by
            obtain ⟨g1, g2, g3⟩ := HE.out
            refine ⟨by omega, by omega, ⟨mc + 1, i, Hq.out, by omega, by omega, g1⟩, HK.out.1, ?_, ?_, hC3, hD3, hown3, hB3⟩
            · exact (HK.out.2.more (by omega) (by omega)).snoc (.inl ⟨by rw [Hq.out]; omega, by rw [Hq.out]; omega⟩)
            · intro y hy e
              have h1 := Hq.out
              rcases HK.out.2 y hy with ⟨r1, r2⟩ | ⟨r1, r2⟩ <;> omega
          clear HK Hq hC3 hD3 hown3 hB3 hmc hmd hs3
          generalize mc + 1 = nc at *
          go_wp2_with fail
          have hlen := hmid.len
          have hbb := hmid.bel.size
          have hfW : w.heap.size + 1 < w3.heap.size := hmid.d.lt
          have hslM : SlV w3 av (u64s M) := slV_of_own (e := 23) (B := w.heap.size + 2) (n := k) (c := cv) (by rw [u64s_length, hlen]; exact hmid.own)
          go_loop [17] (fun n => ∃ t : Nat, t ≤ k ∧ n = .int .i64 t) (fun n => k - (intOf n).toNat)
          case atStart => exact ⟨0, by omega, rfl⟩
          case round =>
            obtain ⟨t, ht, rfl⟩ := hrel
            by_cases htk : t < k
            · have htM : t < M.length := by omega
              obtain ⟨g2, o2, hav, hcellM, hgM⟩ := hslM.at t _ (u64s_at M t htM)
              subst hav
              have hne := hmid.new M[t] (List.getElem_mem htM)
              have hne2 : (((M[t] : Nat) : Int) == (q : Int)) = false := by simp; omega
              clear hne
              generalize M[t] = mt at *
              go_wp2
              go_round
              case rel => exact ⟨t + 1, by omega, by go_num⟩
              case measure => simp [intOf]; omega
            · have HW : Hid (w3.ownsRow (w.heap.size + 2) 23 1 (.slice av k cv) k (u64s M)) := hmid.own
              clear hslM
              by_cases h3 : k % 3 = 0
              · have h3a : ((k : Int) % 3 == 0) = true := by simp; omega
                go_wp2_with (at_builtin; refine wpList_append_own _ rfl _ _ 33 rfl (w.heap.size + 2) 23 i0 (.int .u64 0) 1 8 Try.underlying33 hinf hz0 hz1 hz2 rfl (by decide) _ _ _ rfl (HW.out.alloc _) ⟨w3.heap.size, 0, none⟩ 1 1 [_] rfl rfl (cell_one_new _ _ _) (by intro u hu; simp at hu; subst hu; rfl) (by unfold maxLen; omega) (by omega) (by simp; omega) ?_; intro v' w6 hown' hgrow _)
                have hne6 : ∀ p, p < w.heap.size + 2 → (Value.slice av k cv).ownBlock ≠ some p := fun p hp e => by have := (HW.out.lt p e).1; omega
                have hC6 : COk w6 w.heap.size (i : Int) nc := ⟨by rw [hgrow.block _ (by simp; omega) (fun e => hne6 _ (by omega) e.symm), Below.heap_alloc _ _ _ (by omega)]; exact hmid.c.blk⟩
                have hD6 : COk w6 (w.heap.size + 1) (s : Int) md := ⟨by rw [hgrow.block _ (by simp; omega) (fun e => hne6 _ (by omega) e.symm), Below.heap_alloc _ _ _ (by omega)]; exact hmid.d.blk⟩
                have hB6 : Below w.heap.size w w6 := (hmid.bel.alloc hbb _).grown hgrow (by simp; omega) (fun j hj => by have := (HW.out.lt j hj).1; omega)
                obtain ⟨n, tt, ex, x1, x2, x3⟩ := hmid.xv
                have hsee2 := see_any (w.heap.size + 1) (s : Int) md q w6 hD6 (by omega)
                rw [show seeN md q = max md n by rw [ex]; exact seeN_valid _ _ _ x3 x1 (by omega)] at hsee2
                have HR : Hid (w6.ownsRow (w.heap.size + 2) 23 1 v' (k + 1) (u64s (M ++ [q]))) := by show World.ownsRow _ _ _ _ _ _ _; rw [u64s_append]; exact hown'
                have HM : Hid (Met i s nc (max md n) (M ++ [q]) ∧ nc ≤ k + 1 ∧ max md n ≤ k + 1) := ⟨hmid.met.more (by omega) (by omega), hmid.nc1, by have := hmid.nd1; omega⟩
                have hf6 : w.heap.size + 1 < w6.heap.size := hD6.lt
                generalize max md n = nd2 at *
                clear ex x1 x2 x3 hmid hown' hgrow HW
                go_wp2_with fail
                refine hsee2.mono ?_
                rintro e w7 ⟨rfl, hD7, hg7, hs7⟩
                go_wp2
                go_roundw
                case rel => exact ⟨k + 1, nc, nd2, M ++ [q], by omega, by omega, by go_num, HM.out.2.1, HM.out.2.2, by simp; omega, HM.out.1, ownsRow_grown HR.out hg7 (by omega), hC6.grown hg7 (by omega), hD7, hB6.grown hg7 (by omega) (fun j hj => by simp at hj; omega)⟩
                case measure => simp [intOf]; omega
              · have h3a : ((k : Int) % 3 == 0) = false := by simp; omega
                go_wp2_with (at_builtin; refine wpList_append_own _ rfl _ _ 33 rfl (w.heap.size + 2) 23 i0 (.int .u64 0) 1 8 Try.underlying33 hinf hz0 hz1 hz2 rfl (by decide) _ _ _ rfl (HW.out.alloc _) ⟨w3.heap.size, 0, none⟩ 1 1 [_] rfl rfl (cell_one_new _ _ _) (by intro u hu; simp at hu; subst hu; rfl) (by unfold maxLen; omega) (by omega) (by simp; omega) ?_; intro v' w6 hown' hgrow _)
                have hne6 : ∀ p, p < w.heap.size + 2 → (Value.slice av k cv).ownBlock ≠ some p := fun p hp e => by have := (HW.out.lt p e).1; omega
                have hC6 : COk w6 w.heap.size (i : Int) nc := ⟨by rw [hgrow.block _ (by simp; omega) (fun e => hne6 _ (by omega) e.symm), Below.heap_alloc _ _ _ (by omega)]; exact hmid.c.blk⟩
                have hD6 : COk w6 (w.heap.size + 1) (s : Int) md := ⟨by rw [hgrow.block _ (by simp; omega) (fun e => hne6 _ (by omega) e.symm), Below.heap_alloc _ _ _ (by omega)]; exact hmid.d.blk⟩
                have hB6 : Below w.heap.size w w6 := (hmid.bel.alloc hbb _).grown hgrow (by simp; omega) (fun j hj => by have := (HW.out.lt j hj).1; omega)
                have HR : Hid (w6.ownsRow (w.heap.size + 2) 23 1 v' (k + 1) (u64s (M ++ [q]))) := by show World.ownsRow _ _ _ _ _ _ _; rw [u64s_append]; exact hown'
                have HM : Hid (Met i s nc md (M ++ [q]) ∧ nc ≤ k + 1 ∧ md ≤ k + 1) := ⟨hmid.met, hmid.nc1, hmid.nd1⟩
                clear hmid hown' hgrow HW
                go_roundw
                case rel => exact ⟨k + 1, nc, md, M ++ [q], by omega, by omega, by go_num, HM.out.2.1, HM.out.2.2, by simp; omega, HM.out.1, HR.out, hC6, hD6, hB6⟩
                case measure => simp [intOf]; omega
        | true =>
          have htk := tick_yes (w.heap.size + 1) (s : Int) md w3 hD3 (by omega) (by have := HE.out; omega) (by omega)
          rw [Int.toNat_natCast] at htk
          obtain ⟨q2, Hq2⟩ : ∃ q, Hid (q = 16 * (md + 1) + s) := ⟨_, rfl⟩
          rw [← Hq2.out] at htk
          have hq2b : q2 < 18446744073709551616 := by have := HE.out; have := Hq2.out; omega
          go_wp2_with fail
          refine htk.mono ?_
          rintro e w4 ⟨rfl, hD4, hg4, hs4⟩
          have hC4 := hC3.grown hg4 (by omega)
          have hB4 := hB3.grown hg4 (by omega) (fun k hk => by simp at hk; omega)
          have hown4 := ownsRow_grown hown3 hg4 (by omega)
          have hsee := see_any w.heap.size (i : Int) (mc + 1) q2 w4 hC4 hq2b
          rw [show seeN (mc + 1) q2 = max (mc + 1) (md + 1) by rw [Hq2.out]; exact seeN_valid _ _ _ HE.out.2.1 (by omega) (by omega)] at hsee
          clear hC3 hD3 hB3 hown3 htk hcell3 hC4
          have hf4 : w.heap.size + 1 < w4.heap.size := hD4.lt
          go_wp2_with fail
          refine hsee.mono ?_
          rintro e w5 ⟨rfl, hC5, hg5, hs5⟩
          have hmid : Mid w w5 i s k (max (mc + 1) (md + 1)) (md + 1) q2 M (.slice av k cv) := by
            obtain ⟨g1, g2, g3⟩ := HE.out
            refine ⟨by omega, by omega, ⟨md + 1, s, Hq2.out, by omega, by omega, g2⟩, HK.out.1, ?_, ?_, hC5, hD4.grown hg5 (by omega), ownsRow_grown hown4 hg5 (by omega), hB4.grown hg5 (by omega) (by simp)⟩
            · exact (HK.out.2.more (by omega) (by omega)).snoc (.inr ⟨by rw [Hq2.out]; omega, by rw [Hq2.out]; omega⟩)
            · intro y hy e
              have h1 := Hq2.out
              rcases HK.out.2 y hy with ⟨r1, r2⟩ | ⟨r1, r2⟩ <;> omega
          clear HK Hq Hq2 hD4 hB4 hown4 hC5 hg5 hg4 hsee hmc hmd hs3 hs4 hs5
          generalize max (mc + 1) (md + 1) = nc at *
          generalize md + 1 = nd at *
          go_wp2_with fail
          have hlen := hmid.len
          have hbb := hmid.bel.size
          have hfW : w.heap.size + 1 < w5.heap.size := hmid.d.lt
          have hslM : SlV w5 av (u64s M) := slV_of_own (e := 23) (B := w.heap.size + 2) (n := k) (c := cv) (by rw [u64s_length, hlen]; exact hmid.own)
          go_loop [17] (fun n => ∃ t : Nat, t ≤ k ∧ n = .int .i64 t) (fun n => k - (intOf n).toNat)
          case atStart => exact ⟨0, by omega, rfl⟩
          case round =>
            obtain ⟨t, ht, rfl⟩ := hrel
            by_cases htk : t < k
            · have htM : t < M.length := by omega
              obtain ⟨g2, o2, hav, hcellM, hgM⟩ := hslM.at t _ (u64s_at M t htM)
              subst hav
              have hne := hmid.new M[t] (List.getElem_mem htM)
              have hne2 : (((M[t] : Nat) : Int) == (q2 : Int)) = false := by simp; omega
              clear hne
              generalize M[t] = mt at *
              go_wp2
              go_round
              case rel => exact ⟨t + 1, by omega, by go_num⟩
              case measure => simp [intOf]; omega
            · have HW : Hid (w5.ownsRow (w.heap.size + 2) 23 1 (.slice av k cv) k (u64s M)) := hmid.own
              clear hslM
              by_cases h3 : k % 3 = 0
              · have h3a : ((k : Int) % 3 == 0) = true := by simp; omega
                go_wp2_with (at_builtin; refine wpList_append_own _ rfl _ _ 33 rfl (w.heap.size + 2) 23 i0 (.int .u64 0) 1 8 Try.underlying33 hinf hz0 hz1 hz2 rfl (by decide) _ _ _ rfl (HW.out.alloc _) ⟨w5.heap.size, 0, none⟩ 1 1 [_] rfl rfl (cell_one_new _ _ _) (by intro u hu; simp at hu; subst hu; rfl) (by unfold maxLen; omega) (by omega) (by simp; omega) ?_; intro v' w6 hown' hgrow _)
                have hne6 : ∀ p, p < w.heap.size + 2 → (Value.slice av k cv).ownBlock ≠ some p := fun p hp e => by have := (HW.out.lt p e).1; omega
                have hC6 : COk w6 w.heap.size (i : Int) nc := ⟨by rw [hgrow.block _ (by simp; omega) (fun e => hne6 _ (by omega) e.symm), Below.heap_alloc _ _ _ (by omega)]; exact hmid.c.blk⟩
                have hD6 : COk w6 (w.heap.size + 1) (s : Int) nd := ⟨by rw [hgrow.block _ (by simp; omega) (fun e => hne6 _ (by omega) e.symm), Below.heap_alloc _ _ _ (by omega)]; exact hmid.d.blk⟩
                have hB6 : Below w.heap.size w w6 := (hmid.bel.alloc hbb _).grown hgrow (by simp; omega) (fun j hj => by have := (HW.out.lt j hj).1; omega)
                obtain ⟨n, tt, ex, x1, x2, x3⟩ := hmid.xv
                have hsee2 := see_any (w.heap.size + 1) (s : Int) nd q2 w6 hD6 (by omega)
                rw [show seeN nd q2 = max nd n by rw [ex]; exact seeN_valid _ _ _ x3 x1 (by omega)] at hsee2
                have HR : Hid (w6.ownsRow (w.heap.size + 2) 23 1 v' (k + 1) (u64s (M ++ [q2]))) := by show World.ownsRow _ _ _ _ _ _ _; rw [u64s_append]; exact hown'
                have HM : Hid (Met i s nc (max nd n) (M ++ [q2]) ∧ nc ≤ k + 1 ∧ max nd n ≤ k + 1) := ⟨hmid.met.more (by omega) (by omega), hmid.nc1, by have := hmid.nd1; omega⟩
                have hf6 : w.heap.size + 1 < w6.heap.size := hD6.lt
                generalize max nd n = nd2 at *
                clear ex x1 x2 x3 hmid hown' hgrow HW
                go_wp2_with fail
                refine hsee2.mono ?_
                rintro e w7 ⟨rfl, hD7, hg7, hs7⟩
                go_wp2
                go_roundw
                case rel => exact ⟨k + 1, nc, nd2, M ++ [q2], by omega, by omega, by go_num, HM.out.2.1, HM.out.2.2, by simp; omega, HM.out.1, ownsRow_grown HR.out hg7 (by omega), hC6.grown hg7 (by omega), hD7, hB6.grown hg7 (by omega) (fun j hj => by simp at hj; omega)⟩
                case measure => simp [intOf]; omega
              · have h3a : ((k : Int) % 3 == 0) = false := by simp; omega
                go_wp2_with (at_builtin; refine wpList_append_own _ rfl _ _ 33 rfl (w.heap.size + 2) 23 i0 (.int .u64 0) 1 8 Try.underlying33 hinf hz0 hz1 hz2 rfl (by decide) _ _ _ rfl (HW.out.alloc _) ⟨w5.heap.size, 0, none⟩ 1 1 [_] rfl rfl (cell_one_new _ _ _) (by intro u hu; simp at hu; subst hu; rfl) (by unfold maxLen; omega) (by omega) (by simp; omega) ?_; intro v' w6 hown' hgrow _)
                have hne6 : ∀ p, p < w.heap.size + 2 → (Value.slice av k cv).ownBlock ≠ some p := fun p hp e => by have := (HW.out.lt p e).1; omega
                have hC6 : COk w6 w.heap.size (i : Int) nc := ⟨by rw [hgrow.block _ (by simp; omega) (fun e => hne6 _ (by omega) e.symm), Below.heap_alloc _ _ _ (by omega)]; exact hmid.c.blk⟩
                have hD6 : COk w6 (w.heap.size + 1) (s : Int) nd := ⟨by rw [hgrow.block _ (by simp; omega) (fun e => hne6 _ (by omega) e.symm), Below.heap_alloc _ _ _ (by omega)]; exact hmid.d.blk⟩
                have hB6 : Below w.heap.size w w6 := (hmid.bel.alloc hbb _).grown hgrow (by simp; omega) (fun j hj => by have := (HW.out.lt j hj).1; omega)
                have HR : Hid (w6.ownsRow (w.heap.size + 2) 23 1 v' (k + 1) (u64s (M ++ [q2]))) := by show World.ownsRow _ _ _ _ _ _ _; rw [u64s_append]; exact hown'
                have HM : Hid (Met i s nc nd (M ++ [q2]) ∧ nc ≤ k + 1 ∧ nd ≤ k + 1) := ⟨hmid.met, hmid.nc1, hmid.nd1⟩
                clear hmid hown' hgrow HW
                go_roundw
                case rel => exact ⟨k + 1, nc, nd, M ++ [q2], by omega, by omega, by go_num, HM.out.2.1, HM.out.2.2, by simp; omega, HM.out.1, HR.out, hC6, hD6, hB6⟩
                case measure => simp [intOf]; omega
      · have hcs : ¬ (k < l.length) ∨ (k < l.length ∧ ¬ (k < 60)) := by omega
        clear hlt
        have hsz := hB.size
        rcases hcs with hc4 | ⟨hc4, hc5⟩
        all_goals
          go_wp2_with (go_at_call 15; go_must (refine (lives_any _).mono ?_); rintro e w' ⟨rfl, hb⟩)
          go_ret
          exact ⟨rfl, hB.trans (hb.mono hsz)⟩
end Go.Proofs.Ytflemjdeciekeaa
