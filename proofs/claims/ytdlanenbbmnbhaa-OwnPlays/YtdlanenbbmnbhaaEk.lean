/-
  step (12): its walk.
-/
import Derived.Test.YtdlanenbbmnbhaaEj
import Derived.Test.YtdlanenbbmnbhaaEe
import Derived.Test.YtdlanenbbmnbhaaCj
namespace Go.Proofs.Ytdlanenbbmnbhaa
open Go.RowKit

set_option maxHeartbeats 4000000 in
theorem step12 (p q : Nat) (l : List Lf) {w : World} {v : Value} {L : List Pl} (hb : Bk w p q l) (hok : BkOk l) (h : Dl w v L) (hp : pls L = l) (kd pg ins : Int) :
    Calls Try.prog 12 #[.pointer (some ⟨p, 0, none⟩), v, .agg #[.int .i64 kd, .int .i64 pg, .int .i64 ins]] w fun e w' => StepR p q w (stepS l (kd, pg, ins)) e w' := by
  have hl : L.length ≤ 16 := by rw [← pls_len, hp]; exact hb.most
  have hokL : BkOk (pls L) := by rw [hp]; exact hok
  obtain ⟨w0, hw0⟩ : ∃ w0, w0 = w.alloc (.cells #[.int .i64 kd, .int .i64 pg, .int .i64 ins] 34) := ⟨_, rfl⟩
  have hb0 : Below w.heap.size w w0 := hw0 ▸ (Below.refl _ _).alloc (Nat.le_refl _) _
  have hk0 : w0.heap[w.heap.size]? = some (.cells #[.int .i64 kd, .int .i64 pg, .int .i64 ins] 34) := hw0 ▸ heap_alloc_new w _
  have HB0 := toHid hb0
  have HK0 := toHid hk0
  have HW0 := toHid hw0
  have HCell := toHid (show ∀ W, Below w0.heap.size w0 W → W.cell? ⟨w.heap.size, 0, none⟩ = some (.int .i64 kd) ∧ W.cell? ⟨w.heap.size, 1, none⟩ = some (.int .i64 pg) ∧ W.cell? ⟨w.heap.size, 2, none⟩ = some (.int .i64 ins) from fun W hW => by
    have hk := (hW.block _ (some_lt hk0)).trans hk0
    refine ⟨?_, ?_, ?_⟩ <;> · unfold World.cell?; rw [hk]; simp)
  have HBk := toHid (hb.below hb0)
  have HBk0 := toHid hb
  have HD := toHid (h.below hb0)
  have HDw := toHid h
  have HOk := toHid hok
  have HP := toHid hp
  have HOL := toHid hokL
  have hl1 := hl
  clear hb hok h hp hokL hb0 hk0 hw0
  by_cases k0 : kd = 0
  · subst k0
    have HC := toHid (need_any_d HD.out HOL.out hl1 pg ins)
    rw [HP.out] at HC
    have HS := toHid (show stepS l (0, pg, ins) = (needL l pg ins).1 from rfl)
    have hlo : (needL l pg ins).2.1.length ≤ 100 := need_olen l pg ins
    go_enter Try.func12, Try.ntmps12
    go_wp2_with fail
    rw [← HW0.out]
    refine Calls.mono HC.out ?_
    rintro e w2 ⟨v2, vo, L2, rfl, hd2, hp2, ho2, hb2⟩
    obtain ⟨x0, x1, x2⟩ := HCell.out w2 hb2
    have HX := toHid (HBk.out.below hb2)
    have HPr := toHid (need_any p q l pg ins w2 HX.out HOk.out)
    have HD2 := toHid hd2
    have HP2 := toHid hp2
    have HO2 := toHid ho2
    have HB2 := toHid (HB0.out.trans (hb2.mono HB0.out.size))
    clear HC hd2 hp2 ho2 hb2
    go_wp2_with fail
    refine Calls.mono HPr.out ?_
    rintro e w3 ⟨⟨va, rfl, hq⟩, hb3, h3⟩
    obtain ⟨hbk, hdl, hpl, hone, ⟨a1, c1, rfl, hs1⟩, ⟨a2, c2, rfl, hs2⟩⟩ := Both.of HX.out HB2.out HD2.out HP2.out HO2.out hq hb3 h3
    have HSm := toHid (same30 (c := c2) (d := c1) hs2 hs1 (by omega))
    have HBk3 := toHid hbk
    have HD3 := toHid hdl
    have HP3 := toHid hpl
    have H13 := toHid hone
    clear HPr hq hb3 h3 hbk hdl hpl hone hs1 hs2 x0 x1 x2
    go_wp2_with fail
    refine Calls.mono HSm.out ?_
    rintro e w4 ⟨rfl, hb4⟩
    have HA := toHid (show StepR p q w (stepS l (0, pg, ins)) (.returned (.tuple #[v2, .bool true])) w4 from ⟨v2, L2, rfl, by rw [HS.out]; exact HBk3.out.below hb4, HD3.out.below hb4, by rw [HS.out]; exact HP3.out, H13.out.trans (One.of hb4)⟩)
    clear HSm hb4
    go_wp2
    exact bodyPost_ret (v := .tuple #[v2, .bool true]) (by simp [results, Try.results12, go_sem]) rfl HA.out
  · by_cases k1 : kd = 1
    · subst k1
      have HC := toHid (back_any_d HD.out HOL.out hl1 pg ins)
      rw [HP.out] at HC
      have HS := toHid (show stepS l (1, pg, ins) = (backL l pg ins).1 from rfl)
      have hlo : (backL l pg ins).2.1.length ≤ 100 := back_olen l pg ins
      go_enter Try.func12, Try.ntmps12
      go_wp2_with fail
      rw [← HW0.out]
      refine Calls.mono HC.out ?_
      rintro e w2 ⟨v2, vo, L2, rfl, hd2, hp2, ho2, hb2⟩
      obtain ⟨x0, x1, x2⟩ := HCell.out w2 hb2
      have HX := toHid (HBk.out.below hb2)
      have HPr := toHid (back_any p q l pg ins w2 HX.out HOk.out)
      have HD2 := toHid hd2
      have HP2 := toHid hp2
      have HO2 := toHid ho2
      have HB2 := toHid (HB0.out.trans (hb2.mono HB0.out.size))
      clear HC hd2 hp2 ho2 hb2
      go_wp2_with fail
      refine Calls.mono HPr.out ?_
      rintro e w3 ⟨⟨va, rfl, hq⟩, hb3, h3⟩
      obtain ⟨hbk, hdl, hpl, hone, ⟨a1, c1, rfl, hs1⟩, ⟨a2, c2, rfl, hs2⟩⟩ := Both.of HX.out HB2.out HD2.out HP2.out HO2.out hq hb3 h3
      have HSm := toHid (same30 (c := c2) (d := c1) hs2 hs1 (by omega))
      have HBk3 := toHid hbk
      have HD3 := toHid hdl
      have HP3 := toHid hpl
      have H13 := toHid hone
      clear HPr hq hb3 h3 hbk hdl hpl hone hs1 hs2 x0 x1 x2
      go_wp2_with fail
      refine Calls.mono HSm.out ?_
      rintro e w4 ⟨rfl, hb4⟩
      have HA := toHid (show StepR p q w (stepS l (1, pg, ins)) (.returned (.tuple #[v2, .bool true])) w4 from ⟨v2, L2, rfl, by rw [HS.out]; exact HBk3.out.below hb4, HD3.out.below hb4, by rw [HS.out]; exact HP3.out, H13.out.trans (One.of hb4)⟩)
      clear HSm hb4
      go_wp2
      exact bodyPost_ret (v := .tuple #[v2, .bool true]) (by simp [results, Try.results12, go_sem]) rfl HA.out
    · by_cases k2 : kd = 2
      · subst k2
        have HC := toHid (fail_any_d HD.out HOL.out hl1 ins)
        rw [HP.out] at HC
        have HS := toHid (show stepS l (2, pg, ins) = failL l ins from rfl)
        have hlo := hasL_len l ins
        have hm := HBk.out.most
        go_enter Try.func12, Try.ntmps12
        go_wp2_with fail
        rw [← HW0.out]
        refine Calls.mono HC.out ?_
        rintro e w2 ⟨v2, lv, L2, rfl, hd2, hp2, ⟨a1, c1, rfl, hs1⟩, hb2⟩
        obtain ⟨x0, x1, x2⟩ := HCell.out w2 hb2
        have HX := toHid (HBk.out.below hb2)
        have HPr := toHid (fail_any p q l ins w2 HX.out HOk.out)
        have HD2 := toHid hd2
        have HP2 := toHid hp2
        have HS1 := toHid hs1
        have HB2 := toHid (HB0.out.trans (hb2.mono HB0.out.size))
        clear HC hd2 hp2 hs1 hb2
        go_wp2_with fail
        refine Calls.mono HPr.out ?_
        rintro e w3 ⟨⟨a2, c2, rfl, hs2, -⟩, hb3, h3⟩
        obtain ⟨M, hM⟩ := HX.out.blk
        have HSm := toHid (same_row (l := hasL l ins) c2 c1 hs2 (HS1.out.oneq h3 hM) (by omega))
        have HBk3 := toHid hb3
        have HD3 := toHid (HD2.out.one h3 hM (by decide) (by decide))
        have H13 := toHid ((One.of (p := q) HB2.out).trans h3)
        clear HPr hs2 hb3 h3 hM x0 x1 x2
        go_wp2_with fail
        refine Calls.mono HSm.out ?_
        rintro e w4 ⟨rfl, hb4⟩
        have HA := toHid (show StepR p q w (stepS l (2, pg, ins)) (.returned (.tuple #[v2, .bool true])) w4 from ⟨v2, L2, rfl, by rw [HS.out]; exact HBk3.out.below hb4, HD3.out.below hb4, by rw [HS.out]; exact HP2.out, H13.out.trans (One.of hb4)⟩)
        clear HSm hb4
        go_wp2
        exact bodyPost_ret (v := .tuple #[v2, .bool true]) (by simp [results, Try.results12, go_sem]) rfl HA.out
      · by_cases k3 : kd = 3
        · subst k3
          have HC := toHid (mend_any_d HD.out HOL.out hl1 pg)
          rw [HP.out] at HC
          have HS := toHid (show stepS l (3, pg, ins) = (mendL l pg).1 from rfl)
          have hlo : (mendL l pg).2.1.length ≤ 100 := mend_olen l pg
          go_enter Try.func12, Try.ntmps12
          go_wp2_with fail
          rw [← HW0.out]
          refine Calls.mono HC.out ?_
          rintro e w2 ⟨v2, vo, L2, rfl, hd2, hp2, ho2, hb2⟩
          obtain ⟨x0, x1, x2⟩ := HCell.out w2 hb2
          have HX := toHid (HBk.out.below hb2)
          have HPr := toHid (mend_any p q l pg w2 HX.out HOk.out)
          have HD2 := toHid hd2
          have HP2 := toHid hp2
          have HO2 := toHid ho2
          have HB2 := toHid (HB0.out.trans (hb2.mono HB0.out.size))
          clear HC hd2 hp2 ho2 hb2
          go_wp2_with fail
          refine Calls.mono HPr.out ?_
          rintro e w3 ⟨⟨va, rfl, hq⟩, hb3, h3⟩
          obtain ⟨hbk, hdl, hpl, hone, ⟨a1, c1, rfl, hs1⟩, ⟨a2, c2, rfl, hs2⟩⟩ := Both.of HX.out HB2.out HD2.out HP2.out HO2.out hq hb3 h3
          have HSm := toHid (same30 (c := c2) (d := c1) hs2 hs1 (by omega))
          have HBk3 := toHid hbk
          have HD3 := toHid hdl
          have HP3 := toHid hpl
          have H13 := toHid hone
          clear HPr hq hb3 h3 hbk hdl hpl hone hs1 hs2 x0 x1 x2
          go_wp2_with fail
          refine Calls.mono HSm.out ?_
          rintro e w4 ⟨rfl, hb4⟩
          have HA := toHid (show StepR p q w (stepS l (3, pg, ins)) (.returned (.tuple #[v2, .bool true])) w4 from ⟨v2, L2, rfl, by rw [HS.out]; exact HBk3.out.below hb4, HD3.out.below hb4, by rw [HS.out]; exact HP3.out, H13.out.trans (One.of hb4)⟩)
          clear HSm hb4
          go_wp2
          exact bodyPost_ret (v := .tuple #[v2, .bool true]) (by simp [results, Try.results12, go_sem]) rfl HA.out
        · have e0 : (kd == 0) = false := by simpa using k0
          have e1 : (kd == 1) = false := by simpa using k1
          have e2 : (kd == 2) = false := by simpa using k2
          have e3 : (kd == 3) = false := by simpa using k3
          have HS := toHid (show stepS l (kd, pg, ins) = l by simp [stepS, k0, k1, k2, k3])
          have HSm := toHid (same30 (w := w0) (va := none) (vb := none) (c := 0) (d := 0) (l := []) (SlD.nil _ _) (SlD.nil _ _) (by simp))
          have HSm := toHid (show Calls Try.prog 30 #[.slice none 0 0, .slice none 0 0] w0 fun e w' => e = .returned (.bool true) ∧ Below w0.heap.size w0 w' from by have := HSm.out; simpa only [List.length_nil] using this)
          go_enter Try.func12, Try.ntmps12
          go_wp2_with fail
          rw [← HW0.out]
          refine Calls.mono HSm.out ?_
          rintro e w4 ⟨rfl, hb4⟩
          have HA := toHid (show StepR p q w (stepS l (kd, pg, ins)) (.returned (.tuple #[v, .bool true])) w4 from ⟨v, L, rfl, by rw [HS.out]; exact HBk.out.below hb4, HD.out.below hb4, by rw [HS.out]; exact HP.out, (One.of HB0.out).trans ((One.of hb4))⟩)
          clear HSm hb4
          go_wp2
          exact bodyPost_ret (v := .tuple #[v, .bool true]) (by simp [results, Try.results12, go_sem]) rfl HA.out
end Go.Proofs.Ytdlanenbbmnbhaa
