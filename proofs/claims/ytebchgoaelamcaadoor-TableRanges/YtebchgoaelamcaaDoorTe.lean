/-
  The stable sort: a merge of many with one.
-/
import Derived.Test.YtebchgoaelamcaaDoorTd
namespace Go.Proofs.YtebchgoaelamcaaDoor
open Go.Shelf Go.RowKit Go.Lib Go.Sort
set_option maxRecDepth 1000000

set_option maxHeartbeats 2000000 in
theorem sym_right {blk N cap : Nat} {w0 w : World} (F : Fam blk N w0) (P A S : List Pq) (y : Pq) (hA : Rise A) (a m b : Nat) (ha : P.length = a) (hm : a + A.length = m) (hb : m + 1 = b) (ham : a + 1 < m) (za zm zb : Int) (ea : za = a) (em : zm = m) (eb : zb = b) (h : Rw blk N w0 (P ++ A ++ [y] ++ S) w) :
    Calls Tryd.prog 98 #[.slice (some ⟨blk, 0, none⟩) N cap, .int .i64 za, .int .i64 zm, .int .i64 zb, .func (.func 54) #[] #[]] w fun e w' => e = .returned (.tuple #[]) ∧ ∃ R, Mrg A [y] R ∧ Rw blk N w0 (P ++ (R ++ S)) w' := by
  subst ea em eb
  have hN : b ≤ N := by have := h.1; simp at this; omega
  have hfew := F.few
  have HF := toHid' F
  have hd1 : ((m : Int) - (a : Int) == 1) = false := by simp; omega
  have hd2 : ((b : Int) - (m : Int) == 1) = true := by simp; omega
  have H0 : Hid (Rw blk N w0 (P ++ A ++ [y] ++ S) w) := h
  have HG : Hid (∀ t, t < m - a → (P ++ A ++ [y] ++ S)[a + t]? = A[t]?) := fun t ht => by
    rw [List.getElem?_append_left (by simp; omega), List.getElem?_append_left (by simp; omega), List.getElem?_append_right (by omega)]
    congr 1
    omega
  have HX : Hid ((P ++ A ++ [y] ++ S)[m]? = some y) := by
    unfold Hid
    rw [List.append_assoc, show m = (P ++ A).length by simp; omega]
    simp
  have HP := toHid' (And.intro ha hm)
  clear h F ha hm
  go_enter Tryd.func98, Tryd.ntmps98
  go_wp2_with fail
  go_loopw [14, 15] (fun vi vj wr => ∃ i j : Nat, a ≤ i ∧ i ≤ j ∧ j ≤ m ∧ vi = .int .i64 i ∧ vj = .int .i64 j ∧ Hid ((∀ (_ : 0 < i - a) (h : i - a - 1 < A.length), ¬ y.1 < A[i - a - 1].1) ∧ ∀ h : j - a < A.length, y.1 < A[j - a].1) ∧ Hid (Rw blk N w0 (P ++ A ++ [y] ++ S) wr)) (fun vi vj _ => (intOf vj).toNat - (intOf vi).toNat)
  case atStart => exact ⟨a, m, by omega, by omega, by omega, rfl, rfl, ⟨fun h => by omega, fun h => by have := HP.out.2; omega⟩, H0⟩
  case round =>
    clear H0
    obtain ⟨i, j, hi, hij, hj, rfl, rfl, HI, HR⟩ := hrel
    by_cases hlt : i < j
    · obtain ⟨hh, hhe⟩ : ∃ h : Nat, ((i : Int) + (j : Int)) / 2 = (h : Int) := ⟨(i + j) / 2, by omega⟩
      have hh1 : i ≤ hh := by omega
      have hh2 : hh < j := by omega
      have hbl : hh - a < A.length := by have := HP.out.2; omega
      have ex := HG.out (hh - a) (by omega)
      rw [show a + (hh - a) = hh by omega, List.getElem?_eq_getElem hbl] at ex
      have HY := toHid' ex
      obtain ⟨x, hx⟩ : ∃ x, x = A[hh - a] := ⟨_, rfl⟩
      rw [← hx] at HY ex
      have HYe := toHid' hx
      clear hx ex
      have HRd := toHid' HR.out.drew
      obtain ⟨c0, c1⟩ := HR.out.cells HF.out hh x HY.out
      obtain ⟨d0, d1⟩ := HR.out.cells HF.out m y HX.out
      obtain ⟨e0, e1⟩ := HRd.out.cells HF.out hh x HY.out
      obtain ⟨f0, f1⟩ := HRd.out.cells HF.out m y HX.out
      have HC : Hid (∀ W, Calls Tryd.prog 54 #[.agg #[.string (txt y.1), .string (txt y.2)], .agg #[.string (txt x.1), .string (txt x.2)]] W fun e w' => e = .returned (.int .i64 (cfP y x)) ∧ ∃ q os', w' = grow (W.drewN q) os') := fun W => closure54 y x W
      have HLt := toHid' (cf_lt y x)
      generalize cfP y x = cv at HC HLt
      have n1 : hh < N := by omega
      have n2 : m < N := by omega
      have z1 : (hh : Int) < (N : Int) := by omega
      have z2 : (m : Int) < (N : Int) := by omega
      go_wp2_with fail
      go_region_held3 (fun W => W.cell? ⟨blk, hh * 2, none⟩ = some (.string (txt x.1)) ∧ W.cell? ⟨blk, hh * 2 + 1, none⟩ = some (.string (txt x.2)) ∧ W.cell? ⟨blk, m * 2, none⟩ = some (.string (txt y.1)) ∧ W.cell? ⟨blk, m * 2 + 1, none⟩ = some (.string (txt y.2))) (with_reducible exact ⟨by assumption, by assumption, by assumption, by assumption⟩) ((go_at_call 54; refine Calls.mono (HC.out _) ?_; rintro e wc ⟨rfl, q, os, hwc⟩; have HRc := toHid' (HRd.out.grown q os); rw [← hwc] at HRc; clear hwc; obtain ⟨g0, g1⟩ := HRc.out.cells HF.out hh x HY.out; obtain ⟨i0, i1⟩ := HRc.out.cells HF.out m y HX.out))
      clear c0 c1 d0 d1 e0 e1 f0 f1 HRd HR HC g0 g1 i0 i1
      generalize decide (cv < 0) = bv at HLt ⊢
      cases bv
      case true =>
        have HI2 : Hid ((∀ (_ : 0 < i - a) (h : i - a - 1 < A.length), ¬ y.1 < A[i - a - 1].1) ∧ ∀ h : hh - a < A.length, y.1 < A[hh - a].1) := ⟨HI.out.1, fun h => by
          rw [← HYe.out]
          exact of_decide_eq_true HLt.out.symm⟩
        clear HI HY HYe HLt
        go_wp2_with fail
        go_roundw
        case rel => exact ⟨i, hh, by omega, by omega, by omega, rfl, rfl, HI2, HRc⟩
        case measure => simp only [intOf]; omega
      case false =>
        have HI2 : Hid ((∀ (_ : 0 < (hh + 1) - a) (h : (hh + 1) - a - 1 < A.length), ¬ y.1 < A[(hh + 1) - a - 1].1) ∧ ∀ h : j - a < A.length, y.1 < A[j - a].1) := ⟨fun _ h => by
          have e : (hh + 1) - a - 1 = hh - a := by omega
          simp only [e]
          rw [← HYe.out]
          exact of_decide_eq_false HLt.out.symm, HI.out.2⟩
        clear HI HY HYe HLt
        go_wp2_with fail
        go_roundw
        case rel => exact ⟨hh + 1, j, by omega, by omega, by omega, by simp, rfl, HI2, HRc⟩
        case measure => simp only [intOf]; omega
    · obtain rfl : i = j := by omega
      have HM : Hid (Mrg A [y] (A.take (i - a) ++ y :: A.drop (i - a))) := mrg_one_right hA (i - a) (by have := HP.out.2; omega) (fun h0 h => HI.out.1 h0 h) HI.out.2
      have H1 : Hid (Rw blk N w0 (P ++ A.take (m - a) ++ y :: A.drop (m - a) ++ S) wr) := by
        have := HR.out
        have hl := HP.out.2
        unfold Hid
        rw [List.take_of_length_le (by omega), List.drop_of_length_le (by omega)]
        simpa using this
      clear HI HR HG HX
      go_wp2_with fail
      go_loopw [17] (fun vk wk => ∃ k : Nat, i ≤ k ∧ k ≤ m ∧ vk = .int .i64 k ∧ Hid (Rw blk N w0 (P ++ A.take (k - a) ++ y :: A.drop (k - a) ++ S) wk)) (fun vk _ => (intOf vk).toNat - i)
      case atStart => exact ⟨m, by omega, Nat.le_refl _, rfl, H1⟩
      case round =>
        clear H1
        obtain ⟨k, hk1, hk2, rfl, HK⟩ := hrel
        by_cases hlk : i < k
        · obtain ⟨k', rfl⟩ : ∃ k', k = k' + 1 := ⟨k - 1, by omega⟩
          have hbk : k' - a < A.length := by have := HP.out.2; omega
          obtain ⟨z, hz⟩ : ∃ z, z = A[k' - a] := ⟨_, rfl⟩
          have hpl : (P ++ A.take (k' - a)).length = k' := by have := HP.out.1; have := HP.out.2; simp; omega
          have hcur : P ++ A.take (k' + 1 - a) ++ y :: A.drop (k' + 1 - a) ++ S = P ++ A.take (k' - a) ++ z :: y :: (A.drop (k' + 1 - a) ++ S) := by
            rw [show k' + 1 - a = k' - a + 1 by omega, List.take_succ_eq_append_getElem hbk, ← hz]
            simp only [List.append_assoc, List.cons_append, List.nil_append]
          have hnx : P ++ A.take (k' - a) ++ y :: z :: (A.drop (k' + 1 - a) ++ S) = P ++ A.take (k' - a) ++ y :: A.drop (k' - a) ++ S := by
            have hdr : A.drop (k' - a) = z :: A.drop (k' + 1 - a) := by rw [hz, show k' + 1 - a = k' - a + 1 by omega]; exact List.drop_eq_getElem_cons hbk
            rw [hdr]
            simp only [List.append_assoc, List.cons_append]
          rw [hcur] at HK
          obtain ⟨⟨c0, c1, f0, f1⟩, ⟨d0', d1, g0', g1⟩, ⟨t1, ht1⟩, ⟨t2, ht2⟩, ⟨t3, ht3⟩, ⟨t4, ht4⟩, hS2⟩ := HK.out.adj' HF.out k' hpl
          rw [hnx] at hS2
          have S2 := toHid' hS2
          clear hS2 HK hcur hnx hpl hz
          obtain ⟨za, zb⟩ := z
          simp only at c0 c1 d0' d1 ht1 ht2 ht3 ht4 S2
          have n1 : k' + 1 < N := by omega
          have z1 : (k' : Int) + 1 < (N : Int) := by omega
          have z2 : (k' : Int) < (N : Int) := by omega
          have z3 : (i : Int) < (k' : Int) + 1 := by omega
          have mixed := Tryd.mixed
          go_wp2_with fail
          go_big_region_o
          clear c0 c1 f0 f1 d0' d1 g0' g1 ht1 ht2 ht3 ht4
          generalize (World.setCell _ _ _).drew = w2 at S2 ⊢
          go_wp2_with fail
          go_roundw
          case rel => exact ⟨k', by omega, by omega, by simp, S2⟩
          case measure => simp only [intOf]; omega
        · obtain rfl : k = i := by omega
          have HE : Hid (∃ R, Mrg A [y] R ∧ Rw blk N w0 (P ++ (R ++ S)) wr) := ⟨_, HM.out, by
            have h := HK.out
            simpa using h⟩
          go_wp2_with fail
          exact bodyPost_ret (v := .tuple #[]) (by simp [results, Tryd.results98, go_sem]) rfl ⟨rfl, HE.out⟩
end Go.Proofs.YtebchgoaelamcaaDoor
