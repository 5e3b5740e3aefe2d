/-
  The walk of put.
-/
import Derived.Test.YticnkppnpfgceaaFRb
namespace Go.Proofs.Yticnkppnpfgceaa.Mg
open Go.RowKit

set_option maxRecDepth 100000 in
set_option maxHeartbeats 4000000 in
theorem put33 {w : World} {vt vn vd : Value} {x : Lf} (h : LfR w 0 vt vn vd x) (hx : Ris x.t) (hl : x.t.length ≤ 1000) (id : Int) (g : Gt) :
    Calls Try.prog 33 #[.agg (rfC vt vn vd), .agg (txC3 id g), .int .u64 (g.next : Int)] w fun e w' => ∃ vt' vn', e = .returned (.agg (rfC vt' vn' vd)) ∧ LfR w' 0 vt' vn' vd ⟨putL x.t id g, x.d⟩ ∧ Below w.heap.size w w' := by
  obtain ⟨i7, hi7, hz70, hz71, hz72⟩ := info_parts Try.info57
  obtain ⟨i3, hi3, hz30, hz31, hz32⟩ := info_parts Try.info30
  obtain ⟨T, Dd⟩ := x
  have hAt := fun W (hb : Below w.heap.size w W) => at42 (h.below hb) hx hl id
  obtain ⟨h1, h2, h3⟩ := h
  dsimp only at h1 h2 h3 hx hl hAt ⊢
  obtain ⟨ta, tc, rfl⟩ := ownsRow_shape2 h1
  obtain ⟨na, nc, rfl⟩ := ownsRow_shape2 h2
  obtain ⟨da, dc, rfl⟩ := ownsRow_shape2 h3
  have HAt := toHid hAt
  have H1 := toHid h1
  have H2 := toHid h2
  have H3 := toHid h3
  clear hAt h1 h2 h3
  obtain ⟨P, hP⟩ : ∃ P, posL T id = P := ⟨_, rfl⟩
  have hPl : P ≤ T.length := hP ▸ posL_le
  obtain ⟨W0, hW0⟩ : ∃ W0, W0 = ((w.alloc (.cells (rfC (.slice ta T.length tc) (.slice na T.length nc) (.slice da Dd.length dc)) 37)).alloc (.cells (txC3 id g) 57)).alloc (.cells #[.slice none 0 0, .slice none 0 0, .slice none 0 0] 37) := ⟨_, rfl⟩
  have hb0 : Below w.heap.size w W0 := hW0 ▸ below3
  obtain ⟨k0, k1, k2, _⟩ := kept3 (w := w) (W := W0) (by rw [hW0]; exact Below.refl _ _)
  have HB0 := toHid hb0
  have HK0 := toHid k0
  have HK1 := toHid k1
  have HK2 := toHid k2
  have HC := toHid (HAt.out W0 hb0)
  rw [hP] at HC
  obtain ⟨bb, hbb⟩ : ∃ bb, (look T id).isSome = bb := ⟨_, rfl⟩
  rw [hbb] at HC
  have HW0 := toHid hW0
  clear hb0 k0 k1 k2 hW0 HAt
  go_enter Try.func33, Try.ntmps33
  go_wp2_with fail
  rw [← HW0.out]
  refine Calls.mono HC.out ?_
  rintro e w1 ⟨rfl, hb1⟩
  have k0 := (hb1.block _ (some_lt HK0.out)).trans HK0.out
  have k1 := (hb1.block _ (some_lt HK1.out)).trans HK1.out
  have k2 := (hb1.block _ (some_lt HK2.out)).trans HK2.out
  have HB1 := toHid (HB0.out.trans (hb1.mono HB0.out.size))
  have HL0 := toHid k0
  have HL1 := toHid k1
  have HL2 := toHid k2
  obtain ⟨a0, a1, a2, _, _, _⟩ := cellsT k0
  obtain ⟨b0, b1, b2, _, _, _⟩ := cellsT k1
  clear hb1 k0 k1 k2 HC HW0 HK0 HK1 HK2 HB0
  have hPi : (P : Int) ≤ (T.length : Int) := by omega
  have hP0 : 0 ≤ (P : Int) := by omega
  have HS1 := toHid (show ∀ W, Below w.heap.size w W → ∀ y, ta = some y → ∀ j u, (tCells T)[j]? = some u → W.cell? (y.add j) = some u from fun W hb y hy j u hu => by
    have hr := own_below H1.out hb
    rcases own_addr hr with ⟨e, _, _⟩ | ⟨g, cur, e, _⟩
    · rw [e] at hy; cases hy
    · rw [e] at hy hr
      injection hy with hy
      subst hy
      exact hr.cells (g := g) rfl j u hu)
  have HS2 := toHid (show ∀ W, Below w.heap.size w W → ∀ y, na = some y → ∀ j u, (nCells T)[j]? = some u → W.cell? (y.add j) = some u from fun W hb y hy j u hu => by
    have hr := own_below H2.out hb
    rcases own_addr hr with ⟨e, _, _⟩ | ⟨g, cur, e, _⟩
    · rw [e] at hy; cases hy
    · rw [e] at hy hr
      injection hy with hy
      subst hy
      exact hr.cells (g := g) rfl j u hu)
  have HN1 := toHid (show ta = none → T.length = 0 ∧ tc = 0 from fun e => by
    rcases own_addr H1.out with ⟨_, h1, h2⟩ | ⟨g, cur, e2, _⟩
    · exact ⟨h1, h2⟩
    · rw [e] at e2; cases e2)
  have HN2 := toHid (show na = none → T.length = 0 ∧ nc = 0 from fun e => by
    rcases own_addr H2.out with ⟨_, h1, h2⟩ | ⟨g, cur, e2, _⟩
    · exact ⟨h1, h2⟩
    · rw [e] at e2; cases e2)
  have hT3 := World.block_lt_of_cell? _ _ a0
  have hm1 : T.length ≤ tc := by
    rcases own_addr H1.out with ⟨_, h1, h2⟩ | ⟨g, cur, e2, _, _, h, _⟩
    · omega
    · exact h
  have hm2 : T.length ≤ nc := by
    rcases own_addr H2.out with ⟨_, h1, h2⟩ | ⟨g, cur, e2, _, _, h, _⟩
    · omega
    · exact h
  have hm3 : (P : Int) ≤ (tc : Int) := by omega
  have hm4 : (P : Int) ≤ (nc : Int) := by omega
  have hs1 := HB1.out.size
  go_upto_region 4 with fail
  go_cut [9] (fun v W => W.ownsRow w1.heap.size 57 3 v P (tCells (T.take P)) ∧ Below w1.heap.size w1 W)
  case first =>
    cases ta with
    | none =>
      obtain ⟨hT0, rfl⟩ := HN1.out rfl
      obtain rfl : T = [] := List.eq_nil_of_length_eq_zero hT0
      obtain rfl : P = 0 := by simpa using hPl
      go_wp2
      go_meet
      case rel => exact ⟨World.ownsRow_nil _ _ _ _, Below.refl _ _⟩
    | some y =>
      go_wp2_with (at_builtin; go_must (refine wpList_append_src _ rfl _ _ 26 rfl w1.heap.size 57 i7 _ 3 24 Try.underlying26 hi7 hz70 hz71 hz72 rfl (by decide) (.slice none 0 0) 0 [] rfl (World.ownsRow_nil _ _ _ _) (some y) P tc (tCells (T.take P)) rfl (fun e => by cases e) (by rw [tCells_len]; simp; omega) (fun z hz j u hu => HS1.out _ HB1.out z hz j u (tCells_take T P j u hu)) (tCells_one _) (by unfold maxLen; omega) (by omega) (Nat.le_refl _) ?_; intro v2 w2 o1 o2 _; rw [Nat.zero_add, List.nil_append] at o1; have HO1 := toHid o1; have HG2 := toHid ((Below.refl w1.heap.size w1).grown o2 (Nat.le_refl _) (by simp [Value.ownBlock])); clear o1 o2))
      go_meet
      case rel => exact ⟨HO1.out, HG2.out⟩
  case rest =>
    obtain ⟨hO1, hb2⟩ := hcut
    have HO1 := toHid hO1
    have HB2 := toHid hb2
    obtain ⟨qa, qc, rfl⟩ := ownsRow_shape2 hO1
    have k0 := (hb2.block _ (some_lt HL0.out)).trans HL0.out
    have hs2 := hb2.size
    have HBw := toHid (HB1.out.trans (hb2.mono HB1.out.size))
    clear hO1 hb2 a0 a1 a2 b0 b1 b2
    obtain ⟨a0, a1, a2, _, _, _⟩ := cellsT k0
    clear k0
    generalize wc = W2 at *
    go_upto_region 5 with fail
    go_cut [10] (fun v W => W.ownsRow w1.heap.size 30 1 v P (nCells (T.take P)) ∧ W.ownsRow w1.heap.size 57 3 (.slice qa P qc) P (tCells (T.take P)) ∧ Below w1.heap.size w1 W)
    case first =>
      cases na with
      | none =>
        obtain ⟨hT0, rfl⟩ := HN2.out rfl
        obtain rfl : T = [] := List.eq_nil_of_length_eq_zero hT0
        obtain rfl : P = 0 := by simpa using hPl
        go_wp2
        go_meet
        case rel => exact ⟨World.ownsRow_nil _ _ _ _, HO1.out, HB2.out⟩
      | some y =>
        go_wp2_with (at_builtin; go_must (refine wpList_append_src _ rfl _ _ 27 rfl w1.heap.size 30 i3 _ 1 8 Try.underlying27 hi3 hz30 hz31 hz32 rfl (by decide) (.slice none 0 0) 0 [] rfl (World.ownsRow_nil _ _ _ _) (some y) P nc (nCells (T.take P)) rfl (fun e => by cases e) (by rw [nCells_len]; simp; omega) (fun z hz j u hu => HS2.out _ HBw.out z hz j u (nCells_take T P j u hu)) (nCells_one _) (by unfold maxLen; omega) (by omega) (by omega) ?_; intro v2 w2 o1 o2 _; rw [Nat.zero_add, List.nil_append] at o1; have HP1 := toHid o1; have HG2 := toHid (show w2.ownsRow w1.heap.size 57 3 (.slice qa P qc) P (tCells (T.take P)) ∧ Below w1.heap.size w1 w2 from ⟨other_row (World.ownsRow_nil W2 w1.heap.size 30 1) HO1.out (by decide) o2, row_low HB2.out (by omega) (World.ownsRow_nil W2 w1.heap.size 30 1) o2⟩); clear o1 o2))
        go_meet
        case rel => exact ⟨HP1.out, HG2.out.1, HG2.out.2⟩
    case rest =>
      obtain ⟨hN, hO, hb3⟩ := hcut
      have HO := toHid hO
      have HN := toHid hN
      have HB3 := toHid hb3
      obtain ⟨ra, rc, rfl⟩ := ownsRow_shape2 hN
      have k1 := (hb3.block _ (some_lt HL1.out)).trans HL1.out
      have hs3 := hb3.size
      clear hN hO hb3 a0 a1 a2
      obtain ⟨b0, b1, b2, _, _, _⟩ := cellsT k1
      clear k1
      have hs4 := some_lt HL1.out
      generalize wc = W3 at *
      go_upto_region 8 with (first
        | (at_builtin; (refine wpList_append_own _ rfl (.tmp 34) (.tmp 36) 27 rfl w1.heap.size 30 i3 _ 1 8 Try.underlying27 hi3 hz30 hz31 hz32 rfl (by decide) _ P _ rfl (HN7.out.alloc _) ⟨w7.heap.size, 0, none⟩ 1 1 [_] rfl rfl (cell_one_at _ _ _) (by intro u hu; simp at hu; rcases hu with rfl; rfl) (by unfold maxLen; omega) (by omega) (by simp; omega) ?_; intro v8 w8 o1 o2 _; have HN8 := toHid o1; have HO8 := toHid (other_row (HN7.out.alloc (.cells #[.int .u64 (g.next : Int)] 30)) (HO7.out.alloc (.cells #[.int .u64 (g.next : Int)] 30)) (by decide) o2); have HB8 := toHid (row_low (HB7.out.alloc (by omega) (.cells #[.int .u64 (g.next : Int)] 30)) (by simp; omega) (HN7.out.alloc (.cells #[.int .u64 (g.next : Int)] 30)) o2); obtain ⟨ua, uc, rfl⟩ := ownsRow_shape2 o1; have hs8 := HB8.out.size; clear o1 o2))
        | (at_builtin; (refine wpList_append_own _ rfl (.tmp 30) (.tmp 32) 26 rfl w1.heap.size 57 i7 _ 3 24 Try.underlying26 hi7 hz70 hz71 hz72 rfl (by decide) _ P _ rfl (HO.out.alloc _) ⟨W3.heap.size, 0, none⟩ 1 1 [_, _, _] rfl rfl (cell_three_at _ _ _ _ _) (by intro u hu; simp at hu; rcases hu with rfl | rfl | rfl <;> rfl) (by unfold maxLen; omega) (by omega) (by simp; omega) ?_; intro v7 w7 o1 o2 _; have HO7 := toHid o1; have HN7 := toHid (other_row (HO.out.alloc (.cells #[.int .i64 id, .int .i64 g.st, .int .u64 (g.last : Int)] 57)) (HN.out.alloc (.cells #[.int .i64 id, .int .i64 g.st, .int .u64 (g.last : Int)] 57)) (by decide) o2); have HB7 := toHid (row_low (HB3.out.alloc (by omega) (.cells #[.int .i64 id, .int .i64 g.st, .int .u64 (g.last : Int)] 57)) (by simp; omega) (HO.out.alloc (.cells #[.int .i64 id, .int .i64 g.st, .int .u64 (g.last : Int)] 57)) o2); obtain ⟨sa, sc, rfl⟩ := ownsRow_shape2 o1; have hs7 := HB7.out.size; clear o1 o2)))
      go_upto_if 38 with fail
      go_cut [7] (fun v W => ∃ Q : Nat, v = .int .i64 Q ∧ Q ≤ T.length ∧ putL T id g = T.take P ++ (id, g) :: T.drop Q ∧ W = w8)
      case first =>
        have HPn := toHid (fun hk => putL_new (x := id) hx hk g)
        have HPo := toHid (fun u hk => putL_old (x := id) (w := u) hx hk g)
        have HPt := toHid (fun u hk => posL_lt (x := id) (w := u) hx hk)
        cases bb
        · have HPu := toHid (HPn.out (by cases hk : look T id with | none => rfl | some u => rw [hk] at hbb; cases hbb))
          rw [hP] at HPu
          go_wp2
          go_meet
          case rel => exact ⟨P, rfl, hPl, HPu.out, rfl⟩
        · obtain ⟨u, hk⟩ : ∃ u, look T id = some u := by cases hk : look T id with | none => rw [hk] at hbb; cases hbb | some u => exact ⟨u, rfl⟩
          have HPu := toHid (HPo.out u hk)
          have hPt := HPt.out u hk
          rw [hP] at HPu hPt
          clear hk
          go_wp2
          go_meet
          case rel => exact ⟨P + 1, by go_num, by omega, HPu.out, rfl⟩
      case rest =>
        obtain ⟨Q, rfl, hQ, hpu, rfl⟩ := hcut
        have HPu := toHid hpu
        have hsq : (putL T id g).length = P + 1 + (T.length - Q) := by rw [hpu]; simp; omega
        have HSq := toHid hsq
        have HTc := toHid (show tCells (putL T id g) = (tCells (T.take P) ++ [.int .i64 id, .int .i64 g.st, .int .u64 (g.last : Int)]) ++ tCells (T.drop Q) by rw [hpu]; simp [tCells])
        have HNc := toHid (show nCells (putL T id g) = (nCells (T.take P) ++ [.int .u64 (g.next : Int)]) ++ nCells (T.drop Q) by rw [hpu]; simp [nCells])
        have HB9 := toHid (HB1.out.trans (HB8.out.mono HB1.out.size))
        have k0 := (HB8.out.block _ (some_lt HL0.out)).trans HL0.out
        obtain ⟨a0, a1, a2, _, _, _⟩ := cellsT k0
        have hQi : (Q : Int) ≤ (T.length : Int) := by omega
        have hQ0 : 0 ≤ (Q : Int) := by omega
        have hq3 : (Q : Int) ≤ (tc : Int) := by omega
        have hq4 : (Q : Int) ≤ (nc : Int) := by omega
        have hz8 := some_lt k0
        have HSt := toHid (show ∀ W, Below w1.heap.size w1 W → W.heap[w.heap.size]? = some (.cells (rfC (.slice ta T.length tc) (.slice na T.length nc) (.slice da Dd.length dc)) 37) ∧ W.heap[w.heap.size + 1 + 1]? = some (.cells #[.slice none 0 0, .slice none 0 0, .slice none 0 0] 37) ∧ Below w.heap.size w W from fun W hb => ⟨(hb.block _ (some_lt HL0.out)).trans HL0.out, (hb.block _ (some_lt HL2.out)).trans HL2.out, HB1.out.trans (hb.mono HB1.out.size)⟩)
        have HD8 := toHid (show Below w1.heap.size w1 wc.drew from ⟨HB8.out.os, HB8.out.tape, HB8.out.output, HB8.out.size, HB8.out.block⟩)
        have hs8 := HB8.out.size
        clear hpu k0 b0 b1 b2 hsq
        go_upto_region 10 with fail
        go_cut [] (fun W => ∃ vt' vn', W.heap[w.heap.size + 1 + 1]? = some (.cells (rfC vt' vn' (.slice da Dd.length dc)) 37) ∧ LfR W 0 vt' vn' (.slice da Dd.length dc) ⟨putL T id g, Dd⟩ ∧ Below w.heap.size w W)
        case first =>
          have HD3 := toHid (fun W (hb : Below w1.heap.size w1 W) => own_below H3.out (HSt.out W hb).2.2)
          rcases own_addr H1.out with ⟨rfl, hTa, hUa⟩ | ⟨yg, _, rfl, _⟩
          · rcases own_addr H2.out with ⟨rfl, hTb, hUb⟩ | ⟨zg, _, rfl, _⟩
            · have HTa := toHid hTa; have HUa := toHid hUa; clear hTa hUa
              obtain ⟨ad, HEa⟩ : ∃ ad : Option Addr, Hid (none = ad) := ⟨none, toHid rfl⟩
              have HCa := toHid (show ∀ W, Below w1.heap.size w1 W → ∀ y, ad = some y → ∀ j u, (tCells (T.drop Q))[j]? = some u → W.cell? (y.add j) = some u from fun W hb y hy => by rw [← HEa.out] at hy; cases hy)
              have HZa := toHid (show ad = none → T.length - Q = 0 ∧ tc - Q = 0 from fun _ => by have h1 := HTa.out; have h2 := HUa.out; omega)
              have HTb := toHid hTb; have HUb := toHid hUb; clear hTb hUb
              obtain ⟨bd, HEb⟩ : ∃ bd : Option Addr, Hid (none = bd) := ⟨none, toHid rfl⟩
              have HCb := toHid (show ∀ W, Below w1.heap.size w1 W → ∀ y, bd = some y → ∀ j u, (nCells (T.drop Q))[j]? = some u → W.cell? (y.add j) = some u from fun W hb y hy => by rw [← HEb.out] at hy; cases hy)
              have HZb := toHid (show bd = none → T.length - Q = 0 ∧ nc - Q = 0 from fun _ => by have h1 := HTb.out; have h2 := HUb.out; omega)
              go_region_law (first
                | (refine step_append_src rfl (.tmp 47) (.tmp 51) 27 rfl w1.heap.size 30 i3 _ 1 8 Try.underlying27 hi3 hz30 hz31 hz32 rfl (by decide) (.slice ua (P + 1) uc) (P + 1) _ rfl HNt.out bd (T.length - Q) (nc - Q) (nCells (T.drop Q)) (congrArg (fun o => Value.slice o (T.length - Q) (nc - Q)) HEb.out) HZb.out (by rw [nCells_len]; simp) (HCb.out _ HBt.out) (nCells_one _) (by unfold maxLen; omega) (by omega) HBt.out.size ?_; intro v9 w9 o1 o2; have HTf := toHid (other_row HNt.out HTt.out (by decide) o2); have HNf := toHid o1; have HBf := toHid (row_low HBt.out HBt.out.size HNt.out o2); obtain ⟨fa, fc, rfl⟩ := ownsRow_shape2 o1; obtain ⟨e0, e2, eb⟩ := HSt.out w9 HBf.out; obtain ⟨c0, c1, c2, cf0, cf1, cf2⟩ := cellsT e2; obtain ⟨x0, x1, x2, _, _, _⟩ := cellsT e0; have HE2 := toHid e2; clear o1 o2 e0 e2 eb)
                | (refine step_append_src rfl (.tmp 41) (.tmp 45) 26 rfl w1.heap.size 57 i7 _ 3 24 Try.underlying26 hi7 hz70 hz71 hz72 rfl (by decide) (.slice sa (P + 1) sc) (P + 1) _ rfl HO8.out.drew ad (T.length - Q) (tc - Q) (tCells (T.drop Q)) (congrArg (fun o => Value.slice o (T.length - Q) (tc - Q)) HEa.out) HZa.out (by rw [tCells_len]; simp) (HCa.out _ HD8.out) (tCells_one _) (by unfold maxLen; omega) (by omega) HD8.out.size ?_; intro vt wt o1 o2; have HNt := toHid (other_row HO8.out.drew HN8.out.drew (by decide) o2); have HTt := toHid o1; have HBt := toHid (row_low HD8.out HD8.out.size HO8.out.drew o2); obtain ⟨ga, gc, rfl⟩ := ownsRow_shape2 o1; obtain ⟨e0, e2, eb⟩ := HSt.out wt HBt.out; obtain ⟨x0, x1, x2, _, _, _⟩ := cellsT e0; clear o1 o2 e0 e2 eb))
              all_goals go_wp2
              all_goals
                go_meet
                case rel => exact ⟨_, _, put3_same HE2.out _ _ _, lfr_put3 (by rw [HSq.out, HTc.out]; exact HTf.out) (by rw [HSq.out, HNc.out]; exact HNf.out) (HD3.out _ HBf.out) HE2.out _ _ _, put3_below (HSt.out _ HBf.out).2.2 (by omega) _ _ _⟩
            · have HTa := toHid hTa; have HUa := toHid hUa; clear hTa hUa
              obtain ⟨ad, HEa⟩ : ∃ ad : Option Addr, Hid (none = ad) := ⟨none, toHid rfl⟩
              have HCa := toHid (show ∀ W, Below w1.heap.size w1 W → ∀ y, ad = some y → ∀ j u, (tCells (T.drop Q))[j]? = some u → W.cell? (y.add j) = some u from fun W hb y hy => by rw [← HEa.out] at hy; cases hy)
              have HZa := toHid (show ad = none → T.length - Q = 0 ∧ tc - Q = 0 from fun _ => by have h1 := HTa.out; have h2 := HUa.out; omega)
              obtain ⟨bd, hbd⟩ : ∃ bd : Option Addr, (if nc = Q then some (⟨zg, 0, none⟩ : Addr) else some ⟨zg, Q, none⟩) = bd := ⟨_, rfl⟩
              have HEb := toHid hbd
              have HCb := toHid (show ∀ W, Below w1.heap.size w1 W → ∀ y, bd = some y → ∀ j u, (nCells (T.drop Q))[j]? = some u → W.cell? (y.add j) = some u from fun W hb y hy j u hu => by
                have hr := own_below H2.out (HSt.out W hb).2.2
                have h2 := hr.cells (g := zg) rfl (Q + j) u (nCells_drop T hQ j u hu)
                rw [← HEb.out] at hy
                by_cases e : nc = Q
                · rw [show T.drop Q = [] from List.drop_eq_nil_of_le (by omega)] at hu; simp [nCells] at hu
                · rw [if_neg e] at hy; injection hy with hy; subst hy; rw [add_plain]; rw [addr_add] at h2; exact h2)
              have HZb := toHid (show bd = none → T.length - Q = 0 ∧ nc - Q = 0 from fun e => by rw [← HEb.out] at e; split at e <;> cases e)
              clear hbd
              go_region_law (first
                | (refine step_append_src rfl (.tmp 47) (.tmp 51) 27 rfl w1.heap.size 30 i3 _ 1 8 Try.underlying27 hi3 hz30 hz31 hz32 rfl (by decide) (.slice ua (P + 1) uc) (P + 1) _ rfl HNt.out bd (T.length - Q) (nc - Q) (nCells (T.drop Q)) (congrArg (fun o => Value.slice o (T.length - Q) (nc - Q)) HEb.out) HZb.out (by rw [nCells_len]; simp) (HCb.out _ HBt.out) (nCells_one _) (by unfold maxLen; omega) (by omega) HBt.out.size ?_; intro v9 w9 o1 o2; have HTf := toHid (other_row HNt.out HTt.out (by decide) o2); have HNf := toHid o1; have HBf := toHid (row_low HBt.out HBt.out.size HNt.out o2); obtain ⟨fa, fc, rfl⟩ := ownsRow_shape2 o1; obtain ⟨e0, e2, eb⟩ := HSt.out w9 HBf.out; obtain ⟨c0, c1, c2, cf0, cf1, cf2⟩ := cellsT e2; obtain ⟨x0, x1, x2, _, _, _⟩ := cellsT e0; have HE2 := toHid e2; clear o1 o2 e0 e2 eb)
                | (refine step_append_src rfl (.tmp 41) (.tmp 45) 26 rfl w1.heap.size 57 i7 _ 3 24 Try.underlying26 hi7 hz70 hz71 hz72 rfl (by decide) (.slice sa (P + 1) sc) (P + 1) _ rfl HO8.out.drew ad (T.length - Q) (tc - Q) (tCells (T.drop Q)) (congrArg (fun o => Value.slice o (T.length - Q) (tc - Q)) HEa.out) HZa.out (by rw [tCells_len]; simp) (HCa.out _ HD8.out) (tCells_one _) (by unfold maxLen; omega) (by omega) HD8.out.size ?_; intro vt wt o1 o2; have HNt := toHid (other_row HO8.out.drew HN8.out.drew (by decide) o2); have HTt := toHid o1; have HBt := toHid (row_low HD8.out HD8.out.size HO8.out.drew o2); obtain ⟨ga, gc, rfl⟩ := ownsRow_shape2 o1; obtain ⟨e0, e2, eb⟩ := HSt.out wt HBt.out; obtain ⟨x0, x1, x2, _, _, _⟩ := cellsT e0; clear o1 o2 e0 e2 eb))
              all_goals simp only [HEb.out]
              all_goals go_wp2
              all_goals
                go_meet
                case rel => exact ⟨_, _, put3_same HE2.out _ _ _, lfr_put3 (by rw [HSq.out, HTc.out]; exact HTf.out) (by rw [HSq.out, HNc.out]; exact HNf.out) (HD3.out _ HBf.out) HE2.out _ _ _, put3_below (HSt.out _ HBf.out).2.2 (by omega) _ _ _⟩
          · rcases own_addr H2.out with ⟨rfl, hTb, hUb⟩ | ⟨zg, _, rfl, _⟩
            · obtain ⟨ad, had⟩ : ∃ ad : Option Addr, (if tc = Q then some (⟨yg, 0, none⟩ : Addr) else some ⟨yg, Q * 3, none⟩) = ad := ⟨_, rfl⟩
              have HEa := toHid had
              have HCa := toHid (show ∀ W, Below w1.heap.size w1 W → ∀ y, ad = some y → ∀ j u, (tCells (T.drop Q))[j]? = some u → W.cell? (y.add j) = some u from fun W hb y hy j u hu => by
                have hr := own_below H1.out (HSt.out W hb).2.2
                have h2 := hr.cells (g := yg) rfl (Q * 3 + j) u (tCells_drop T hQ j u hu)
                rw [← HEa.out] at hy
                by_cases e : tc = Q
                · rw [show T.drop Q = [] from List.drop_eq_nil_of_le (by omega)] at hu; simp [tCells] at hu
                · rw [if_neg e] at hy; injection hy with hy; subst hy; rw [add_plain]; rw [addr_add] at h2; exact h2)
              have HZa := toHid (show ad = none → T.length - Q = 0 ∧ tc - Q = 0 from fun e => by rw [← HEa.out] at e; split at e <;> cases e)
              clear had
              have HTb := toHid hTb; have HUb := toHid hUb; clear hTb hUb
              obtain ⟨bd, HEb⟩ : ∃ bd : Option Addr, Hid (none = bd) := ⟨none, toHid rfl⟩
              have HCb := toHid (show ∀ W, Below w1.heap.size w1 W → ∀ y, bd = some y → ∀ j u, (nCells (T.drop Q))[j]? = some u → W.cell? (y.add j) = some u from fun W hb y hy => by rw [← HEb.out] at hy; cases hy)
              have HZb := toHid (show bd = none → T.length - Q = 0 ∧ nc - Q = 0 from fun _ => by have h1 := HTb.out; have h2 := HUb.out; omega)
              go_region_law (first
                | (refine step_append_src rfl (.tmp 47) (.tmp 51) 27 rfl w1.heap.size 30 i3 _ 1 8 Try.underlying27 hi3 hz30 hz31 hz32 rfl (by decide) (.slice ua (P + 1) uc) (P + 1) _ rfl HNt.out bd (T.length - Q) (nc - Q) (nCells (T.drop Q)) (congrArg (fun o => Value.slice o (T.length - Q) (nc - Q)) HEb.out) HZb.out (by rw [nCells_len]; simp) (HCb.out _ HBt.out) (nCells_one _) (by unfold maxLen; omega) (by omega) HBt.out.size ?_; intro v9 w9 o1 o2; have HTf := toHid (other_row HNt.out HTt.out (by decide) o2); have HNf := toHid o1; have HBf := toHid (row_low HBt.out HBt.out.size HNt.out o2); obtain ⟨fa, fc, rfl⟩ := ownsRow_shape2 o1; obtain ⟨e0, e2, eb⟩ := HSt.out w9 HBf.out; obtain ⟨c0, c1, c2, cf0, cf1, cf2⟩ := cellsT e2; obtain ⟨x0, x1, x2, _, _, _⟩ := cellsT e0; have HE2 := toHid e2; clear o1 o2 e0 e2 eb)
                | (refine step_append_src rfl (.tmp 41) (.tmp 45) 26 rfl w1.heap.size 57 i7 _ 3 24 Try.underlying26 hi7 hz70 hz71 hz72 rfl (by decide) (.slice sa (P + 1) sc) (P + 1) _ rfl HO8.out.drew ad (T.length - Q) (tc - Q) (tCells (T.drop Q)) (congrArg (fun o => Value.slice o (T.length - Q) (tc - Q)) HEa.out) HZa.out (by rw [tCells_len]; simp) (HCa.out _ HD8.out) (tCells_one _) (by unfold maxLen; omega) (by omega) HD8.out.size ?_; intro vt wt o1 o2; have HNt := toHid (other_row HO8.out.drew HN8.out.drew (by decide) o2); have HTt := toHid o1; have HBt := toHid (row_low HD8.out HD8.out.size HO8.out.drew o2); obtain ⟨ga, gc, rfl⟩ := ownsRow_shape2 o1; obtain ⟨e0, e2, eb⟩ := HSt.out wt HBt.out; obtain ⟨x0, x1, x2, _, _, _⟩ := cellsT e0; clear o1 o2 e0 e2 eb))
              all_goals simp only [HEa.out]
              all_goals go_wp2
              all_goals
                go_meet
                case rel => exact ⟨_, _, put3_same HE2.out _ _ _, lfr_put3 (by rw [HSq.out, HTc.out]; exact HTf.out) (by rw [HSq.out, HNc.out]; exact HNf.out) (HD3.out _ HBf.out) HE2.out _ _ _, put3_below (HSt.out _ HBf.out).2.2 (by omega) _ _ _⟩
            · obtain ⟨ad, had⟩ : ∃ ad : Option Addr, (if tc = Q then some (⟨yg, 0, none⟩ : Addr) else some ⟨yg, Q * 3, none⟩) = ad := ⟨_, rfl⟩
              have HEa := toHid had
              have HCa := toHid (show ∀ W, Below w1.heap.size w1 W → ∀ y, ad = some y → ∀ j u, (tCells (T.drop Q))[j]? = some u → W.cell? (y.add j) = some u from fun W hb y hy j u hu => by
                have hr := own_below H1.out (HSt.out W hb).2.2
                have h2 := hr.cells (g := yg) rfl (Q * 3 + j) u (tCells_drop T hQ j u hu)
                rw [← HEa.out] at hy
                by_cases e : tc = Q
                · rw [show T.drop Q = [] from List.drop_eq_nil_of_le (by omega)] at hu; simp [tCells] at hu
                · rw [if_neg e] at hy; injection hy with hy; subst hy; rw [add_plain]; rw [addr_add] at h2; exact h2)
              have HZa := toHid (show ad = none → T.length - Q = 0 ∧ tc - Q = 0 from fun e => by rw [← HEa.out] at e; split at e <;> cases e)
              clear had
              obtain ⟨bd, hbd⟩ : ∃ bd : Option Addr, (if nc = Q then some (⟨zg, 0, none⟩ : Addr) else some ⟨zg, Q, none⟩) = bd := ⟨_, rfl⟩
              have HEb := toHid hbd
              have HCb := toHid (show ∀ W, Below w1.heap.size w1 W → ∀ y, bd = some y → ∀ j u, (nCells (T.drop Q))[j]? = some u → W.cell? (y.add j) = some u from fun W hb y hy j u hu => by
                have hr := own_below H2.out (HSt.out W hb).2.2
                have h2 := hr.cells (g := zg) rfl (Q + j) u (nCells_drop T hQ j u hu)
                rw [← HEb.out] at hy
                by_cases e : nc = Q
                · rw [show T.drop Q = [] from List.drop_eq_nil_of_le (by omega)] at hu; simp [nCells] at hu
                · rw [if_neg e] at hy; injection hy with hy; subst hy; rw [add_plain]; rw [addr_add] at h2; exact h2)
              have HZb := toHid (show bd = none → T.length - Q = 0 ∧ nc - Q = 0 from fun e => by rw [← HEb.out] at e; split at e <;> cases e)
              clear hbd
              go_region_law (first
                | (refine step_append_src rfl (.tmp 47) (.tmp 51) 27 rfl w1.heap.size 30 i3 _ 1 8 Try.underlying27 hi3 hz30 hz31 hz32 rfl (by decide) (.slice ua (P + 1) uc) (P + 1) _ rfl HNt.out bd (T.length - Q) (nc - Q) (nCells (T.drop Q)) (congrArg (fun o => Value.slice o (T.length - Q) (nc - Q)) HEb.out) HZb.out (by rw [nCells_len]; simp) (HCb.out _ HBt.out) (nCells_one _) (by unfold maxLen; omega) (by omega) HBt.out.size ?_; intro v9 w9 o1 o2; have HTf := toHid (other_row HNt.out HTt.out (by decide) o2); have HNf := toHid o1; have HBf := toHid (row_low HBt.out HBt.out.size HNt.out o2); obtain ⟨fa, fc, rfl⟩ := ownsRow_shape2 o1; obtain ⟨e0, e2, eb⟩ := HSt.out w9 HBf.out; obtain ⟨c0, c1, c2, cf0, cf1, cf2⟩ := cellsT e2; obtain ⟨x0, x1, x2, _, _, _⟩ := cellsT e0; have HE2 := toHid e2; clear o1 o2 e0 e2 eb)
                | (refine step_append_src rfl (.tmp 41) (.tmp 45) 26 rfl w1.heap.size 57 i7 _ 3 24 Try.underlying26 hi7 hz70 hz71 hz72 rfl (by decide) (.slice sa (P + 1) sc) (P + 1) _ rfl HO8.out.drew ad (T.length - Q) (tc - Q) (tCells (T.drop Q)) (congrArg (fun o => Value.slice o (T.length - Q) (tc - Q)) HEa.out) HZa.out (by rw [tCells_len]; simp) (HCa.out _ HD8.out) (tCells_one _) (by unfold maxLen; omega) (by omega) HD8.out.size ?_; intro vt wt o1 o2; have HNt := toHid (other_row HO8.out.drew HN8.out.drew (by decide) o2); have HTt := toHid o1; have HBt := toHid (row_low HD8.out HD8.out.size HO8.out.drew o2); obtain ⟨ga, gc, rfl⟩ := ownsRow_shape2 o1; obtain ⟨e0, e2, eb⟩ := HSt.out wt HBt.out; obtain ⟨x0, x1, x2, _, _, _⟩ := cellsT e0; clear o1 o2 e0 e2 eb))
              all_goals simp only [HEa.out, HEb.out]
              all_goals go_wp2
              all_goals
                go_meet
                case rel => exact ⟨_, _, put3_same HE2.out _ _ _, lfr_put3 (by rw [HSq.out, HTc.out]; exact HTf.out) (by rw [HSq.out, HNc.out]; exact HNf.out) (HD3.out _ HBf.out) HE2.out _ _ _, put3_below (HSt.out _ HBf.out).2.2 (by omega) _ _ _⟩
        case rest =>
          obtain ⟨vt', vn', hz, hr, hbz⟩ := hcut
          have HZ := toHid hz
          have HR := toHid hr
          have HBz := toHid hbz
          clear hz hr hbz
          go_wp2
          refine bodyPost_ret (results_cell_row (P := Try.prog) Try.results33 _ _ (w.heap.size + 1 + 1) 37 _ (0, 0) _ rfl HZ.out Try.underlying37 rfl (by kernel_rfl)) rfl ⟨vt', vn', rfl, HR.out, HBz.out⟩
end Go.Proofs.Yticnkppnpfgceaa.Mg
