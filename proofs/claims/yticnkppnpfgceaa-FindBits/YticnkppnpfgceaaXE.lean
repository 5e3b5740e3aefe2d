/-
  Texts put together: FRg FRd.
-/
import Derived.Test.YticnkppnpfgceaaFRb
namespace Go.Proofs.Yticnkppnpfgceaa.Mg
open Go.RowKit

set_option maxRecDepth 100000 in
set_option maxHeartbeats 4000000 in
theorem gone41 {w : World} {vt vn vd : Value} {x : Lf} (h : LfR w 0 vt vn vd x) (hx : Ris x.t) (hl : x.t.length ≤ 1000) (id : Int) :
    Calls Try.prog 41 #[.agg (rfC vt vn vd), .int .i64 id] w fun e w' => ∃ vt' vn', e = .returned (.agg (rfC vt' vn' vd)) ∧ LfR w' 0 vt' vn' vd ⟨goneL x.t id, x.d⟩ ∧ Below w.heap.size w w' := by
  obtain ⟨i7, hi7, hz70, hz71, hz72⟩ := info_parts Try.info57
  obtain ⟨i3, hi3, hz30, hz31, hz32⟩ := info_parts Try.info30
  have HL := toHid h
  obtain ⟨T, Dd⟩ := x
  have hAt := fun W (hb : Below w.heap.size w W) => at42 (h.below hb) hx hl id
  obtain ⟨h1, h2, h3⟩ := h
  dsimp only at h1 h2 h3 hx hl hAt ⊢
  obtain ⟨ta, tc, rfl⟩ := ownsRow_shape2 h1
  obtain ⟨na, nc, rfl⟩ := ownsRow_shape2 h2
  obtain ⟨da, dc, rfl⟩ := ownsRow_shape2 h3
  have HAt := toHid hAt
  have H1 := toHid h1
  have H2 := toHid h2
  have H3 := toHid h3
  clear hAt h1 h2 h3
  obtain ⟨P, hP⟩ : ∃ P, posL T id = P := ⟨_, rfl⟩
  have hPl : P ≤ T.length := hP ▸ posL_le
  obtain ⟨W0, hW0⟩ : ∃ W0, W0 = ((w.alloc (.cells (rfC (.slice ta T.length tc) (.slice na T.length nc) (.slice da Dd.length dc)) 37)).alloc (.cells #[.slice none 0 0, .slice none 0 0, .slice none 0 0] 37)) := ⟨_, rfl⟩
  have hb0 : Below w.heap.size w W0 := hW0 ▸ ((Below.refl _ _).alloc (Nat.le_refl _) _).alloc (by simp) _
  have k0 : W0.heap[w.heap.size]? = some (.cells (rfC (.slice ta T.length tc) (.slice na T.length nc) (.slice da Dd.length dc)) 37) := hW0 ▸ heap_alloc2_old w _ _
  have k2 : W0.heap[w.heap.size + 1]? = some (.cells #[.slice none 0 0, .slice none 0 0, .slice none 0 0] 37) := hW0 ▸ heap_alloc2_new w _ _
  have HB0 := toHid hb0
  have HK0 := toHid k0
  have HK2 := toHid k2
  have HC := toHid (HAt.out W0 hb0)
  rw [hP] at HC
  have HG0 := toHid (fun hk => goneL_none (l := T) (x := id) hk)
  have HGo := toHid (fun u hk => goneL_old (x := id) (w := u) hx hk)
  have HGt := toHid (fun u hk => posL_lt (x := id) (w := u) hx hk)
  obtain ⟨bb, hbb⟩ : ∃ bb, (look T id).isSome = bb := ⟨_, rfl⟩
  rw [hbb] at HC
  have HW0 := toHid hW0
  clear hb0 k0 k2 hW0 HAt
  go_enter Try.func41, Try.ntmps41
  go_wp2_with fail
  rw [← HW0.out]
  refine Calls.mono HC.out ?_
  rintro e w1 ⟨rfl, hb1⟩
  have k0 := (hb1.block _ (some_lt HK0.out)).trans HK0.out
  have k2 := (hb1.block _ (some_lt HK2.out)).trans HK2.out
  have HB1 := toHid (HB0.out.trans (hb1.mono HB0.out.size))
  have HL0 := toHid k0
  have HL2 := toHid k2
  obtain ⟨a0, a1, a2, _, _, _⟩ := cellsT k0
  clear hb1 HC HW0 HK0 HK2 HB0 k0
  cases bb
  · have HPu := toHid (HG0.out (by cases hk : look T id with | none => rfl | some u => rw [hk] at hbb; cases hbb))
    obtain ⟨c0, c1, c2, cf0, cf1, cf2⟩ := cellsT k2
    clear k2
    go_wp2
    refine bodyPost_ret (results_cell_row (P := Try.prog) Try.results41 _ _ (w.heap.size + 1) 37 (rfC (.slice ta T.length tc) (.slice na T.length nc) (.slice da Dd.length dc)) (0, 0) _ rfl (put3_same HL2.out _ _ _) Try.underlying37 rfl (by kernel_rfl)) rfl ⟨_, _, rfl, ?_, put3_below HB1.out (by omega) _ _ _⟩
    rw [HPu.out]
    exact HL.out.below (put3_below HB1.out (by omega) _ _ _)
  obtain ⟨u, hk⟩ : ∃ u, look T id = some u := by cases hk : look T id with | none => rw [hk] at hbb; cases hbb | some u => exact ⟨u, rfl⟩
  have HPu := toHid (HGo.out u hk)
  have hPt := HGt.out u hk
  rw [hP] at HPu hPt
  clear hk HG0 HGo HGt k2 hbb
  obtain ⟨yg, rfl, hm1⟩ : ∃ g, ta = some ⟨g, 0, none⟩ ∧ T.length ≤ tc := by
    rcases own_addr H1.out with ⟨_, h, _⟩ | ⟨g, _, h, _, _, h2, _⟩
    · omega
    · exact ⟨g, h, h2⟩
  obtain ⟨zg, rfl, hm2⟩ : ∃ g, na = some ⟨g, 0, none⟩ ∧ T.length ≤ nc := by
    rcases own_addr H2.out with ⟨_, h, _⟩ | ⟨g, _, h, _, _, h2, _⟩
    · omega
    · exact ⟨g, h, h2⟩
  have HS1 := toHid (show ∀ W, Below w.heap.size w W → ∀ j u, (tCells T)[j]? = some u → W.cell? ((⟨yg, 0, none⟩ : Addr).add j) = some u from fun W hb j u hu => (own_below H1.out hb).cells (g := yg) rfl j u hu)
  have HS2 := toHid (show ∀ W, Below w.heap.size w W → ∀ j u, (nCells T)[j]? = some u → W.cell? ((⟨zg, 0, none⟩ : Addr).add j) = some u from fun W hb j u hu => (own_below H2.out hb).cells (g := zg) rfl j u hu)
  have hPi : (P : Int) ≤ (T.length : Int) := by omega
  have hP0 : 0 ≤ (P : Int) := by omega
  have hm3 : (P : Int) ≤ (tc : Int) := by omega
  have hm4 : (P : Int) ≤ (nc : Int) := by omega
  have hs1 := HB1.out.size
  have HSt := toHid (show ∀ W, Below w1.heap.size w1 W → W.heap[w.heap.size]? = some (.cells (rfC (.slice (some ⟨yg, 0, none⟩) T.length tc) (.slice (some ⟨zg, 0, none⟩) T.length nc) (.slice da Dd.length dc)) 37) ∧ W.heap[w.heap.size + 1]? = some (.cells #[.slice none 0 0, .slice none 0 0, .slice none 0 0] 37) ∧ Below w.heap.size w W from fun W hb => ⟨(hb.block _ (some_lt HL0.out)).trans HL0.out, (hb.block _ (some_lt HL2.out)).trans HL2.out, HB1.out.trans (hb.mono HB1.out.size)⟩)
  go_upto_region 6 with fail
  go_wp2_with (at_builtin; go_must (first
    | (refine wpList_append_src _ rfl (.tmp 24) (.tmp 28) 27 rfl w1.heap.size 30 i3 _ 1 8 Try.underlying27 hi3 hz30 hz31 hz32 rfl (by decide) (.slice none 0 0) 0 [] rfl (World.ownsRow_nil _ _ _ _) (some ⟨zg, 0, none⟩) P nc (nCells (T.take P)) rfl (fun e => by cases e) (by rw [nCells_len]; simp; omega) (fun z hz j u hu => by injection hz with hz; subst hz; exact HS2.out _ (HSt.out _ HG2.out).2.2 j u (nCells_take T P j u hu)) (nCells_one _) (by unfold maxLen; omega) (by omega) HG2.out.size ?_; intro v3 w3 o1 o2 _; rw [Nat.zero_add, List.nil_append] at o1; have HN3 := toHid o1; have HO3 := toHid (other_row (World.ownsRow_nil w2 w1.heap.size 30 1) HO2.out (by decide) o2); have HG3 := toHid (row_low HG2.out HG2.out.size (World.ownsRow_nil w2 w1.heap.size 30 1) o2); obtain ⟨ra, rc, rfl⟩ := ownsRow_shape2 o1; obtain ⟨e0, e2, eb⟩ := HSt.out w3 HG3.out; obtain ⟨a0, a1, a2, _, _, _⟩ := cellsT e0; clear o1 o2 e0 e2 eb HG2 HO2)
    | (refine wpList_append_src _ rfl (.tmp 18) (.tmp 22) 26 rfl w1.heap.size 57 i7 _ 3 24 Try.underlying26 hi7 hz70 hz71 hz72 rfl (by decide) (.slice none 0 0) 0 [] rfl (World.ownsRow_nil _ _ _ _) (some ⟨yg, 0, none⟩) P tc (tCells (T.take P)) rfl (fun e => by cases e) (by rw [tCells_len]; simp; omega) (fun z hz j u hu => by injection hz with hz; subst hz; exact HS1.out _ HB1.out j u (tCells_take T P j u hu)) (tCells_one _) (by unfold maxLen; omega) (by omega) (Nat.le_refl _) ?_; intro v2 w2 o1 o2 _; rw [Nat.zero_add, List.nil_append] at o1; have HO2 := toHid o1; have HG2 := toHid ((Below.refl w1.heap.size w1).grown o2 (Nat.le_refl _) (by simp [Value.ownBlock])); obtain ⟨qa, qc, rfl⟩ := ownsRow_shape2 o1; obtain ⟨e0, e2, eb⟩ := HSt.out w2 HG2.out; clear a0 a1 a2; obtain ⟨a0, a1, a2, _, _, _⟩ := cellsT e0; clear o1 o2 e0 e2 eb)))
  have hs3 := HG3.out.size
  obtain ⟨Q, hQ⟩ : ∃ Q, P + 1 = Q := ⟨_, rfl⟩
  have hwr : IntKind.i64.wrap ((P : Int) + 1) = (Q : Int) := by rw [IntKind.wrap_i64]; omega
  have hQi : (Q : Int) ≤ (T.length : Int) := by omega
  have hQ0 : 0 ≤ (Q : Int) := by omega
  have hq3 : (Q : Int) ≤ (tc : Int) := by omega
  have hq4 : (Q : Int) ≤ (nc : Int) := by omega
  have HQ := toHid hQ
  rw [hQ] at HPu
  clear hQ
  have hsq : (goneL T id).length = P + (T.length - Q) := by rw [HPu.out]; simp; have := HQ.out; omega
  have HSq := toHid hsq
  have HTc := toHid (show tCells (goneL T id) = tCells (T.take P) ++ tCells (T.drop Q) by rw [HPu.out]; simp [tCells])
  have HNc := toHid (show nCells (goneL T id) = nCells (T.take P) ++ nCells (T.drop Q) by rw [HPu.out]; simp [nCells])
  have HD3 := toHid (fun W (hb : Below w1.heap.size w1 W) => own_below H3.out (HSt.out W hb).2.2)
  obtain ⟨ad, had⟩ : ∃ ad : Option Addr, (if tc = Q then some (⟨yg, 0, none⟩ : Addr) else some ⟨yg, Q * 3, none⟩) = ad := ⟨_, rfl⟩
  have HEa := toHid had
  have HCa := toHid (show ∀ W, Below w1.heap.size w1 W → ∀ y, ad = some y → ∀ j u, (tCells (T.drop Q))[j]? = some u → W.cell? (y.add j) = some u from fun W hb y hy j u hu => by
    have h2 := HS1.out _ (HSt.out W hb).2.2 (Q * 3 + j) u (tCells_drop T (by have := HQ.out; omega) j u hu)
    rw [← HEa.out] at hy
    by_cases e : tc = Q
    · rw [show T.drop Q = [] from List.drop_eq_nil_of_le (by have := HQ.out; omega)] at hu; simp [tCells] at hu
    · rw [if_neg e] at hy; injection hy with hy; subst hy; rw [add_plain]; rw [addr_add] at h2; exact h2)
  have HZa := toHid (show ad = none → T.length - Q = 0 ∧ tc - Q = 0 from fun e => by rw [← HEa.out] at e; split at e <;> cases e)
  obtain ⟨bd, hbd⟩ : ∃ bd : Option Addr, (if nc = Q then some (⟨zg, 0, none⟩ : Addr) else some ⟨zg, Q, none⟩) = bd := ⟨_, rfl⟩
  have HEb := toHid hbd
  have HCb := toHid (show ∀ W, Below w1.heap.size w1 W → ∀ y, bd = some y → ∀ j u, (nCells (T.drop Q))[j]? = some u → W.cell? (y.add j) = some u from fun W hb y hy j u hu => by
    have h2 := HS2.out _ (HSt.out W hb).2.2 (Q + j) u (nCells_drop T (by have := HQ.out; omega) j u hu)
    rw [← HEb.out] at hy
    by_cases e : nc = Q
    · rw [show T.drop Q = [] from List.drop_eq_nil_of_le (by have := HQ.out; omega)] at hu; simp [nCells] at hu
    · rw [if_neg e] at hy; injection hy with hy; subst hy; rw [add_plain]; rw [addr_add] at h2; exact h2)
  have HZb := toHid (show bd = none → T.length - Q = 0 ∧ nc - Q = 0 from fun e => by rw [← HEb.out] at e; split at e <;> cases e)
  clear had hbd hsq
  have HD8 := toHid (show Below w1.heap.size w1 w3.drew from ⟨HG3.out.os, HG3.out.tape, HG3.out.output, HG3.out.size, HG3.out.block⟩)
  go_region_law (first
    | (refine step_append_src rfl (.tmp 37) (.tmp 42) 27 rfl w1.heap.size 30 i3 _ 1 8 Try.underlying27 hi3 hz30 hz31 hz32 rfl (by decide) (.slice ra P rc) P _ rfl HNt.out bd (T.length - Q) (nc - Q) (nCells (T.drop Q)) (congrArg (fun o => Value.slice o (T.length - Q) (nc - Q)) HEb.out) HZb.out (by rw [nCells_len]; simp) (HCb.out _ HBt.out) (nCells_one _) (by have := HQ.out; unfold maxLen; omega) (by have := HQ.out; omega) HBt.out.size ?_; intro v9 w9 o1 o2; have HTf := toHid (other_row HNt.out HTt.out (by decide) o2); have HNf := toHid o1; have HBf := toHid (row_low HBt.out HBt.out.size HNt.out o2); obtain ⟨fa, fc, rfl⟩ := ownsRow_shape2 o1; obtain ⟨e0, e2, eb⟩ := HSt.out w9 HBf.out; obtain ⟨c0, c1, c2, cf0, cf1, cf2⟩ := cellsT e2; obtain ⟨x0, x1, x2, _, _, _⟩ := cellsT e0; have HE2 := toHid e2; clear o1 o2 e0 e2 eb)
    | (refine step_append_src rfl (.tmp 30) (.tmp 35) 26 rfl w1.heap.size 57 i7 _ 3 24 Try.underlying26 hi7 hz70 hz71 hz72 rfl (by decide) (.slice qa P qc) P _ rfl HO3.out.drew ad (T.length - Q) (tc - Q) (tCells (T.drop Q)) (congrArg (fun o => Value.slice o (T.length - Q) (tc - Q)) HEa.out) HZa.out (by rw [tCells_len]; simp) (HCa.out _ HD8.out) (tCells_one _) (by have := HQ.out; unfold maxLen; omega) (by have := HQ.out; omega) HD8.out.size ?_; intro vt wt o1 o2; have HNt := toHid (other_row HO3.out.drew HN3.out.drew (by decide) o2); have HTt := toHid o1; have HBt := toHid (row_low HD8.out HD8.out.size HO3.out.drew o2); obtain ⟨ga, gc, rfl⟩ := ownsRow_shape2 o1; obtain ⟨e0, e2, eb⟩ := HSt.out wt HBt.out; obtain ⟨x0, x1, x2, _, _, _⟩ := cellsT e0; clear o1 o2 e0 e2 eb))
  all_goals simp only [HEa.out, HEb.out]
  all_goals go_wp2
  all_goals refine bodyPost_ret (results_cell_row (P := Try.prog) Try.results41 _ _ (w.heap.size + 1) 37 _ (0, 0) _ rfl (put3_same HE2.out _ _ _) Try.underlying37 rfl (by kernel_rfl)) rfl ⟨_, _, rfl, lfr_put3 (by rw [HSq.out, HTc.out]; exact HTf.out) (by rw [HSq.out, HNc.out]; exact HNf.out) (HD3.out _ HBf.out) HE2.out _ _ _, put3_below (HSt.out _ HBf.out).2.2 (by omega) _ _ _⟩
end Go.Proofs.Yticnkppnpfgceaa.Mg

namespace Go.Proofs.Yticnkppnpfgceaa.Mg
open Go.RowKit

theorem Try.info60' : (Try.prog.info? 60).map (fun i => (i.zero, i.size, i.bytes)) = some (some (.agg #[.int .i64 0, .int .u64 0]), 2, 16) := Try.info60
theorem dCells_take (T : List (Int × Nat)) (p : Nat) : ∀ (j : Nat) (u : Value), (dCells (T.take p))[j]? = some u → (dCells T)[j]? = some u := fun j u hu => by
  have e : dCells T = dCells (T.take p) ++ dCells (T.drop p) := by unfold dCells; rw [← List.flatMap_append, List.take_append_drop]
  have hj : j < (dCells (T.take p)).length := (List.getElem?_eq_some_iff.1 hu).1
  rw [e, List.getElem?_append_left hj]
  exact hu
theorem dCells_len (T : List (Int × Nat)) : (dCells T).length = T.length * 2 := flat_len _ 2 (fun _ => rfl) T
theorem dCells_drop (T : List (Int × Nat)) {p : Nat} (hp : p ≤ T.length) : ∀ (j : Nat) (u : Value), (dCells (T.drop p))[j]? = some u → (dCells T)[p * 2 + j]? = some u := fun j u hu => by
  have e : dCells T = dCells (T.take p) ++ dCells (T.drop p) := by unfold dCells; rw [← List.flatMap_append, List.take_append_drop]
  have hl : (dCells (T.take p)).length = p * 2 := by rw [dCells_len]; simp; omega
  rw [e, List.getElem?_append_right (by omega), hl, Nat.add_sub_cancel_left]
  exact hu
theorem dCells_one (T : List (Int × Nat)) : ∀ u ∈ dCells T, u.oneCell' = true := by
  intro u hu
  unfold dCells at hu
  obtain ⟨p, _, h⟩ := List.mem_flatMap.1 hu
  simp at h
  rcases h with rfl | rfl <;> rfl
theorem lfr_put3d {W : World} {B g : Nat} {vt vn vd a b c : Value} {T : List (Int × Gt)} {Dd : List (Int × Nat)} (hT : W.ownsRow 0 57 3 vt T.length (tCells T)) (hN : W.ownsRow 0 30 1 vn T.length (nCells T)) (hD : W.ownsRow B 60 2 vd Dd.length (dCells Dd)) (hg : W.heap[g]? = some (.cells #[a, b, c] 37)) (p q r : Value) :
    LfR (((W.setCell ⟨g, 0, none⟩ p).setCell ⟨g, 1, none⟩ q).setCell ⟨g, 2, none⟩ r) 0 vt vn vd ⟨T, Dd⟩ := by
  have key : ∀ (k : Nat) (cs : Array Value) (e : TypeId), W.heap[k]? = some (Obj.cells cs e) → e ≠ 37 → (((W.setCell ⟨g, 0, none⟩ p).setCell ⟨g, 1, none⟩ q).setCell ⟨g, 2, none⟩ r).heap[k]? = W.heap[k]? := fun k cs e hk he => by
    have hne : k ≠ g := kind_block hk hg he
    rw [Below.heap_setCell _ _ _ _ hne, Below.heap_setCell _ _ _ _ hne, Below.heap_setCell _ _ _ _ hne]
  exact ⟨own_stay hT fun k c _ hc => key k c _ hc (by decide), own_stay hN fun k c _ hc => key k c _ hc (by decide), ownsRow_base (own_stay hD fun k c _ hc => key k c _ hc (by decide)) (Nat.zero_le _)⟩
theorem dcell0 {W : World} {B c : Nat} {va : Option Addr} {d : List (Int × Nat)} (h : W.ownsRow B 60 2 (.slice va d.length c) d.length (dCells d)) {k : Nat} (hk : k < d.length) : ∃ g, va = some ⟨g, 0, none⟩ ∧ g < W.heap.size ∧ W.cell? ⟨g, k * 2, none⟩ = some (.int .i64 d[k].1) := by
  have hf : (dCells d)[k * 2 + 0]? = some (Value.int .i64 d[k].1) := by
    unfold dCells
    rw [flat_get (fun p : Int × Nat => [Value.int .i64 p.1, .int .u64 (p.2 : Int)]) 2 (fun _ => rfl) d k 0 (by omega), List.getElem?_eq_getElem hk]
    rfl
  rcases h.2 with ⟨h0, h1⟩ | ⟨g, cap, cur, e, _⟩
  · omega
  · injection e with e1
    subst e1
    have c0 := h.cells (g := g) rfl (k * 2) _ hf
    rw [addr_add] at c0
    exact ⟨g, rfl, World.block_lt_of_cell? _ _ c0, c0⟩

set_option maxRecDepth 100000 in
set_option maxHeartbeats 4000000 in
theorem dirty34 {w : World} {vt vn vd : Value} {x : Lf} (h : LfR w 0 vt vn vd x) (hx : Ris x.d) (hl : x.d.length ≤ 1000) (page : Int) (n : Nat) :
    Calls Try.prog 34 #[.agg (rfC vt vn vd), .int .i64 page, .int .u64 (n : Int)] w fun e w' => ∃ vd', e = .returned (.agg (rfC vt vn vd')) ∧ LfR w' 0 vt vn vd' ⟨x.t, soilL x.d page n⟩ ∧ Below w.heap.size w w' := by
  obtain ⟨i6, hi6, hz60, hz61, hz62⟩ := info_parts Try.info60
  have HL := toHid h
  obtain ⟨T, D⟩ := x
  obtain ⟨h1, h2, h3⟩ := h
  dsimp only at h1 h2 h3 hx hl ⊢
  obtain ⟨ta, tc, rfl⟩ := ownsRow_shape2 h1
  obtain ⟨na, nc, rfl⟩ := ownsRow_shape2 h2
  obtain ⟨da, dc, rfl⟩ := ownsRow_shape2 h3
  have H1 := toHid h1
  have H2 := toHid h2
  have H3 := toHid h3
  have HX := toHid hx
  clear h1 h2 h3 hx
  have HB := toHid (show Below w.heap.size w ((w.alloc (.cells (rfC (.slice ta T.length tc) (.slice na T.length nc) (.slice da D.length dc)) 37)).alloc (.cells #[.slice none 0 0, .slice none 0 0, .slice none 0 0] 37)) from ((Below.refl _ _).alloc (Nat.le_refl _) _).alloc (by simp) _)
  have HK0 := toHid (heap_alloc2_old w (.cells (rfC (.slice ta T.length tc) (.slice na T.length nc) (.slice da D.length dc)) 37) (.cells #[.slice none 0 0, .slice none 0 0, .slice none 0 0] 37))
  have HK2 := toHid (heap_alloc2_new w (.cells (rfC (.slice ta T.length tc) (.slice na T.length nc) (.slice da D.length dc)) 37) (.cells #[.slice none 0 0, .slice none 0 0, .slice none 0 0] 37))
  go_enter Try.func34, Try.ntmps34
  go_wp2_with fail
  go_loopw [7] (fun i W => ∃ k : Nat, k ≤ D.length ∧ i = .int .i64 k ∧ (∀ j, (hj : j < D.length) → j < k → D[j].1 < page) ∧ Below w.heap.size w W ∧ W.heap[w.heap.size]? = some (.cells (rfC (.slice ta T.length tc) (.slice na T.length nc) (.slice da D.length dc)) 37) ∧ W.heap[w.heap.size + 1]? = some (.cells #[.slice none 0 0, .slice none 0 0, .slice none 0 0] 37)) (fun i _ => D.length - (intOf i).toNat)
  case atStart => exact ⟨0, Nat.zero_le _, rfl, fun j _ h => by omega, HB.out, HK0.out, HK2.out⟩
  case round =>
    obtain ⟨P, hPl, rfl, hlow, hbw, hx0, hx2⟩ := hrel
    have HLo := toHid hlow
    have HB1 := toHid hbw
    have HL0 := toHid hx0
    have HL2 := toHid hx2
    obtain ⟨a0, a1, a2, _, _, _⟩ := cellsT hx0
    clear hlow hbw hx0 hx2 HB HK0 HK2
    by_cases hkl : P < D.length
    · obtain ⟨yg, rfl, hgl, y0⟩ := dcell0 (own_below H3.out HB1.out) hkl
      have HU := toHid (show D.length ≤ dc from by
        rcases own_addr H3.out with ⟨h, _, _⟩ | ⟨g, _, h, _, _, h2, _⟩
        · cases h
        · exact h2)
      have hk1 : (P : Int) < (D.length : Int) := by omega
      have hk2 : 0 ≤ (P : Int) := by omega
      by_cases hge : page ≤ D[P].1
      · have hPp := posL_of (x := page) (Nat.le_of_lt hkl) HLo.out (fun _ => hge)
        have hLk := look_posL (l := D) (x := page) HX.out
        rw [dif_pos (by rw [hPp]; exact hkl)] at hLk
        have e1 : D[posL D page]'(by rw [hPp]; exact hkl) = D[P] := by simp only [hPp]
        rw [e1] at hLk
        by_cases he : D[P].1 = page
        · rw [if_pos he] at hLk
          have HQ := toHid (show soilL D page n = D by simp [soilL, hLk])
          have q1 : (D[P].1 == page) = true := by simp [he]
          obtain ⟨c0, c1, c2, cf0, cf1, cf2⟩ := cellsT HL2.out
          clear he hLk e1 hPp
          go_wp2
          refine bodyPost_ret (results_cell_row (P := Try.prog) Try.results34 _ _ (w.heap.size + 1) 37 (rfC (.slice ta T.length tc) (.slice na T.length nc) (.slice (some ⟨yg, 0, none⟩) D.length dc)) (0, 0) _ rfl (put3_same HL2.out _ _ _) Try.underlying37 rfl (by kernel_rfl)) rfl ⟨_, rfl, ?_, put3_below HB1.out (by omega) _ _ _⟩
          rw [HQ.out]
          exact HL.out.below (put3_below HB1.out (by omega) _ _ _)
        · rw [if_neg he] at hLk
          have HQ := toHid (show soilL D page n = D.take P ++ (page, n) :: D.drop P by
            have := putL_new HX.out hLk n
            rw [hPp] at this
            simp [soilL, hLk, this])
          have q1 : (D[P].1 == page) = false := by simp [he]
          clear he hLk e1 hPp
          have hPi : (P : Int) ≤ (D.length : Int) := by omega
          have hP0 : 0 ≤ (P : Int) := by omega
          have hm3 : (P : Int) ≤ (dc : Int) := by have h2 := HU.out; omega
          obtain ⟨ad, had⟩ : ∃ ad : Option Addr, (if dc = P then some (⟨yg, 0, none⟩ : Addr) else some ⟨yg, P * 2, none⟩) = ad := ⟨_, rfl⟩
          have HEa := toHid had
          have HCa := toHid (show ∀ W, Below w.heap.size w W → ∀ y, ad = some y → ∀ j u, (dCells (D.drop P))[j]? = some u → W.cell? (y.add j) = some u from fun W hb y hy j u hu => by
            have h2 := (own_below H3.out hb).cells (g := yg) rfl (P * 2 + j) u (dCells_drop D (by omega) j u hu)
            rw [← HEa.out] at hy
            by_cases e : dc = P
            · have h3 := HU.out; rw [show D.drop P = [] from List.drop_eq_nil_of_le (by omega)] at hu; simp [dCells] at hu
            · rw [if_neg e] at hy; injection hy with hy; subst hy; rw [add_plain]; rw [addr_add] at h2; exact h2)
          have HZa := toHid (show ad = none → D.length - P = 0 ∧ dc - P = 0 from fun e => by rw [← HEa.out] at e; split at e <;> cases e)
          have HCz := toHid (show ∀ W, Below w.heap.size w W → ∀ y, some (⟨yg, 0, none⟩ : Addr) = some y → ∀ j u, (dCells (D.take P))[j]? = some u → W.cell? (y.add j) = some u from fun W hb y hy j u hu => by
            injection hy with hy; subst hy
            exact (own_below H3.out hb).cells (g := yg) rfl j u (dCells_take D P j u hu))
          have HZz := toHid (show some (⟨yg, 0, none⟩ : Addr) = none → P = 0 ∧ dc = 0 from fun e => by cases e)
          clear had
          have HSq := toHid (show (soilL D page n).length = P + 1 + (D.length - P) by rw [HQ.out]; simp; omega)
          have HDc := toHid (show dCells (soilL D page n) = (dCells (D.take P) ++ [.int .i64 page, .int .u64 (n : Int)]) ++ dCells (D.drop P) by rw [HQ.out]; simp [dCells])
          have HSt := toHid (show ∀ W, Below wr.heap.size wr W → W.heap[w.heap.size]? = some (.cells (rfC (.slice ta T.length tc) (.slice na T.length nc) (.slice (some ⟨yg, 0, none⟩) D.length dc)) 37) ∧ W.heap[w.heap.size + 1]? = some (.cells #[.slice none 0 0, .slice none 0 0, .slice none 0 0] 37) ∧ Below w.heap.size w W from fun W hb => ⟨(hb.block _ (some_lt HL0.out)).trans HL0.out, (hb.block _ (some_lt HL2.out)).trans HL2.out, HB1.out.trans (hb.mono HB1.out.size)⟩)
          have hs1 := HB1.out.size
          go_upto_region 7 with fail
          go_wp2_with (at_builtin; go_must (first
            | (refine wpList_append_own _ rfl (.tmp 48) (.tmp 52) 28 rfl wr.heap.size 60 i6 _ 2 16 Try.underlying28 hi6 hz60 hz61 hz62 rfl (by decide) _ P _ rfl (HO2.out.alloc _) ⟨w2.heap.size, 0, none⟩ 1 1 [_, _] rfl rfl (cell_two_at _ _ _ _) (by intro u hu; simp at hu; rcases hu with rfl | rfl <;> rfl) (by unfold maxLen; omega) (by omega) (by have := HG2.out.size; simp; omega) ?_; intro v3 w3 o1 o2 _; have HO3 := toHid o1; have HG3 := toHid (row_low (HG2.out.alloc HG2.out.size (.cells #[.int .i64 page, .int .u64 (n : Int)] 60)) (by have := HG2.out.size; simp; omega) (HO2.out.alloc (.cells #[.int .i64 page, .int .u64 (n : Int)] 60)) o2); obtain ⟨ra, rc, rfl⟩ := ownsRow_shape2 o1; obtain ⟨e0, e2, eb⟩ := HSt.out w3 HG3.out; obtain ⟨a0, a1, a2, _, _, _⟩ := cellsT e0; clear o1 o2 e0 e2 eb)
            | (refine wpList_append_src _ rfl (.tmp 42) (.tmp 46) 28 rfl wr.heap.size 60 i6 _ 2 16 Try.underlying28 hi6 hz60 hz61 hz62 rfl (by decide) (.slice none 0 0) 0 [] rfl (World.ownsRow_nil _ _ _ _) (some ⟨yg, 0, none⟩) P dc (dCells (D.take P)) rfl HZz.out (by rw [dCells_len]; simp; omega) (HCz.out _ HB1.out) (dCells_one _) (by unfold maxLen; omega) (by omega) (Nat.le_refl _) ?_; intro v2 w2 o1 o2 _; rw [Nat.zero_add, List.nil_append] at o1; have HO2 := toHid o1; have HG2 := toHid ((Below.refl wr.heap.size wr).grown o2 (Nat.le_refl _) (by simp [Value.ownBlock])); obtain ⟨qa, qc, rfl⟩ := ownsRow_shape2 o1; clear o1 o2 a0 a1 a2)))
          have HD8 := toHid (show Below wr.heap.size wr w3.drew from ⟨HG3.out.os, HG3.out.tape, HG3.out.output, HG3.out.size, HG3.out.block⟩)
          have HTn := toHid (fun W (hb : Below wr.heap.size wr W) => own_below H1.out (HSt.out W hb).2.2)
          have HNn := toHid (fun W (hb : Below wr.heap.size wr W) => own_below H2.out (HSt.out W hb).2.2)
          have hs3 := HG3.out.size
          go_region_law (first
            | (refine step_append_src rfl (.tmp 58) (.tmp 62) 28 rfl wr.heap.size 60 i6 _ 2 16 Try.underlying28 hi6 hz60 hz61 hz62 rfl (by decide) (.slice ra (P + 1) rc) (P + 1) _ rfl HO3.out.drew ad (D.length - P) (dc - P) (dCells (D.drop P)) (congrArg (fun o => Value.slice o (D.length - P) (dc - P)) HEa.out) HZa.out (by rw [dCells_len]; simp) (HCa.out _ (HSt.out _ HD8.out).2.2) (dCells_one _) (by unfold maxLen; omega) (by omega) HD8.out.size ?_; intro v9 w9 o1 o2; have HNf := toHid o1; have HBf := toHid (row_low HD8.out HD8.out.size HO3.out.drew o2); obtain ⟨fa, fc, rfl⟩ := ownsRow_shape2 o1; obtain ⟨e0, e2, eb⟩ := HSt.out w9 HBf.out; obtain ⟨c0, c1, c2, cf0, cf1, cf2⟩ := cellsT e2; obtain ⟨x0, x1, x2, _, _, _⟩ := cellsT e0; have HE2 := toHid e2; clear o1 o2 e0 e2 eb))
          all_goals try simp only [HEa.out]
          all_goals go_wp2
          all_goals refine bodyPost_ret (results_cell_row (P := Try.prog) Try.results34 _ _ (w.heap.size + 1) 37 _ (0, 0) _ rfl (put3_same HE2.out _ _ _) Try.underlying37 rfl (by kernel_rfl)) rfl ⟨_, rfl, lfr_put3d (HTn.out _ HBf.out) (HNn.out _ HBf.out) (by rw [HSq.out, HDc.out]; exact HNf.out) HE2.out _ _ _, put3_below (HSt.out _ HBf.out).2.2 (by omega) _ _ _⟩
      · go_wp2
        go_roundw
        case rel => exact ⟨P + 1, by omega, by go_num, fun j hj h => by
          by_cases e : j = P
          · subst e; omega
          · exact HLo.out j hj (by omega), HB1.out, HL0.out, HL2.out⟩
        case measure => simp [intOf]; omega
    · obtain hPL : P = D.length := by omega
      have HQ := toHid (show soilL D page n = D.take P ++ (page, n) :: D.drop P by
        have hPp := posL_of (l := D) (x := page) hPl HLo.out (fun h => absurd h hkl)
        have hLk := look_posL (l := D) (x := page) HX.out
        rw [dif_neg (by rw [hPp]; exact hkl)] at hLk
        have := putL_new HX.out hLk n
        rw [hPp] at this
        simp [soilL, hLk, this])
      have HPL := toHid hPL
      clear hPL
      have hk1 : ¬ (P : Int) < (D.length : Int) := by omega
      rcases own_addr H3.out with ⟨rfl, hT, hU⟩ | ⟨yg, _, rfl, _, _, hU, _⟩
      · have HT := toHid hT
        have HU := toHid hU
        clear hT hU
        have hPi : (P : Int) ≤ (D.length : Int) := by omega
        have hP0 : 0 ≤ (P : Int) := by omega
        have hm3 : (P : Int) ≤ (dc : Int) := by have h1 := HT.out; have h2 := HU.out; omega
        obtain ⟨ad, HEa⟩ : ∃ ad : Option Addr, Hid (none = ad) := ⟨none, toHid rfl⟩
        have HCa := toHid (show ∀ W, Below w.heap.size w W → ∀ y, ad = some y → ∀ j u, (dCells (D.drop P))[j]? = some u → W.cell? (y.add j) = some u from fun W hb y hy => by rw [← HEa.out] at hy; cases hy)
        have HZa := toHid (show ad = none → D.length - P = 0 ∧ dc - P = 0 from fun _ => by have h1 := HT.out; have h2 := HU.out; omega)
        have HCz := toHid (show ∀ W, Below w.heap.size w W → ∀ y, (none : Option Addr) = some y → ∀ j u, (dCells (D.take P))[j]? = some u → W.cell? (y.add j) = some u from fun W hb y hy => by cases hy)
        have HZz := toHid (show (none : Option Addr) = none → P = 0 ∧ dc = 0 from fun _ => by have h1 := HT.out; have h2 := HU.out; omega)
        have HSq := toHid (show (soilL D page n).length = P + 1 + (D.length - P) by rw [HQ.out]; simp; omega)
        have HDc := toHid (show dCells (soilL D page n) = (dCells (D.take P) ++ [.int .i64 page, .int .u64 (n : Int)]) ++ dCells (D.drop P) by rw [HQ.out]; simp [dCells])
        have HSt := toHid (show ∀ W, Below wr.heap.size wr W → W.heap[w.heap.size]? = some (.cells (rfC (.slice ta T.length tc) (.slice na T.length nc) (.slice none D.length dc)) 37) ∧ W.heap[w.heap.size + 1]? = some (.cells #[.slice none 0 0, .slice none 0 0, .slice none 0 0] 37) ∧ Below w.heap.size w W from fun W hb => ⟨(hb.block _ (some_lt HL0.out)).trans HL0.out, (hb.block _ (some_lt HL2.out)).trans HL2.out, HB1.out.trans (hb.mono HB1.out.size)⟩)
        have hs1 := HB1.out.size
        go_upto_region 7 with fail
        go_wp2_with (at_builtin; go_must (first
          | (refine wpList_append_own _ rfl (.tmp 48) (.tmp 52) 28 rfl wr.heap.size 60 i6 _ 2 16 Try.underlying28 hi6 hz60 hz61 hz62 rfl (by decide) _ P _ rfl (HO2.out.alloc _) ⟨w2.heap.size, 0, none⟩ 1 1 [_, _] rfl rfl (cell_two_at _ _ _ _) (by intro u hu; simp at hu; rcases hu with rfl | rfl <;> rfl) (by unfold maxLen; omega) (by omega) (by have := HG2.out.size; simp; omega) ?_; intro v3 w3 o1 o2 _; have HO3 := toHid o1; have HG3 := toHid (row_low (HG2.out.alloc HG2.out.size (.cells #[.int .i64 page, .int .u64 (n : Int)] 60)) (by have := HG2.out.size; simp; omega) (HO2.out.alloc (.cells #[.int .i64 page, .int .u64 (n : Int)] 60)) o2); obtain ⟨ra, rc, rfl⟩ := ownsRow_shape2 o1; obtain ⟨e0, e2, eb⟩ := HSt.out w3 HG3.out; obtain ⟨a0, a1, a2, _, _, _⟩ := cellsT e0; clear o1 o2 e0 e2 eb)
          | (refine wpList_append_src _ rfl (.tmp 42) (.tmp 46) 28 rfl wr.heap.size 60 i6 _ 2 16 Try.underlying28 hi6 hz60 hz61 hz62 rfl (by decide) (.slice none 0 0) 0 [] rfl (World.ownsRow_nil _ _ _ _) none P dc (dCells (D.take P)) rfl HZz.out (by rw [dCells_len]; simp; omega) (HCz.out _ HB1.out) (dCells_one _) (by unfold maxLen; omega) (by omega) (Nat.le_refl _) ?_; intro v2 w2 o1 o2 _; rw [Nat.zero_add, List.nil_append] at o1; have HO2 := toHid o1; have HG2 := toHid ((Below.refl wr.heap.size wr).grown o2 (Nat.le_refl _) (by simp [Value.ownBlock])); obtain ⟨qa, qc, rfl⟩ := ownsRow_shape2 o1; clear o1 o2 a0 a1 a2)))
        have HD8 := toHid (show Below wr.heap.size wr w3.drew from ⟨HG3.out.os, HG3.out.tape, HG3.out.output, HG3.out.size, HG3.out.block⟩)
        have HTn := toHid (fun W (hb : Below wr.heap.size wr W) => own_below H1.out (HSt.out W hb).2.2)
        have HNn := toHid (fun W (hb : Below wr.heap.size wr W) => own_below H2.out (HSt.out W hb).2.2)
        have hs3 := HG3.out.size
        go_region_law (first
          | (refine step_append_src rfl (.tmp 58) (.tmp 62) 28 rfl wr.heap.size 60 i6 _ 2 16 Try.underlying28 hi6 hz60 hz61 hz62 rfl (by decide) (.slice ra (P + 1) rc) (P + 1) _ rfl HO3.out.drew ad (D.length - P) (dc - P) (dCells (D.drop P)) (congrArg (fun o => Value.slice o (D.length - P) (dc - P)) HEa.out) HZa.out (by rw [dCells_len]; simp) (HCa.out _ (HSt.out _ HD8.out).2.2) (dCells_one _) (by unfold maxLen; omega) (by omega) HD8.out.size ?_; intro v9 w9 o1 o2; have HNf := toHid o1; have HBf := toHid (row_low HD8.out HD8.out.size HO3.out.drew o2); obtain ⟨fa, fc, rfl⟩ := ownsRow_shape2 o1; obtain ⟨e0, e2, eb⟩ := HSt.out w9 HBf.out; obtain ⟨c0, c1, c2, cf0, cf1, cf2⟩ := cellsT e2; obtain ⟨x0, x1, x2, _, _, _⟩ := cellsT e0; have HE2 := toHid e2; clear o1 o2 e0 e2 eb))
        all_goals go_wp2
        all_goals refine bodyPost_ret (results_cell_row (P := Try.prog) Try.results34 _ _ (w.heap.size + 1) 37 _ (0, 0) _ rfl (put3_same HE2.out _ _ _) Try.underlying37 rfl (by kernel_rfl)) rfl ⟨_, rfl, lfr_put3d (HTn.out _ HBf.out) (HNn.out _ HBf.out) (by rw [HSq.out, HDc.out]; exact HNf.out) HE2.out _ _ _, put3_below (HSt.out _ HBf.out).2.2 (by omega) _ _ _⟩
      · have HU := toHid hU
        clear hU
        have hPi : (P : Int) ≤ (D.length : Int) := by omega
        have hP0 : 0 ≤ (P : Int) := by omega
        have hm3 : (P : Int) ≤ (dc : Int) := by have h2 := HU.out; omega
        obtain ⟨ad, had⟩ : ∃ ad : Option Addr, (if dc = P then some (⟨yg, 0, none⟩ : Addr) else some ⟨yg, P * 2, none⟩) = ad := ⟨_, rfl⟩
        have HEa := toHid had
        have HCa := toHid (show ∀ W, Below w.heap.size w W → ∀ y, ad = some y → ∀ j u, (dCells (D.drop P))[j]? = some u → W.cell? (y.add j) = some u from fun W hb y hy j u hu => by
          have h2 := (own_below H3.out hb).cells (g := yg) rfl (P * 2 + j) u (dCells_drop D (by omega) j u hu)
          rw [← HEa.out] at hy
          by_cases e : dc = P
          · have h3 := HU.out; rw [show D.drop P = [] from List.drop_eq_nil_of_le (by omega)] at hu; simp [dCells] at hu
          · rw [if_neg e] at hy; injection hy with hy; subst hy; rw [add_plain]; rw [addr_add] at h2; exact h2)
        have HZa := toHid (show ad = none → D.length - P = 0 ∧ dc - P = 0 from fun e => by rw [← HEa.out] at e; split at e <;> cases e)
        have HCz := toHid (show ∀ W, Below w.heap.size w W → ∀ y, some (⟨yg, 0, none⟩ : Addr) = some y → ∀ j u, (dCells (D.take P))[j]? = some u → W.cell? (y.add j) = some u from fun W hb y hy j u hu => by
          injection hy with hy; subst hy
          exact (own_below H3.out hb).cells (g := yg) rfl j u (dCells_take D P j u hu))
        have HZz := toHid (show some (⟨yg, 0, none⟩ : Addr) = none → P = 0 ∧ dc = 0 from fun e => by cases e)
        clear had
        have HSq := toHid (show (soilL D page n).length = P + 1 + (D.length - P) by rw [HQ.out]; simp; omega)
        have HDc := toHid (show dCells (soilL D page n) = (dCells (D.take P) ++ [.int .i64 page, .int .u64 (n : Int)]) ++ dCells (D.drop P) by rw [HQ.out]; simp [dCells])
        have HSt := toHid (show ∀ W, Below wr.heap.size wr W → W.heap[w.heap.size]? = some (.cells (rfC (.slice ta T.length tc) (.slice na T.length nc) (.slice (some ⟨yg, 0, none⟩) D.length dc)) 37) ∧ W.heap[w.heap.size + 1]? = some (.cells #[.slice none 0 0, .slice none 0 0, .slice none 0 0] 37) ∧ Below w.heap.size w W from fun W hb => ⟨(hb.block _ (some_lt HL0.out)).trans HL0.out, (hb.block _ (some_lt HL2.out)).trans HL2.out, HB1.out.trans (hb.mono HB1.out.size)⟩)
        have hs1 := HB1.out.size
        go_upto_region 7 with fail
        go_wp2_with (at_builtin; go_must (first
          | (refine wpList_append_own _ rfl (.tmp 48) (.tmp 52) 28 rfl wr.heap.size 60 i6 _ 2 16 Try.underlying28 hi6 hz60 hz61 hz62 rfl (by decide) _ P _ rfl (HO2.out.alloc _) ⟨w2.heap.size, 0, none⟩ 1 1 [_, _] rfl rfl (cell_two_at _ _ _ _) (by intro u hu; simp at hu; rcases hu with rfl | rfl <;> rfl) (by unfold maxLen; omega) (by omega) (by have := HG2.out.size; simp; omega) ?_; intro v3 w3 o1 o2 _; have HO3 := toHid o1; have HG3 := toHid (row_low (HG2.out.alloc HG2.out.size (.cells #[.int .i64 page, .int .u64 (n : Int)] 60)) (by have := HG2.out.size; simp; omega) (HO2.out.alloc (.cells #[.int .i64 page, .int .u64 (n : Int)] 60)) o2); obtain ⟨ra, rc, rfl⟩ := ownsRow_shape2 o1; obtain ⟨e0, e2, eb⟩ := HSt.out w3 HG3.out; obtain ⟨a0, a1, a2, _, _, _⟩ := cellsT e0; clear o1 o2 e0 e2 eb)
          | (refine wpList_append_src _ rfl (.tmp 42) (.tmp 46) 28 rfl wr.heap.size 60 i6 _ 2 16 Try.underlying28 hi6 hz60 hz61 hz62 rfl (by decide) (.slice none 0 0) 0 [] rfl (World.ownsRow_nil _ _ _ _) (some ⟨yg, 0, none⟩) P dc (dCells (D.take P)) rfl HZz.out (by rw [dCells_len]; simp; omega) (HCz.out _ HB1.out) (dCells_one _) (by unfold maxLen; omega) (by omega) (Nat.le_refl _) ?_; intro v2 w2 o1 o2 _; rw [Nat.zero_add, List.nil_append] at o1; have HO2 := toHid o1; have HG2 := toHid ((Below.refl wr.heap.size wr).grown o2 (Nat.le_refl _) (by simp [Value.ownBlock])); obtain ⟨qa, qc, rfl⟩ := ownsRow_shape2 o1; clear o1 o2 a0 a1 a2)))
        have HD8 := toHid (show Below wr.heap.size wr w3.drew from ⟨HG3.out.os, HG3.out.tape, HG3.out.output, HG3.out.size, HG3.out.block⟩)
        have HTn := toHid (fun W (hb : Below wr.heap.size wr W) => own_below H1.out (HSt.out W hb).2.2)
        have HNn := toHid (fun W (hb : Below wr.heap.size wr W) => own_below H2.out (HSt.out W hb).2.2)
        have hs3 := HG3.out.size
        go_region_law (first
          | (refine step_append_src rfl (.tmp 58) (.tmp 62) 28 rfl wr.heap.size 60 i6 _ 2 16 Try.underlying28 hi6 hz60 hz61 hz62 rfl (by decide) (.slice ra (P + 1) rc) (P + 1) _ rfl HO3.out.drew ad (D.length - P) (dc - P) (dCells (D.drop P)) (congrArg (fun o => Value.slice o (D.length - P) (dc - P)) HEa.out) HZa.out (by rw [dCells_len]; simp) (HCa.out _ (HSt.out _ HD8.out).2.2) (dCells_one _) (by unfold maxLen; omega) (by omega) HD8.out.size ?_; intro v9 w9 o1 o2; have HNf := toHid o1; have HBf := toHid (row_low HD8.out HD8.out.size HO3.out.drew o2); obtain ⟨fa, fc, rfl⟩ := ownsRow_shape2 o1; obtain ⟨e0, e2, eb⟩ := HSt.out w9 HBf.out; obtain ⟨c0, c1, c2, cf0, cf1, cf2⟩ := cellsT e2; obtain ⟨x0, x1, x2, _, _, _⟩ := cellsT e0; have HE2 := toHid e2; clear o1 o2 e0 e2 eb))
        all_goals try simp only [HEa.out]
        all_goals go_wp2
        all_goals refine bodyPost_ret (results_cell_row (P := Try.prog) Try.results34 _ _ (w.heap.size + 1) 37 _ (0, 0) _ rfl (put3_same HE2.out _ _ _) Try.underlying37 rfl (by kernel_rfl)) rfl ⟨_, rfl, lfr_put3d (HTn.out _ HBf.out) (HNn.out _ HBf.out) (by rw [HSq.out, HDc.out]; exact HNf.out) HE2.out _ _ _, put3_below (HSt.out _ HBf.out).2.2 (by omega) _ _ _⟩
end Go.Proofs.Yticnkppnpfgceaa.Mg

