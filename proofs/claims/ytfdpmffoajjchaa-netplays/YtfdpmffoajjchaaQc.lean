/-
  NetPlays: a step that takes, and one that cuts.
-/
import Derived.Test.YtfdpmffoajjchaaQb
namespace Go.Proofs.Ytfdpmffoajjchaa
open Go.RowKit Go.Conc

theorem hit_none {l : List It} {f t : Int} (h : pkM l f t = []) : ∀ (i : Nat) (hi : i < l.length), ¬ (l[i].frm = f ∧ l[i].tow = t) := by
  intro i hi hc
  have hm : l[i] ∈ l.filter (hit f t) := List.mem_filter.2 ⟨List.getElem_mem hi, by simp [hit, hc]⟩
  unfold pkM at h
  rw [List.map_eq_nil_iff] at h
  rw [h] at hm
  simp at hm
theorem hit_first (l : List It) (f t : Int) : pkM l f t ≠ [] → ∃ i, ∃ hi : i < l.length, (l[i].frm = f ∧ l[i].tow = t) ∧ ∀ (q : Nat) (hq : q < l.length), q < i → ¬ (l[q].frm = f ∧ l[q].tow = t) := by
  induction l with
  | nil => intro h; exact absurd rfl h
  | cons x l ih =>
    intro h
    by_cases hx : x.frm = f ∧ x.tow = t
    · exact ⟨0, by simp, hx, fun q _ hq => by omega⟩
    · have e : pkM (x :: l) f t = pkM l f t := by
        have e1 : hit f t x = false := by simp only [hit]; exact decide_eq_false hx
        simp only [pkM, List.filter_cons, e1]
        simp
      rw [e] at h
      obtain ⟨i, hi, h1, h2⟩ := ih h
      refine ⟨i + 1, by simp; omega, by simpa using h1, fun q hq hlt => ?_⟩
      cases q with
      | zero => simpa using hx
      | succ q =>
        have := h2 q (by simpa using hq) (by omega)
        simpa using this
theorem disj_zero (p : Pl) : Disj p zeroP := ⟨fun x y _ h => by simp [zeroP] at h, fun x y _ h => by simp [zeroP] at h⟩
theorem own_zero (W : World) (B : Nat) (k : Int) : Own W B (km k) zeroP := ⟨World.ownsRow_nil _ _ _ _, World.ownsRow_nil _ _ _ _⟩
theorem own_cap {w : World} {B e size n c : Nat} {a : Option Addr} {xs : List Value} (h : w.ownsRow B e size (.slice a n c) n xs) : n ≤ c := by
  rcases own_addr h with ⟨_, e1, e2⟩ | ⟨g, cur, _, _, _, h1, _⟩
  · omega
  · exact h1

theorem step20_take (w wr : World) (s n : Nat) (D : Nat × Array Value) (R : Nat → List Nat) (MM : Nat → Ms) (PL : Nat → Pl) (v : Value) (its : List It) (x : Op1) (p : Pl) (hS : Sim w wr s n R MM PL v its) (hD : wr.heap[D.1]? = some (.cells D.2 45)) (hk : x.kind = 1) :
    Calls Try.prog 20 #[netP s n, refN n v, opV x p] wr (Post20 w s n D) := by
  obtain ⟨a, c, rfl⟩ := ownsRow_shape hS.row
  have hlc := own_cap hS.row
  have hle := hS.len_le
  by_cases he : pkM its x.frm x.tow = []
  · have hno := hit_none he
    have h10 : ∀ W2, Sim w W2 s n R MM PL (.slice a its.length c) its → Calls Try.prog 10 #[netP s n, .int .i64 x.frm, .int .i64 x.tow] W2 fun e w' => e = .returned (.tuple #[.agg zeroC, .bool false]) ∧ Below W2.heap.size W2 w' := by
      intro W2 hS2
      cases hr : rix n x.frm x.tow with
      | none => exact take_none hS2.net x.frm x.tow hr
      | some k =>
        have hrow := hS.corr k (rix_lt hr)
        rw [← pk_row hr, he, List.map_eq_nil_iff] at hrow
        exact take_e hS2.net x.frm x.tow hr hrow
    refine step20_takeG w wr s n D R MM PL _ its x p hS hD hk (km 0) zeroP zeroP false (lim_km _) (fun W hW => ?_)
    have hSW := hS.below hW
    refine Calls.mono (refTake_no n a c its x.frm x.tow W (own_rd hSW.row) (by omega) hno) ?_
    rintro e w1 ⟨rfl, hB1⟩
    refine ⟨a, its.length, c, rfl, hB1, fun W2 hW2 => ?_⟩
    have hS2 := (hSW.below hB1).below hW2
    refine Calls.mono (h10 W2 hS2) ?_
    rintro e w' ⟨rfl, hB⟩
    exact ⟨rfl, Tn.below hB, R, MM, PL, its, hS2.below hB, own_zero _ _ _, mi_km _ _, fun j _ b _ => disj_zero _, fun y _ => disj_zero _⟩
  · obtain ⟨i, hi, hh, hnoq⟩ := hit_first its x.frm x.tow he
    cases hr : rix n x.frm x.tow with
    | none => exact absurd (pk_none hr hS.val) he
    | some k =>
      have hrow := hS.corr k (rix_lt hr)
      cases hRk : R k with
      | nil =>
        rw [hRk, ← pk_row hr] at hrow
        exact absurd hrow.symm he
      | cons b l =>
        have hbm : b ∈ R k := by rw [hRk]; exact List.mem_cons_self ..
        have hm : its[i].m = MM b := by
          rw [hRk, (rowI_take hi hr hh hnoq).1] at hrow
          simp only [List.map_cons, List.cons.injEq] at hrow
          exact hrow.1.symm
        refine step20_takeG w wr s n D R MM PL _ its x p hS hD hk (MM b) its[i].p (PL b) true (hS.msg k (rix_lt hr) b hbm).2.2 (fun W hW => ?_)
        have hSW := hS.below hW
        refine Calls.mono (refTake_yes n a c its x.frm x.tow W (own_rd hSW.row) (by omega) hlc i hi hh hnoq) ?_
        rintro e w1 ⟨v', rfl, hrow1, hB1⟩
        obtain ⟨a', c', rfl⟩ := ownsRow_shape hrow1
        rw [hm]
        refine ⟨a', _, c', rfl, hB1, fun W2 hW2 => ?_⟩
        have hb3 : Below W.heap.size W W2 := hB1.trans (hW2.mono hB1.size)
        have hS2 := hSW.below hb3
        refine Calls.mono (take_c hS2.net x.frm x.tow hr hRk (MM b) (PL b) (hS2.msg k (rix_lt hr) b hbm).1) ?_
        rintro e w' ⟨rfl, hN, hT⟩
        obtain ⟨t1, t2, t3, t4⟩ := hSW.take hr hRk hi hh hnoq hb3 (row_low (own_keep hrow1 (KeepC.below hW2)) hSW.bel.size) hN hT
        have hkc := hT.keepC hS2.net
        have hit := (((hS2.ito its[i] (List.getElem_mem hi)).1).keep hkc).mi
        rw [hm] at hit
        exact ⟨rfl, hT, _, _, _, _, t1, ((hS2.msg k (rix_lt hr) b hbm).2.1).keep hkc, hit, t3, t4⟩

set_option maxRecDepth 100000 in
set_option maxHeartbeats 3000000 in
theorem step20_cutG (w wr : World) (s n : Nat) (D : Nat × Array Value) (R : Nat → List Nat) (MM : Nat → Ms) (PL : Nat → Pl) (v : Value) (its : List It) (x : Op1) (p : Pl) (hS : Sim w wr s n R MM PL v its) (hD : wr.heap[D.1]? = some (.cells D.2 45)) (hk : x.kind = 2) (q : Nat)
    (hA : ∀ W, Below wr.heap.size wr W → Calls Try.prog 33 #[refN n v, .int .i64 x.frm] W fun e w1 => ∃ a' k' c', e = .returned (.tuple #[refN n (.slice a' k' c'), .int .i64 (q : Nat)]) ∧ Below W.heap.size W w1 ∧ ∀ W2, Below w1.heap.size w1 W2 → Calls Try.prog 15 #[netP s n, .int .i64 x.frm] W2 fun e w' => e = .returned (.int .i64 (q : Nat)) ∧ Tn s n W2 w' ∧ ∃ (R : Nat → List Nat) (MM : Nat → Ms) (PL : Nat → Pl) (its : List It), Sim w w' s n R MM PL (.slice a' k' c') its) :
    Calls Try.prog 20 #[netP s n, refN n v, opV x p] wr (Post20 w s n D) := by
  obtain ⟨a, c, rfl⟩ := ownsRow_shape hS.row
  have HX := toHid (BoxS.new #[.int .i64 n, .slice a its.length c] (opA x p) zer45 hD)
  have hb3 := below_alloc3 wr (.cells #[.int .i64 n, .slice a its.length c] 45) (.cells (opA x p) 50) (.cells zer45 45)
  have HS := toHid (hS.below hb3)
  have HA := toHid (hA _ hb3)
  have HZ := toHid hS.bel.size
  clear hS hD hA hb3
  go_enter Try.func20, Try.ntmps20
  refine wp_seq_k fun K0 hK0 => ?_
  have HK0 := toHid hK0
  clear hK0
  go_wp2_with fail
  refine HK0.out _ _ ?_
  clear HK0
  generalize hw0 : ((wr.alloc (.cells #[.int .i64 n, .slice a its.length c] 45)).alloc (.cells (opA x p) 50)).alloc (.cells zer45 45) = w0 at HX HS HA ⊢
  clear hw0
  generalize hB : wr.heap.size = B at HX HZ ⊢
  clear hB
  obtain ⟨o0, o1, o2, o3, o4, o5, o6, o7, o8, o9, o10, o11, o12⟩ := cell13 HX.out.h1
  obtain ⟨x0, x1, xf⟩ := cell2 HX.out.h0
  rw [hk] at o0
  go_wp2_with fail
  go_at_call 33
  refine Calls.mono HA.out ?_
  rintro e w1 ⟨a', k', c', rfl, hB1, hT⟩
  have HT := toHid hT
  have HX1 := toHid (HX.out.keep (KeepC.below hB1))
  have HS1 := toHid (HS.out.below hB1)
  clear hT hB1 HA HX HS o0 o1 o2 o3 o4 o5 o6 o7 o8 o9 o10 o11 o12 x0 x1 xf
  have hb2 : Below w1.heap.size w1 (w1.alloc (.cells #[.int .i64 (n : Int), .slice a' k' c'] 45)) := (Below.refl _ _).alloc (Nat.le_refl _) _
  have HX2 := toHid (HX1.out.keep (KeepC.below hb2))
  have HS2 := toHid (HS1.out.below hb2)
  have HB2 := toHid hb2
  have HY := toHid (heap_alloc_new w1 (.cells #[.int .i64 (n : Int), .slice a' k' c'] 45))
  have HLT : Hid (B + 2 < w1.heap.size) := (Array.getElem?_eq_some_iff.1 HX1.out.h2).1
  clear hb2 HX1 HS1
  go_wp2_with fail
  generalize hw2 : w1.alloc (.cells #[.int .i64 (n : Int), .slice a' k' c'] 45) = w2 at HX2 HS2 HB2 HY ⊢
  clear hw2
  refine wp_region_held_drew (S := fun W => W.cell? ⟨w1.heap.size, 0, none⟩ = some (.int .i64 (n : Int)) ∧ W.cell? ⟨w1.heap.size, 1, none⟩ = some (.slice a' k' c') ∧ W.cell? ⟨B + 1, 1, none⟩ = some (.int .i64 x.frm)) (by kernel_rfl) ?_ (fun hHeld => ?_)
  · obtain ⟨b0, b1, bf⟩ := cell2 HY.out
    obtain ⟨o0, o1, o2, o3, o4, o5, o6, o7, o8, o9, o10, o11, o12⟩ := cell13 HX2.out.h1
    exact ⟨b0, b1, o1⟩
  have HTd := toHid (HT.out _ (HB2.out.drew))
  have HXd : Hid (BoxS D B w2.drew #[.int .i64 n, .slice a its.length c] (opA x p) zer45) := HX2.out.keep (KeepC.below ((Below.refl _ w2).drew))
  have HSd : Hid (Sim w w2.drew s n R MM PL (.slice a its.length c) its) := HS2.out.below ((Below.refl _ w2).drew)
  have HYd : Hid (w2.drew.heap[w1.heap.size]? = some (.cells #[.int .i64 (n : Int), .slice a' k' c'] 45)) := HY.out
  clear HT HX2 HS2 HB2 HY
  generalize hwd : w2.drew = wd at HTd HXd HSd HYd hHeld ⊢
  clear hwd
  refine wpAnyH_take (i := 0) (v := ?_) rfl (by kernel_rfl) (by kernel_rfl) (by kernel_rfl) (fun _ _ _ h => h) (Or.inl ⟨by rfl, ?_⟩) (by assumption) ?_
  rotate_left
  · (intro W hSw; obtain ⟨b0, b1, o1⟩ := hSw; go_simp; try with_reducible rfl)
  try simp only [Act.put, List.getElem_toArray, List.getElem_cons_zero, List.setIfInBounds_toArray, List.set_cons_zero, List.set_cons_succ]
  refine wpAnyH_take (i := 1) (v := ?_) rfl (by kernel_rfl) (by kernel_rfl) (by kernel_rfl) (fun _ _ _ h => h) (Or.inl ⟨by rfl, ?_⟩) (by assumption) ?_
  rotate_left
  · (intro W hSw; obtain ⟨b0, b1, o1⟩ := hSw; go_simp; try with_reducible rfl)
  try simp only [Act.put, List.getElem_toArray, List.getElem_cons_zero, List.getElem_cons_succ, List.setIfInBounds_toArray, List.set_cons_zero, List.set_cons_succ]
  refine wpAnyH_take (i := 2) (v := ?_) rfl (by kernel_rfl) (by kernel_rfl) (by kernel_rfl) (fun _ _ _ h => h) (Or.inl ⟨by rfl, ?_⟩) (by assumption) ?_
  rotate_left
  · (intro W hSw; obtain ⟨b0, b1, o1⟩ := hSw; go_simp; try with_reducible rfl)
  try simp only [Act.put, List.getElem_toArray, List.getElem_cons_zero, List.getElem_cons_succ, List.setIfInBounds_toArray, List.set_cons_zero, List.set_cons_succ]
  refine wpAnyH_take (i := 3) (v := ?_) rfl (by kernel_rfl) (by kernel_rfl) (by kernel_rfl) (fun _ _ _ h => h) (Or.inl ⟨by rfl, ?_⟩) (by assumption) ?_
  rotate_left
  · (intro W hSw; obtain ⟨b0, b1, o1⟩ := hSw; go_simp; try with_reducible rfl)
  try simp only [Act.put, List.getElem_toArray, List.getElem_cons_zero, List.getElem_cons_succ, List.setIfInBounds_toArray, List.set_cons_zero, List.set_cons_succ]
  refine wpAnyH_take (i := 5) (v := ?_) rfl (by kernel_rfl) (by kernel_rfl) (by kernel_rfl) (fun _ _ _ h => h) (Or.inl ⟨by rfl, ?_⟩) (by assumption) ?_
  rotate_left
  · (intro W hSw; obtain ⟨b0, b1, o1⟩ := hSw; go_simp; try with_reducible rfl)
  try simp only [Act.put, List.getElem_toArray, List.getElem_cons_zero, List.getElem_cons_succ, List.setIfInBounds_toArray, List.set_cons_zero, List.set_cons_succ]
  refine wpAnyH_ready (rs := [4]) (by kernel_rfl) (by simp) ?_
  refine AllReadyH.cons rfl (fun K hK => ?_) AllReadyH.nil
  clear hHeld
  go_simp
  refine Calls.mono HTd.out ?_
  rintro e w3 ⟨rfl, hTn, R3, MM3, PL3, its3, hS3⟩
  have HX3 := toHid (HXd.out.keep (hTn.keepC HSd.out.net))
  have HY3 := toHid (hTn.keepC HSd.out.net _ _ _ _ HYd.out)
  have HS3 := toHid hS3
  clear hTn hS3 HXd HYd HSd HTd
  try go_wp2_with fail
  refine hK.out _ w3 ?_ (fun hHeld => ?_)
  · obtain ⟨b0, b1, bf⟩ := cell2 HY3.out
    obtain ⟨o0, o1, o2, o3, o4, o5, o6, o7, o8, o9, o10, o11, o12⟩ := cell13 HX3.out.h1
    exact ⟨b0, b1, o1⟩
  clear hK K
  try simp only [Act.put, List.getElem_toArray, List.getElem_cons_zero, List.getElem_cons_succ, List.setIfInBounds_toArray, List.set_cons_zero, List.set_cons_succ]
  refine wpAnyH_take (i := 6) (v := ?_) rfl (by kernel_rfl) (by kernel_rfl) (by kernel_rfl) (fun _ _ _ h => h) (Or.inl ⟨by rfl, ?_⟩) (by assumption) ?_
  rotate_left
  · (intro W hSw; obtain ⟨b0, b1, o1⟩ := hSw; go_simp; try with_reducible rfl)
  try simp only [Act.put, List.getElem_toArray, List.getElem_cons_zero, List.getElem_cons_succ, List.setIfInBounds_toArray, List.set_cons_zero, List.set_cons_succ]
  obtain ⟨f1, f2, f3⟩ := fin20 HS3.out HX3.out HZ.out (.int .i64 (n : Int)) (.slice a' k' c')
  have HF1 := toHid f1
  have HF2 := toHid f2
  have HF3 := toHid f3
  have HK5 : Hid (∀ k, k ≠ B + 2 → ((w3.setCell ⟨B + 2, 0, none⟩ (.int .i64 (n : Int))).setCell ⟨B + 2, 1, none⟩ (.slice a' k' c')).heap[k]? = w3.heap[k]?) := fun k hk => by rw [heap_setCell_other _ _ _ _ hk, heap_setCell_other _ _ _ _ hk]
  clear f1 f2 f3
  refine wpAnyH_ready (rs := [7]) (by kernel_rfl) (by simp) ?_
  refine AllReadyH.cons rfl (fun K hK => ?_) AllReadyH.nil
  clear hHeld
  obtain ⟨z0, z1, zf⟩ := cell2 HX3.out.h2
  go_simp
  refine hK.out _ _ ?_ (fun hHeld => ?_)
  · obtain ⟨b0, b1, bf⟩ := cell2 ((HK5.out _ (by have := HLT.out; omega)).trans HY3.out)
    obtain ⟨o0, o1, o2, o3, o4, o5, o6, o7, o8, o9, o10, o11, o12⟩ := cell13 ((HK5.out _ (by omega)).trans HX3.out.h1)
    exact ⟨b0, b1, o1⟩
  clear hK K
  try simp only [Act.put, List.getElem_toArray, List.getElem_cons_zero, List.getElem_cons_succ, List.setIfInBounds_toArray, List.set_cons_zero, List.set_cons_succ]
  refine wpAnyH_take (i := 8) (v := ?_) rfl (by kernel_rfl) (by kernel_rfl) (by kernel_rfl) (fun _ _ _ h => h) (Or.inl ⟨by rfl, ?_⟩) (by assumption) ?_
  rotate_left
  · (intro W hSw; obtain ⟨b0, b1, o1⟩ := hSw; go_simp; try with_reducible rfl)
  try simp only [Act.put, List.getElem_toArray, List.getElem_cons_zero, List.getElem_cons_succ, List.setIfInBounds_toArray, List.set_cons_zero, List.set_cons_succ]
  refine wpAnyH_done (by kernel_rfl) ?_ _
  simp only [Exit.then]
  go_wp2_with fail
  exact bodyPost_ret (results_cell_row2 (P := Try.prog) Try.results20 _ _ (B + 2) 45 _ (0, 0) _ rfl HF1.out Try.underlying45 rfl (by kernel_rfl)) rfl ⟨_, _, _, _, _, rfl, HF2.out, HF3.out⟩

end Go.Proofs.Ytfdpmffoajjchaa
