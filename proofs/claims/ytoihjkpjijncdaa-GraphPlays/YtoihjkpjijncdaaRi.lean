/-
  The document's Ring.
-/
import Derived.Test.YtoihjkpjijncdaaRe
namespace Go.Proofs.Ytoihjkpjijncdaa
open Go.RowKit Go.Maps

theorem own_set {W : World} {B e g n c j : Nat} {xs : List Value} (h : W.ownsRow B e 1 (.slice (some ⟨g, 0, none⟩) n c) n xs) (_hj : j < n) (v : Value) : (W.setCell ⟨g, j, none⟩ v).ownsRow B e 1 (.slice (some ⟨g, 0, none⟩) n c) n (xs.set j v) ∧ W.frozen? ⟨g, j, none⟩ = false ∧ W.grownBy (W.setCell ⟨g, j, none⟩ v) (some g) := by
  rcases h.2 with ⟨h1, _⟩ | ⟨g', cap, cur, hv, h2, h3, h4, h5, h6, h7⟩
  · cases h1
  · cases hv
    refine ⟨⟨by simpa using h.1, .inr ⟨g, c, cur.setIfInBounds j v, rfl, h2, heap_setCell_same W g j _ _ v h3, h4, h5, by simpa using h6, ?_⟩⟩, by simp [World.frozen?, h3], ⟨rfl, rfl, rfl, by simp, fun i _ hi => heap_setCell_other _ _ _ _ (fun e => hi (by rw [e]))⟩⟩
    rw [← h7, Array.toList_setIfInBounds, List.take_set]
def ins (O : List Int) (k : Nat) (x : Int) : List Int := O.take k ++ x :: O.drop k
theorem ins_len {O : List Int} {k : Nat} (x : Int) : (ins O k x).length = O.length + 1 := by simp [ins]; omega
theorem mem_ins {O : List Int} {k : Nat} {x y : Int} : y ∈ ins O k x ↔ y = x ∨ y ∈ O := by
  unfold ins
  rw [List.mem_append, List.mem_cons]
  constructor
  · rintro (h | h | h)
    · exact .inr (List.mem_of_mem_take h)
    · exact .inl h
    · exact .inr (List.mem_of_mem_drop h)
  · rintro (h | h)
    · exact .inr (.inl h)
    · rw [← List.take_append_drop k O, List.mem_append] at h
      exact h.imp id .inr
theorem ins_end (O : List Int) (x : Int) : ins O O.length x = O ++ [x] := by simp [ins]
theorem ins_sort {O : List Int} {k : Nat} {x : Int} (h : O.Pairwise (· < ·)) (h1 : ∀ j, (hj : j < O.length) → j < k → O[j] < x) (h2 : ∀ j, (hj : j < O.length) → k ≤ j → x < O[j]) : (ins O k x).Pairwise (· < ·) := by
  have ht : ∀ u, u ∈ O.take k → u < x := fun u hu => by
    obtain ⟨j, hj, rfl⟩ := List.mem_take_iff_getElem.1 hu
    exact h1 j (by omega) (by omega)
  have hd : ∀ u, u ∈ O.drop k → x < u := fun u hu => by
    obtain ⟨j, hj, rfl⟩ := List.mem_iff_getElem.1 hu
    rw [List.getElem_drop]
    exact h2 (k + j) _ (by omega)
  unfold ins
  rw [List.pairwise_append, List.pairwise_cons]
  refine ⟨h.sublist (List.take_sublist _ _), ⟨hd, h.sublist (List.drop_sublist _ _)⟩, fun u hu v hv => ?_⟩
  rcases List.mem_cons.1 hv with rfl | hv
  · exact ht u hu
  · have := ht u hu; have := hd v hv; omega
theorem ins_at {O : List Int} {k : Nat} {x : Int} (hk : k ≤ O.length) : (ins O k x)[k]? = some x := by
  unfold ins
  rw [List.getElem?_append_right (by simp; omega)]
  simp [Nat.min_eq_left hk]
theorem ins_before {O : List Int} {j : Nat} {x : Int} (hj : j < O.length) : (ins O (j + 1) x)[j]? = some O[j] := by
  unfold ins
  rw [List.getElem?_append_left (by simp; omega), List.getElem?_take_of_lt (by omega), List.getElem?_eq_getElem hj]
theorem ins_swap {O : List Int} {j : Nat} {x : Int} (hj : j < O.length) : ((ins O (j + 1) x).set (j + 1) O[j]).set j x = ins O j x := by
  have e1 : O.take (j + 1) = O.take j ++ [O[j]] := List.take_succ_eq_append_getElem hj
  have e2 : O.drop j = O[j] :: O.drop (j + 1) := List.drop_eq_getElem_cons hj
  have e3 : (O.take j).length = j := by simp; omega
  unfold ins
  rw [e1, e2]
  generalize O[j] = y at *
  generalize O.drop (j + 1) = B at *
  generalize O.take j = A at *
  subst e3
  rw [List.append_assoc, List.set_append_right _ _ (by omega)]
  simp
theorem i64_cell {W : World} {B g n c j : Nat} {l : List Int} {y : Int} (h : W.ownsRow B 3 1 (.slice (some ⟨g, 0, none⟩) n c) n (l.map enI)) (hj : l[j]? = some y) : W.cell? ⟨g, j, none⟩ = some (.int .i64 y) := by
  have : W.cell? ((⟨g, 0, none⟩ : Addr).add j) = some (.int .i64 y) := h.cells (g := g) rfl j (enI y) (by simp [hj])
  by_cases hn : j = 0
  · subst hn; simpa [Addr.add] using this
  · simpa [Addr.add, hn] using this
theorem Rx.set {w : World} {W : World} {l : List Int} {g n c j : Nat} {x : Int} (h : Rx w l (.slice (some ⟨g, 0, none⟩) n c) W) (hn : l.length = n) (hj : j < n) : Rx w (l.set j x) (.slice (some ⟨g, 0, none⟩) n c) (W.setCell ⟨g, j, none⟩ (.int .i64 x)) ∧ W.frozen? ⟨g, j, none⟩ = false := by
  subst hn
  obtain ⟨h1, h2, h3⟩ := own_set h.row hj (.int .i64 x)
  refine ⟨⟨h.low.grown h3 h.low.size fun i hi => by cases hi; exact (h.row.lt g rfl).1, ?_⟩, h2⟩
  rw [List.length_set, List.map_set]
  exact h1

set_option maxRecDepth 100000 in
set_option maxHeartbeats 2000000 in
theorem ring35 {w : World} {a : Option Addr} {c : Nat} {l : List (Int × Int)} (hL : SlE w a l) (hl : l.length ≤ 1000) (z : Int) :
    Calls Try.prog 35 #[.slice a l.length c, .int .i64 z] w fun e w' => ∃ (va : Option Addr) (vc : Nat) (R : List Int), e = .returned (.slice va R.length vc) ∧ Rx w R (.slice va R.length vc) w' ∧ R.length ≤ 1000 ∧ IsRingI (l.map leE) (.int .i64 z) R := by
  obtain ⟨i0, hi0, hz0, hz1, hz2⟩ := info_parts infI
  have HL := toHid hL
  clear hL
  go_enter Try.func35, Try.ntmps35
  go_wp2_with fail
  refine (reached36 HL.out hl z).mono ?_
  rintro e w1 ⟨vt, ct, C, rfl, hX1, hCn, hCl, hCm⟩
  have HB1 := toHid hX1.low
  have HR1 := toHid (RowI.of hX1.row)
  have HCn := toHid hCn
  have HCm := toHid hCm
  clear hX1 hCn hCm
  go_wp2_with fail
  go_loopw [5, 7] (fun s k W => ∃ (i : Nat) (O : List Int) (va : Option Addr) (vc : Nat), i ≤ C.length ∧ O.length ≤ i ∧ k = .int .i64 i ∧ s = .slice va O.length vc ∧ Hid (O.Pairwise (· < ·)) ∧ Hid (∀ y, y ∈ O ↔ y ∈ C.take i ∧ Lds (outE (l.map leE)) (liI y) (.int .i64 z)) ∧ Hid (Rx w1 O s W)) (fun _ k _ => C.length - (intOf k).toNat)
  case atStart => exact ⟨0, [], none, 0, Nat.zero_le _, Nat.le_refl _, rfl, rfl, toHid List.Pairwise.nil, toHid (fun y => by simp), toHid ⟨Below.refl _ _, World.ownsRow_nil _ _ _ _⟩⟩
  case round =>
    obtain ⟨i, O, va, vc, hi, hOi, rfl, rfl, HS, HM, HX⟩ := hrel
    have hq2 : 0 ≤ (i : Int) := by omega
    by_cases hlt : i < C.length
    · have hq1 : (i : Int) < (C.length : Int) := by omega
      obtain ⟨gt, rfl, hcs⟩ := HR1.out.resolve_left (fun e => by rw [e] at hlt; simp at hlt)
      have c0 := hcs i hlt
      have HTk : Hid (C.take (i + 1) = C.take i ++ [C[i]]) := by show _ = _; rw [List.take_succ_eq_append_getElem hlt]
      have HXn : Hid (C[i] ∉ C.take i) := fun h => by
        have h2 : (C.take (i + 1)).Nodup := HCn.out.sublist (List.take_sublist _ _)
        rw [HTk.out] at h2
        exact (List.nodup_append.1 h2).2.2 _ h _ (by simp) rfl
      obtain ⟨x, hx⟩ : ∃ x, C[i] = x := ⟨_, rfl⟩
      rw [hx] at c0 HTk HXn
      have HC0 : Hid (∀ W, Below w1.heap.size w1 W → W.cell? ⟨gt, i, none⟩ = some (.int .i64 x)) := fun W hW => cell_low c0 (cell_lt c0) hW
      have d0 := HC0.out _ HX.out.low
      clear c0 hcs hx
      have HLr := toHid (HL.out.below (below_trans HB1.out ⟨HX.out.low.os, HX.out.low.tape, HX.out.low.output, HX.out.low.size, fun j hj => HX.out.low.block j (by have := HB1.out.size; omega)⟩))
      go_wp2_with fail
      refine (reached36 HLr.out hl x).mono ?_
      rintro e w3 ⟨v3, c3, D, rfl, hX3, hDn, hDl, hDm⟩
      have HX3 := toHid (HX.out.below hX3.low)
      have HD3 := toHid (RowI.of hX3.row)
      have hDc := hDm z
      clear hX3 hDn hDm
      by_cases hback : Lds (outE (l.map leE)) (liI x) (.int .i64 z)
      · have hzD : z ∈ D := hDc.2 hback
        have HBk := toHid hback
        have d1 := HC0.out _ HX3.out.low
        have HXa := toHid (HX3.out.below ((Below.refl _ _).alloc (Nat.le_refl _) (.cells #[.int .i64 x] 3)))
        clear hDc hback
        go_wp2_with (first
          | (go_at_call 22; refine (has22 HD3.out (by omega) z).mono ?_; rintro e w4 ⟨rfl, hw⟩; subst w4; rw [decide_eq_true hzD])
          | (at_builtin; refine wpList_append_own _ rfl _ _ 42 rfl w1.heap.size 3 i0 _ 1 8 Try.underlying42 hi0 hz0 hz1 hz2 rfl (by decide) _ O.length _ rfl HXa.out.row ⟨w3.heap.size, 0, none⟩ 1 1 [.int .i64 x] rfl rfl (cell_one w3 _ _) (by intro q hq; simp at hq; subst hq; rfl) (by unfold maxLen; omega) (by omega) HXa.out.low.size ?_; intro v7 w7 hown7 hgrow7 _)
          | fail)
        have HX7 := toHid (HXa.out.push (x := x) hgrow7 hown7)
        obtain ⟨g, c7, hv7⟩ : ∃ g c, v7 = .slice (some ⟨g, 0, none⟩) (O.length + 1) c := by
          rcases hown7.2 with ⟨_, h0⟩ | ⟨g, cap, cur, rfl, _⟩
          · cases h0
          · exact ⟨_, _, rfl⟩
        subst hv7
        clear hown7 hgrow7 d0 d1
        rw [← ins_end] at HX7
        go_loopw [8] (fun k W => ∃ kk : Nat, kk ≤ O.length ∧ k = .int .i64 kk ∧ Hid (∀ j, (hj : j < O.length) → kk ≤ j → x < O[j]) ∧ Hid (Rx w1 (ins O kk x) (.slice (some ⟨g, 0, none⟩) (O.length + 1) c7) W)) (fun k _ => (intOf k).toNat)
        case atStart => exact ⟨O.length, Nat.le_refl _, rfl, toHid fun j hj h => by omega, HX7⟩
        case round =>
          obtain ⟨kk, hkk, rfl, HA, HK⟩ := hrel
          clear HX7
          have HDone : Hid ((∀ j, (hj : j < O.length) → j < kk → O[j] < x) → (ins O kk x).Pairwise (· < ·) ∧ ∀ y, y ∈ ins O kk x ↔ y ∈ C.take (i + 1) ∧ Lds (outE (l.map leE)) (liI y) (.int .i64 z)) := fun h => ⟨ins_sort HS.out h HA.out, fun y => by
            rw [mem_ins, HM.out, HTk.out, List.mem_append, List.mem_singleton]
            constructor
            · rintro (rfl | ⟨h1, h2⟩)
              · exact ⟨.inr rfl, HBk.out⟩
              · exact ⟨.inl h1, h2⟩
            · rintro ⟨h1 | h1, h2⟩
              · exact .inr ⟨h1, h2⟩
              · exact .inl h1⟩
          have e0 := HC0.out _ HK.out.low
          rcases kk with _ | j
          · have hDn := HDone.out (fun j _ h => by omega)
            have HDn := toHid hDn
            clear hDn
            rw [show Value.int .i64 ((0 : Nat) : Int) = .int .i64 0 from rfl]
            have hil := ins_len (O := O) (k := 0) x
            go_wp2_with fail
            go_region
            go_wp2_with fail
            go_roundw
            case rel => exact ⟨i + 1, ins O 0 x, _, _, by omega, by omega, by simp, by rw [hil], toHid HDn.out.1, toHid HDn.out.2, by rw [hil] at *; exact toHid (HK.out.below (Below.refl _ _).drew)⟩
            case measure => first | omega | (simp only [intOf]; omega)
          · have hOj : j < O.length := by omega
            have hil := ins_len (O := O) (k := j + 1) x
            have HR9 : Hid (wr.ownsRow w1.heap.size 3 1 (.slice (some ⟨g, 0, none⟩) (O.length + 1) c7) (O.length + 1) ((ins O (j + 1) x).map enI)) := by have := HK.out.row; rw [hil] at this; exact this
            have f1 := i64_cell HR9.out (ins_at (O := O) (x := x) hkk)
            have f0 := i64_cell HR9.out (ins_before (O := O) (x := x) hOj)
            have z1 := (own_set HR9.out (j := j + 1) (by omega) (.int .i64 0)).2.1
            have z0 := (own_set HR9.out (j := j) (by omega) (.int .i64 0)).2.1
            obtain ⟨y, hy⟩ : ∃ y, O[j] = y := ⟨_, rfl⟩
            rw [hy] at f0
            have HY := toHid hy
            have hz1' : 0 ≤ (j : Int) + 1 := by omega
            have hz2' : (j : Int) < (O.length : Int) + 1 := by omega
            have hz3' : 0 ≤ (j : Int) := by omega
            have hz4' : (j : Int) + 1 < (O.length : Int) + 1 := by omega
            have hwi : IntKind.i64.wrap (j : Int) = (j : Int) := by simp [IntKind.wrap, IntKind.bits, IntKind.signed]; omega
            have hwj : IntKind.i64.wrap ((j : Int) + 1 - 1) = (j : Int) := by rw [show (j : Int) + 1 - 1 = j by omega]; exact hwi
            have hp0 : (0 : Int) < (j : Int) + 1 := by omega
            rw [show Value.int .i64 ((j + 1 : Nat) : Int) = .int .i64 ((j : Int) + 1) from by simp]
            clear hy
            by_cases hxy : x < y
            · have HA' : Hid (∀ q, (hq : q < O.length) → j ≤ q → x < O[q]) := fun q hq hjq => by
                by_cases e : q = j
                · subst e; rw [HY.out]; exact hxy
                · exact HA.out q hq (by omega)
              have HKd := toHid (HK.out.below ((Below.refl _ _).drew).drew)
              have HSw : Hid (((ins O (j + 1) x).set (j + 1) y).set j x = ins O j x) := by show _ = _; rw [← HY.out]; exact ins_swap hOj
              go_wp2_with fail
              go_region
              go_wp2_with fail
              refine wp_region_held_drew (S := fun _ => True) (by kernel_rfl) trivial (fun hHeld => ?_)
              refine wpAnyH_take (i := 0) (v := ?_) rfl (by kernel_rfl) (by kernel_rfl) (by kernel_rfl) (fun _ _ _ h => h) (Or.inl ⟨by rfl, ?_⟩) (by assumption) ?_
              rotate_left
              · (intro W hSw; (try dsimp only at hSw); go_simp; try with_reducible rfl)
              try simp only [Act.put, List.getElem_toArray, List.getElem_cons_zero, List.setIfInBounds_toArray, List.set_cons_zero, List.set_cons_succ]
              refine wpAnyH_take (i := 1) (v := ?_) rfl (by kernel_rfl) (by kernel_rfl) (by kernel_rfl) (fun _ _ _ h => h) (Or.inl ⟨by rfl, ?_⟩) (by assumption) ?_
              rotate_left
              · (intro W hSw; (try dsimp only at hSw); go_simp; try with_reducible rfl)
              try simp only [Act.put, List.getElem_toArray, List.getElem_cons_zero, List.getElem_cons_succ, List.setIfInBounds_toArray, List.set_cons_zero, List.set_cons_succ]
              refine wpAnyH_take (i := 2) (v := ?_) rfl (by kernel_rfl) (by kernel_rfl) (by kernel_rfl) (fun _ _ _ h => h) (Or.inl ⟨by rfl, ?_⟩) (by assumption) ?_
              rotate_left
              · (intro W hSw; (try dsimp only at hSw); go_simp; try with_reducible rfl)
              try simp only [Act.put, List.getElem_toArray, List.getElem_cons_zero, List.getElem_cons_succ, List.setIfInBounds_toArray, List.set_cons_zero, List.set_cons_succ]
              refine wpAnyH_take (i := 3) (v := ?_) rfl (by kernel_rfl) (by kernel_rfl) (by kernel_rfl) (fun _ _ _ h => h) (Or.inl ⟨by rfl, ?_⟩) (by assumption) ?_
              rotate_left
              · (intro W hSw; (try dsimp only at hSw); go_simp; try with_reducible rfl)
              try simp only [Act.put, List.getElem_toArray, List.getElem_cons_zero, List.getElem_cons_succ, List.setIfInBounds_toArray, List.set_cons_zero, List.set_cons_succ]
              refine wpAnyH_take (i := 4) (v := ?_) rfl (by kernel_rfl) (by kernel_rfl) (by kernel_rfl) (fun _ _ _ h => h) (Or.inl ⟨by rfl, ?_⟩) (by assumption) ?_
              rotate_left
              · (intro W hSw; (try dsimp only at hSw); go_simp; try with_reducible rfl)
              try simp only [Act.put, List.getElem_toArray, List.getElem_cons_zero, List.getElem_cons_succ, List.setIfInBounds_toArray, List.set_cons_zero, List.set_cons_succ]
              refine wpAnyH_take (i := 5) (v := ?_) rfl (by kernel_rfl) (by kernel_rfl) (by kernel_rfl) (fun _ _ _ h => h) (Or.inl ⟨by rfl, ?_⟩) (by assumption) ?_
              rotate_left
              · (intro W hSw; (try dsimp only at hSw); go_simp; try with_reducible rfl)
              try simp only [Act.put, List.getElem_toArray, List.getElem_cons_zero, List.getElem_cons_succ, List.setIfInBounds_toArray, List.set_cons_zero, List.set_cons_succ]
              refine wpAnyH_take (i := 6) (v := ?_) rfl (by kernel_rfl) (by kernel_rfl) (by kernel_rfl) (fun _ _ _ h => h) (Or.inl ⟨by rfl, ?_⟩) (by assumption) ?_
              rotate_left
              · (intro W hSw; (try dsimp only at hSw); go_simp; try with_reducible rfl)
              try simp only [Act.put, List.getElem_toArray, List.getElem_cons_zero, List.getElem_cons_succ, List.setIfInBounds_toArray, List.set_cons_zero, List.set_cons_succ]
              refine wpAnyH_take (i := 7) (v := ?_) rfl (by kernel_rfl) (by kernel_rfl) (by kernel_rfl) (fun _ _ _ h => h) (Or.inl ⟨by rfl, ?_⟩) (by assumption) ?_
              rotate_left
              · (intro W hSw; (try dsimp only at hSw); go_simp; try with_reducible rfl)
              try simp only [Act.put, List.getElem_toArray, List.getElem_cons_zero, List.getElem_cons_succ, List.setIfInBounds_toArray, List.set_cons_zero, List.set_cons_succ]
              refine wpAnyH_take (i := 8) (v := ?_) rfl (by kernel_rfl) (by kernel_rfl) (by kernel_rfl) (fun _ _ _ h => h) (Or.inl ⟨by rfl, ?_⟩) (by assumption) ?_
              rotate_left
              · (intro W hSw; (try dsimp only at hSw); go_simp; try with_reducible rfl)
              try simp only [Act.put, List.getElem_toArray, List.getElem_cons_zero, List.getElem_cons_succ, List.setIfInBounds_toArray, List.set_cons_zero, List.set_cons_succ]
              refine wpAnyH_take (i := 10) (v := ?_) rfl (by kernel_rfl) (by kernel_rfl) (by kernel_rfl) (fun _ _ _ h => h) (Or.inl ⟨by rfl, ?_⟩) (by assumption) ?_
              rotate_left
              · (intro W hSw; (try dsimp only at hSw); go_simp; try with_reducible rfl)
              try simp only [Act.put, List.getElem_toArray, List.getElem_cons_zero, List.getElem_cons_succ, List.setIfInBounds_toArray, List.set_cons_zero, List.set_cons_succ]
              refine wpAnyH_take (i := 11) (v := ?_) rfl (by kernel_rfl) (by kernel_rfl) (by kernel_rfl) (fun _ _ _ h => h) (Or.inl ⟨by rfl, ?_⟩) (by assumption) ?_
              rotate_left
              · (intro W hSw; (try dsimp only at hSw); go_simp; try with_reducible rfl)
              try simp only [Act.put, List.getElem_toArray, List.getElem_cons_zero, List.getElem_cons_succ, List.setIfInBounds_toArray, List.set_cons_zero, List.set_cons_succ]
              refine wpAnyH_take (i := 12) (v := ?_) rfl (by kernel_rfl) (by kernel_rfl) (by kernel_rfl) (fun _ _ _ h => h) (Or.inl ⟨by rfl, ?_⟩) (by assumption) ?_
              rotate_left
              · (intro W hSw; (try dsimp only at hSw); go_simp; try with_reducible rfl)
              try simp only [Act.put, List.getElem_toArray, List.getElem_cons_zero, List.getElem_cons_succ, List.setIfInBounds_toArray, List.set_cons_zero, List.set_cons_succ]
              refine wpAnyH_ready (rs := [9, 13]) (by kernel_rfl) (by simp) ?_
              refine AllReadyH.cons rfl (fun K hK => ?_) (AllReadyH.cons rfl (fun K hK => ?_) AllReadyH.nil)
              · skip
                clear hHeld
                go_simp
                try go_wp2_with fail
                refine hK.out _ _ trivial (fun hHeld => ?_)
                clear hK K
                try simp only [Act.put, List.getElem_toArray, List.getElem_cons_zero, List.getElem_cons_succ, List.setIfInBounds_toArray, List.set_cons_zero, List.set_cons_succ]
                refine wpAnyH_ready (rs := [13]) (by kernel_rfl) (by simp) ?_
                refine AllReadyH.cons rfl (fun K hK => ?_) AllReadyH.nil
                clear hHeld
                go_simp
                try go_wp2_with fail
                refine hK.out _ _ trivial (fun hHeld => ?_)
                clear hK K
                try simp only [Act.put, List.getElem_toArray, List.getElem_cons_zero, List.getElem_cons_succ, List.setIfInBounds_toArray, List.set_cons_zero, List.set_cons_succ]
                refine wpAnyH_take (i := 14) (v := ?_) rfl (by kernel_rfl) (by kernel_rfl) (by kernel_rfl) (fun _ _ _ h => h) (Or.inl ⟨by rfl, ?_⟩) (by assumption) ?_
                rotate_left
                · (intro W hSw; (try dsimp only at hSw); go_simp; try with_reducible rfl)
                try simp only [Act.put, List.getElem_toArray, List.getElem_cons_zero, List.getElem_cons_succ, List.setIfInBounds_toArray, List.set_cons_zero, List.set_cons_succ]
                refine wpAnyH_ready (rs := [15]) (by kernel_rfl) (by simp) ?_
                refine AllReadyH.cons rfl (fun K hK => ?_) AllReadyH.nil
                clear hHeld
                go_simp
                try go_wp2_with fail
                refine hK.out _ _ trivial (fun hHeld => ?_)
                clear hK K
                try simp only [Act.put, List.getElem_toArray, List.getElem_cons_zero, List.getElem_cons_succ, List.setIfInBounds_toArray, List.set_cons_zero, List.set_cons_succ]
                refine wpAnyH_take (i := 16) (v := ?_) rfl (by kernel_rfl) (by kernel_rfl) (by kernel_rfl) (fun _ _ _ h => h) (Or.inl ⟨by rfl, ?_⟩) (by assumption) ?_
                rotate_left
                · (intro W hSw; (try dsimp only at hSw); go_simp; try with_reducible rfl)
                try simp only [Act.put, List.getElem_toArray, List.getElem_cons_zero, List.getElem_cons_succ, List.setIfInBounds_toArray, List.set_cons_zero, List.set_cons_succ]
                refine wpAnyH_ready (rs := [17]) (by kernel_rfl) (by simp) ?_
                refine AllReadyH.cons rfl (fun K hK => ?_) AllReadyH.nil
                clear hHeld
                go_simp
                try go_wp2_with fail
                refine hK.out _ _ trivial (fun hHeld => ?_)
                clear hK K
                try simp only [Act.put, List.getElem_toArray, List.getElem_cons_zero, List.getElem_cons_succ, List.setIfInBounds_toArray, List.set_cons_zero, List.set_cons_succ]
                refine wpAnyH_done (by kernel_rfl) ?_ _
                clear hHeld
                try simp only [Exit.then]
                have HX9 := toHid (HKd.out.set (x := y) hil (j := j + 1) (by omega)).1
                have HXA := toHid (HX9.out.set (x := x) (by rw [List.length_set]; exact hil) (j := j) (by omega)).1
                rw [HSw.out] at HXA
                clear HX9
                go_wp2_with fail
                go_roundw
                case rel => exact ⟨j, by omega, by simp, HA', HXA⟩
                case measure => first | omega | (simp only [intOf]; omega)
              · skip
                clear hHeld
                go_simp
                try go_wp2_with fail
                refine hK.out _ _ trivial (fun hHeld => ?_)
                clear hK K
                try simp only [Act.put, List.getElem_toArray, List.getElem_cons_zero, List.getElem_cons_succ, List.setIfInBounds_toArray, List.set_cons_zero, List.set_cons_succ]
                refine wpAnyH_ready (rs := [9]) (by kernel_rfl) (by simp) ?_
                refine AllReadyH.cons rfl (fun K hK => ?_) AllReadyH.nil
                clear hHeld
                go_simp
                try go_wp2_with fail
                refine hK.out _ _ trivial (fun hHeld => ?_)
                clear hK K
                try simp only [Act.put, List.getElem_toArray, List.getElem_cons_zero, List.getElem_cons_succ, List.setIfInBounds_toArray, List.set_cons_zero, List.set_cons_succ]
                refine wpAnyH_take (i := 14) (v := ?_) rfl (by kernel_rfl) (by kernel_rfl) (by kernel_rfl) (fun _ _ _ h => h) (Or.inl ⟨by rfl, ?_⟩) (by assumption) ?_
                rotate_left
                · (intro W hSw; (try dsimp only at hSw); go_simp; try with_reducible rfl)
                try simp only [Act.put, List.getElem_toArray, List.getElem_cons_zero, List.getElem_cons_succ, List.setIfInBounds_toArray, List.set_cons_zero, List.set_cons_succ]
                refine wpAnyH_ready (rs := [15]) (by kernel_rfl) (by simp) ?_
                refine AllReadyH.cons rfl (fun K hK => ?_) AllReadyH.nil
                clear hHeld
                go_simp
                try go_wp2_with fail
                refine hK.out _ _ trivial (fun hHeld => ?_)
                clear hK K
                try simp only [Act.put, List.getElem_toArray, List.getElem_cons_zero, List.getElem_cons_succ, List.setIfInBounds_toArray, List.set_cons_zero, List.set_cons_succ]
                refine wpAnyH_take (i := 16) (v := ?_) rfl (by kernel_rfl) (by kernel_rfl) (by kernel_rfl) (fun _ _ _ h => h) (Or.inl ⟨by rfl, ?_⟩) (by assumption) ?_
                rotate_left
                · (intro W hSw; (try dsimp only at hSw); go_simp; try with_reducible rfl)
                try simp only [Act.put, List.getElem_toArray, List.getElem_cons_zero, List.getElem_cons_succ, List.setIfInBounds_toArray, List.set_cons_zero, List.set_cons_succ]
                refine wpAnyH_ready (rs := [17]) (by kernel_rfl) (by simp) ?_
                refine AllReadyH.cons rfl (fun K hK => ?_) AllReadyH.nil
                clear hHeld
                go_simp
                try go_wp2_with fail
                refine hK.out _ _ trivial (fun hHeld => ?_)
                clear hK K
                try simp only [Act.put, List.getElem_toArray, List.getElem_cons_zero, List.getElem_cons_succ, List.setIfInBounds_toArray, List.set_cons_zero, List.set_cons_succ]
                refine wpAnyH_done (by kernel_rfl) ?_ _
                clear hHeld
                try simp only [Exit.then]
                have HX9 := toHid (HKd.out.set (x := y) hil (j := j + 1) (by omega)).1
                have HXA := toHid (HX9.out.set (x := x) (by rw [List.length_set]; exact hil) (j := j) (by omega)).1
                rw [HSw.out] at HXA
                clear HX9
                go_wp2_with fail
                go_roundw
                case rel => exact ⟨j, by omega, by simp, HA', HXA⟩
                case measure => first | omega | (simp only [intOf]; omega)
            · have hDn := HDone.out (fun q hq h => by
                have h1 : O[q] ≤ O[j] := by
                  by_cases e : q = j
                  · subst e; exact Int.le_refl _
                  · exact Int.le_of_lt (List.pairwise_iff_getElem.1 HS.out q j hq hOj (by omega))
                rw [HY.out] at h1
                have h2 : O[q] ≠ x := fun e => HXn.out ((HM.out x).1 (by rw [← e]; exact List.getElem_mem hq)).1
                omega)
              have HDn := toHid hDn
              clear hDn
              go_wp2_with fail
              go_region
              go_wp2_with fail
              go_roundw
              case rel => exact ⟨i + 1, ins O (j + 1) x, _, _, by omega, by omega, by simp, by rw [hil], toHid HDn.out.1, toHid HDn.out.2, by rw [hil] at *; exact toHid (HK.out.below (Below.refl _ _).drew)⟩
              case measure => first | omega | (simp only [intOf]; omega)
      · have hzD : z ∉ D := fun h => hback (hDc.1 h)
        have HM' : Hid (∀ y, y ∈ O ↔ y ∈ C.take (i + 1) ∧ Lds (outE (l.map leE)) (liI y) (.int .i64 z)) := fun y => by
          rw [HM.out, HTk.out, List.mem_append, List.mem_singleton]
          constructor
          · rintro ⟨h1, h2⟩; exact ⟨.inl h1, h2⟩
          · rintro ⟨h1 | h1, h2⟩
            · exact ⟨h1, h2⟩
            · subst h1; exact absurd h2 hback
        clear hDc hback
        go_wp2_with (first
          | (go_at_call 22; refine (has22 HD3.out (by omega) z).mono ?_; rintro e w4 ⟨rfl, hw⟩; subst w4; rw [decide_eq_false hzD])
          | fail)
        go_roundw
        case rel => exact ⟨i + 1, O, va, vc, by omega, by omega, by simp, rfl, HS, HM', HX3⟩
        case measure => first | omega | (simp only [intOf]; omega)
    · obtain rfl : i = C.length := by omega
      go_wp2_with fail
      go_ret
      refine ⟨va, vc, O, rfl, ⟨below_trans HB1.out ⟨HX.out.low.os, HX.out.low.tape, HX.out.low.output, HX.out.low.size, fun j hj => HX.out.low.block j (by have := HB1.out.size; omega)⟩, ?_⟩, by omega, ?_⟩
      · rcases HX.out.row.2 with h | ⟨g, cap, cur, h1, h2, h3⟩
        · exact ⟨HX.out.row.1, .inl h⟩
        · exact ⟨HX.out.row.1, .inr ⟨g, cap, cur, h1, Nat.le_trans HB1.out.size h2, h3⟩⟩
      · refine ⟨HS.out.imp (fun h e => by omega), HS.out.imp (fun h => Int.le_of_lt h), fun y => ?_⟩
        rw [HM.out, List.take_length, HCm.out]

end Go.Proofs.Ytoihjkpjijncdaa
