/-
  The walk of GraphBreaks.
-/
import Derived.Test.YtoihjkpjijncdaaBs
namespace Go.Proofs.Ytoihjkpjijncdaa
open Go.RowKit Go.Maps

theorem lds_wf2 {l : List (Int × Int)} {G : List Int} {a : Lit} {z : Int} (hwf : ∀ e, e ∈ l → (Lit.int .i64 e.1).wf = true ∧ (Lit.int .i64 e.2).wf = true) (h : Lds (outE (cutE (madeE l 60) G)) a (liI z)) : (Lit.int .i64 z).wf = true := by
  obtain ⟨c, e⟩ : ∃ c, outE (cutE (madeE l 60) G) c (liI z) = true := by
    cases h with
    | one e => exact ⟨_, e⟩
    | more _ e => exact ⟨_, e⟩
  simp only [outE, decide_eq_true_iff] at e
  obtain ⟨e, he, h1⟩ := mem_madeE.1 (mem_cutE.1 e).1
  have h3 : z = e.2 := by simpa [leE, liI] using congrArg Prod.snd h1
  rw [h3]
  exact (hwf e (List.mem_of_mem_take he)).2

set_option maxRecDepth 100000 in
set_option maxHeartbeats 4000000 in
theorem breaks_walk {w : World} {a : Option Addr} {c : Nat} {l : List (Int × Int)} (hL : SlE w a l) :
    Calls Try.prog 6 #[.slice a l.length c] w fun e w' => e = .returned (.bool true) ∧ Below w.heap.size w w' := by
  obtain ⟨i0, hi0, hz0, hz1, hz2⟩ := info_parts infI
  obtain ⟨j0, hj0, hy0, hy1, hy2⟩ := info_parts inf27
  have HL := toHid hL
  clear hL
  have hEl := madeE_len l 60
  go_enter Try.func6, Try.ntmps6
  go_wp2_with fail
  refine (made19 HL.out).mono ?_
  rintro e w1 ⟨p, S0, rfl, hM⟩
  have HB1 := toHid (show Br w p (cutE (madeE l 60) []) S0 [] (.slice none 0 0) w1 from ⟨hM.gr, hM.low, hM.new, World.ownsRow_nil _ _ _ _⟩)
  clear hM
  go_wp2_with fail
  go_loopw [4, 5] (fun s k W => ∃ (G : List Int) (va : Option Addr) (vc : Nat) (S : Nat → Prop), s = .slice va G.length vc ∧ k = .int .i64 G.length ∧ Hid (Gon l G) ∧ Hid (Br w p (cutE (madeE l 60) G) S G s W)) (fun _ k _ => 131 - (intOf k).toNat)
  case atStart => exact ⟨[], none, 0, S0, rfl, rfl, toHid ⟨List.nodup_nil, fun v hv => by simp at hv⟩, HB1⟩
  case round =>
    obtain ⟨G, va, vc, S, rfl, rfl, HGo, HBr⟩ := hrel
    clear HB1
    have hfew := HGo.out.few
    have hle : (G.length : Int) ≤ 130 := by omega
    have hcl := cutE_len (madeE l 60) G
    go_wp2_with fail
    go_loopw [4, 6, 7] (fun s f k W => (∃ i : Nat, i ≤ l.length ∧ i ≤ 60 ∧ f = .bool false ∧ s = .slice va G.length vc ∧ k = .int .i64 i ∧ Hid (Br w p (cutE (madeE l 60) G) S G s W) ∧ Hid (∀ j, (hj : j < l.length) → j < i → ∀ z, ¬ (Lds (outE (cutE (madeE l 60) G)) (.int .i64 l[j].1) (liI z) ∧ Lds (outE (cutE (madeE l 60) G)) (liI z) (.int .i64 l[j].1)))) ∨
      (∃ (i : Nat) (x : Int) (va' : Option Addr) (vc' : Nat) (S' : Nat → Prop), i ≤ l.length ∧ f = .bool true ∧ s = .slice va' (G.length + 1) vc' ∧ k = .int .i64 i ∧ Hid (Gon l (G ++ [x])) ∧ Hid (Br w p (cutE (madeE l 60) (G ++ [x])) S' (G ++ [x]) s W))) (fun _ _ k _ => l.length - (intOf k).toNat)
    case atStart => exact .inl ⟨0, Nat.zero_le _, by omega, rfl, rfl, rfl, HBr, toHid fun j _ hj => by omega⟩
    case round =>
      rcases hrel with ⟨i, hi, h60, rfl, rfl, rfl, HB, HN⟩ | ⟨i, x, va', vc', S', hi, rfl, rfl, rfl, HG', HB⟩
      · clear HBr
        have hq2 : 0 ≤ (i : Int) := by omega
        have hend : i < l.length ∧ i < 60 ∨ (¬ (i < l.length ∧ i < 60)) := by omega
        rcases hend with ⟨hlt, h6⟩ | hend
        · have hq1 : (i : Int) < (l.length : Int) := by omega
          have hq3 : (i : Int) < 60 := by omega
          obtain ⟨b, o, rfl, c0, c1⟩ := HL.out.at_ i hlt
          have d0 := cell_low c0 (cell_lt c0) HB.out.low
          obtain ⟨hu, _⟩ := HL.out.wf l[i] (List.getElem_mem hlt)
          obtain ⟨u, hue⟩ : ∃ u, l[i].1 = u := ⟨_, rfl⟩
          rw [hue] at d0 hu
          have HUE := toHid hue
          have hku := keyI hu
          clear c0 c1 hue
          go_wp2_with fail
          refine (victim23 HB.out.gr hku (by omega)).mono ?_
          rintro e w3 ⟨R, rfl, hR, hb3⟩
          have HB3 := toHid (HB.out.below hb3)
          by_cases hRe : R = []
          · subst hRe
            have HN' : Hid (∀ j, (hj : j < l.length) → j < i + 1 → ∀ z, ¬ (Lds (outE (cutE (madeE l 60) G)) (.int .i64 l[j].1) (liI z) ∧ Lds (outE (cutE (madeE l 60) G)) (liI z) (.int .i64 l[j].1))) := fun j hj hji z hz => by
              by_cases e : j = i
              · subst e
                rw [HUE.out] at hz
                have := (hR.mem z).2 hz
                simp at this
              · exact HN.out j hj (by omega) z hz
            clear hR hb3
            go_wp2_with fail
            go_roundw
            case rel => exact .inl ⟨i + 1, by omega, by omega, rfl, rfl, by simp, HB3, HN'⟩
            case measure => first | omega | (simp only [intOf]; omega)
          · have hem : R.isEmpty = false := by simpa using hRe
            have HVF := toHid (victim_from hR hRe)
            have hvw := lds_wf2 HL.out.wf ((hR.mem _).1 (last_mem hRe)).1
            obtain ⟨x, hx⟩ : ∃ x, R.getLastD 0 = x := ⟨_, rfl⟩
            rw [hx] at HVF hvw ⊢
            rw [hem]
            have hkx := keyI hvw
            have HGo' := toHid (HGo.out.add HVF.out)
            clear hR hb3 hem hRe hx
            go_wp2_with fail
            refine (gone15 HB3.out.gr hkx (by omega)).mono ?_
            rintro e w4 ⟨S4, rfl, hg4, ht4, hs4⟩
            have HB4 := toHid ((HB3.out.cut hg4 ht4 hs4).below ((Below.refl _ _).alloc (Nat.le_refl _) (.cells #[.int .i64 x] 3)))
            clear hg4 ht4 hs4
            go_wp2_with (first
              | (at_builtin; refine wpList_append_own _ rfl _ _ 42 rfl w.heap.size 3 i0 _ 1 8 Try.underlying42 hi0 hz0 hz1 hz2 rfl (by decide) _ G.length _ rfl HB4.out.row ⟨w4.heap.size, 0, none⟩ 1 1 [.int .i64 x] rfl rfl (cell_one w4 _ _) (by intro q hq; simp at hq; subst hq; rfl) (by unfold maxLen; omega) (by omega) HB4.out.low.size ?_; intro v7 w7 hown7 hgrow7 _)
              | fail)
            have HB7 := toHid (HB4.out.push (x := x) hgrow7 hown7)
            obtain ⟨va7, vc7, hv7⟩ : ∃ a c, v7 = .slice a (G.length + 1) c := by
              rcases hown7.2 with ⟨_, h0⟩ | ⟨g, cap, cur, rfl, _⟩
              · cases h0
              · exact ⟨_, _, rfl⟩
            subst hv7
            rw [show Lit.int .i64 x = liI x from rfl, ← cutE_snoc] at HB7
            go_roundw
            case rel => exact .inr ⟨i + 1, x, va7, vc7, S4, by omega, rfl, rfl, by simp, HGo', HB7⟩
            case measure => first | omega | (simp only [intOf]; omega)
        · by_cases hlt : i < l.length
          · obtain rfl : i = 60 := by omega
            have hq1 : ((60 : Nat) : Int) < (l.length : Int) := by omega
            clear hend
            have HNR : Hid (∀ x : Lit, ¬ Lds (outE (cutE (madeE l 60) G)) x x) := fun x => no_rings (fun j hj hj6 => HN.out j hj (by omega)) x
            have H30 := toHid (show B3 w p (cutE (madeE l 60) G) S G (.slice va G.length vc) [] (.slice none 0 0) wr from ⟨HB.out, World.ownsRow_nil _ _ _ _⟩)
            clear HB HN
            go_wp2_with fail
            go_loopw [10, 11, 12] (fun lf s k W => ∃ (k3 n3 : Nat) (m : List (Int × Int)) (vs : Option Addr) (cs : Nat), k3 ≤ l.length ∧ k3 ≤ 60 ∧ k = .int .i64 k3 ∧ lf = .int .i64 n3 ∧ s = .slice vs m.length cs ∧ Hid (m = l.take k3) ∧ Hid (n3 = (cutE (madeE l k3) G).length) ∧ Hid (B3 w p (cutE (madeE l 60) G) S G (.slice va G.length vc) m s W)) (fun _ _ k _ => l.length - (intOf k).toNat)
            case atStart => exact ⟨0, 0, [], none, 0, Nat.zero_le _, by omega, rfl, rfl, rfl, toHid (by simp), toHid (by simp [madeE, cutE_eq]), H30⟩
            case round =>
              obtain ⟨k3, n3, m, vs, cs, hk3, hk6, rfl, rfl, rfl, HMT, HNT, HBw⟩ := hrel
              clear H30
              have hq2 : 0 ≤ (k3 : Int) := by omega
              have hn3 : n3 ≤ 60 := by have := cutE_len (madeE l k3) G; have := madeE_len l k3; have := HNT.out; omega
              have hml : m.length ≤ 60 := by rw [HMT.out]; simp; omega
              have HWm : Hid (∀ e, e ∈ m → (Lit.int .i64 e.1).wf = true ∧ (Lit.int .i64 e.2).wf = true) := fun e he => HL.out.wf e (by rw [HMT.out] at he; exact List.mem_of_mem_take he)
              have hend3 : k3 < l.length ∧ k3 < 60 ∨ (¬ (k3 < l.length ∧ k3 < 60)) := by omega
              rcases hend3 with ⟨hlt, h6⟩ | hend3
              · have hq1 : (k3 : Int) < (l.length : Int) := by omega
                have hq3 : (k3 : Int) < 60 := by omega
                obtain ⟨b, o, rfl, c0, c1⟩ := HL.out.at_ k3 hlt
                obtain ⟨hu, hv⟩ := HL.out.wf l[k3] (List.getElem_mem hlt)
                have HSt := toHid (left_step (G := G) hlt)
                have HEd := toHid (fun h1 h2 => edge_left (G := G) hlt h6 h1 h2)
                have HTk : Hid (l.take (k3 + 1) = l.take k3 ++ [l[k3]]) := by show _ = _; rw [List.take_succ_eq_append_getElem hlt]
                obtain ⟨e, he⟩ : ∃ e, l[k3] = e := ⟨_, rfl⟩
                rw [he] at c0 c1 hu hv HSt HEd HTk
                obtain ⟨u, v⟩ := e
                have HMT' : Hid (m ++ [(u, v)] = l.take (k3 + 1)) := by show _ = _; rw [HTk.out, HMT.out]
                have HST : Hid ((cutE (madeE l (k3 + 1)) G).length = (cutE (madeE l k3) G).length + if (u, v) ∉ m ∧ u ∉ G ∧ v ∉ G then 1 else 0) := by show _ = _; rw [HMT.out]; exact HSt.out
                have HC : Hid (∀ W, Below w.heap.size w W → W.cell? ⟨b, o + k3 * 2, none⟩ = some (.int .i64 u) ∧ W.cell? ⟨b, o + k3 * 2 + 1, none⟩ = some (.int .i64 v)) := fun W hW => ⟨cell_low c0 (cell_lt c0) hW, cell_low c1 (cell_lt c1) hW⟩
                have hku : keyOf Try.prog 3 (.int .i64 u) = some (.int .i64 u) := keyI hu
                have hkv : keyOf Try.prog 3 (.int .i64 v) = some (.int .i64 v) := keyI hv
                have HNu : Hid (ldsB (cutE (madeE l 60) G) (.int .i64 u) (.int .i64 u) = false) := decide_eq_false (HNR.out _)
                have HNv : Hid (ldsB (cutE (madeE l 60) G) (.int .i64 v) (.int .i64 v) = false) := decide_eq_false (HNR.out _)
                have HEU0 : Hid (u ∉ G → v ∉ G → ldsB (cutE (madeE l 60) G) (.int .i64 u) (.int .i64 v) = true) := fun h1 h2 => HEd.out h1 h2
                clear c0 c1 he HSt HEd HTk HMT
                have HMT := HMT'
                clear HMT'
                go_wp2_with fail
                have hbd := (HBw.out.below (Below.refl _ _).drew)
                refine wp_region_held_drew (S := fun W => W.cell? ⟨b, o + k3 * 2, none⟩ = some (.int .i64 u) ∧ W.cell? ⟨b, o + k3 * 2 + 1, none⟩ = some (.int .i64 v)) (by kernel_rfl) (HC.out _ hbd.br.low) (fun hHeld => ?_)
                refine wpAnyH_take (i := 0) (v := ?_) rfl (by kernel_rfl) (by kernel_rfl) (by kernel_rfl) (fun _ _ _ h => h) (Or.inl ⟨by rfl, ?_⟩) (by assumption) ?_
                rotate_left
                · (intro W hSw; (try dsimp only at hSw); go_simp; try with_reducible rfl)
                try simp only [Act.put, List.getElem_toArray, List.getElem_cons_zero, List.setIfInBounds_toArray, List.set_cons_zero, List.set_cons_succ]
                refine wpAnyH_take (i := 1) (v := ?_) rfl (by kernel_rfl) (by kernel_rfl) (by kernel_rfl) (fun _ _ _ h => h) (Or.inl ⟨by rfl, ?_⟩) (by assumption) ?_
                rotate_left
                · (intro W hSw; (try dsimp only at hSw); go_simp; try with_reducible rfl)
                try simp only [Act.put, List.getElem_toArray, List.getElem_cons_zero, List.getElem_cons_succ, List.setIfInBounds_toArray, List.set_cons_zero, List.set_cons_succ]
                refine wpAnyH_take (i := 2) (v := ?_) rfl (by kernel_rfl) (by kernel_rfl) (by kernel_rfl) (fun _ _ _ h => h) (Or.inl ⟨by rfl, ?_⟩) (by assumption) ?_
                rotate_left
                · (intro W hSw; (try dsimp only at hSw); go_simp; try with_reducible rfl)
                try simp only [Act.put, List.getElem_toArray, List.getElem_cons_zero, List.getElem_cons_succ, List.setIfInBounds_toArray, List.set_cons_zero, List.set_cons_succ]
                refine wpAnyH_take (i := 3) (v := ?_) rfl (by kernel_rfl) (by kernel_rfl) (by kernel_rfl) (fun _ _ _ h => h) (Or.inl ⟨by rfl, ?_⟩) (by assumption) ?_
                rotate_left
                · (intro W hSw; (try dsimp only at hSw); go_simp; try with_reducible rfl)
                try simp only [Act.put, List.getElem_toArray, List.getElem_cons_zero, List.getElem_cons_succ, List.setIfInBounds_toArray, List.set_cons_zero, List.set_cons_succ]
                refine wpAnyH_take (i := 4) (v := ?_) rfl (by kernel_rfl) (by kernel_rfl) (by kernel_rfl) (fun _ _ _ h => h) (Or.inl ⟨by rfl, ?_⟩) (by assumption) ?_
                rotate_left
                · (intro W hSw; (try dsimp only at hSw); go_simp; try with_reducible rfl)
                try simp only [Act.put, List.getElem_toArray, List.getElem_cons_zero, List.getElem_cons_succ, List.setIfInBounds_toArray, List.set_cons_zero, List.set_cons_succ]
                refine wpAnyH_take (i := 5) (v := ?_) rfl (by kernel_rfl) (by kernel_rfl) (by kernel_rfl) (fun _ _ _ h => h) (Or.inl ⟨by rfl, ?_⟩) (by assumption) ?_
                rotate_left
                · (intro W hSw; (try dsimp only at hSw); go_simp; try with_reducible rfl)
                try simp only [Act.put, List.getElem_toArray, List.getElem_cons_zero, List.getElem_cons_succ, List.setIfInBounds_toArray, List.set_cons_zero, List.set_cons_succ]
                refine wpAnyH_take (i := 6) (v := ?_) rfl (by kernel_rfl) (by kernel_rfl) (by kernel_rfl) (fun _ _ _ h => h) (Or.inl ⟨by rfl, ?_⟩) (by assumption) ?_
                rotate_left
                · (intro W hSw; (try dsimp only at hSw); go_simp; try with_reducible rfl)
                try simp only [Act.put, List.getElem_toArray, List.getElem_cons_zero, List.getElem_cons_succ, List.setIfInBounds_toArray, List.set_cons_zero, List.set_cons_succ]
                refine wpAnyH_take (i := 7) (v := ?_) rfl (by kernel_rfl) (by kernel_rfl) (by kernel_rfl) (fun _ _ _ h => h) (Or.inl ⟨by rfl, ?_⟩) (by assumption) ?_
                rotate_left
                · (intro W hSw; (try dsimp only at hSw); go_simp; try with_reducible rfl)
                try simp only [Act.put, List.getElem_toArray, List.getElem_cons_zero, List.getElem_cons_succ, List.setIfInBounds_toArray, List.set_cons_zero, List.set_cons_succ]
                refine wpAnyH_take (i := 8) (v := ?_) rfl (by kernel_rfl) (by kernel_rfl) (by kernel_rfl) (fun _ _ _ h => h) (Or.inl ⟨by rfl, ?_⟩) (by assumption) ?_
                rotate_left
                · (intro W hSw; (try dsimp only at hSw); go_simp; try with_reducible rfl)
                try simp only [Act.put, List.getElem_toArray, List.getElem_cons_zero, List.getElem_cons_succ, List.setIfInBounds_toArray, List.set_cons_zero, List.set_cons_succ]
                refine wpAnyH_take (i := 9) (v := ?_) rfl (by kernel_rfl) (by kernel_rfl) (by kernel_rfl) (fun _ _ _ h => h) (Or.inl ⟨by rfl, ?_⟩) (by assumption) ?_
                rotate_left
                · (intro W hSw; (try dsimp only at hSw); go_simp; try with_reducible rfl)
                try simp only [Act.put, List.getElem_toArray, List.getElem_cons_zero, List.getElem_cons_succ, List.setIfInBounds_toArray, List.set_cons_zero, List.set_cons_succ]
                refine wpAnyH_take (i := 10) (v := ?_) rfl (by kernel_rfl) (by kernel_rfl) (by kernel_rfl) (fun _ _ _ h => h) (Or.inl ⟨by rfl, ?_⟩) (by assumption) ?_
                rotate_left
                · (intro W hSw; (try dsimp only at hSw); go_simp; try with_reducible rfl)
                try simp only [Act.put, List.getElem_toArray, List.getElem_cons_zero, List.getElem_cons_succ, List.setIfInBounds_toArray, List.set_cons_zero, List.set_cons_succ]
                refine wpAnyH_ready (rs := [11]) (by kernel_rfl) (by simp) ?_
                refine AllReadyH.cons rfl (fun K hK => ?_) AllReadyH.nil
                clear hHeld
                go_simp
                refine (leads20 hbd.br.gr hku hku (by omega)).mono ?_
                rintro e whbe ⟨rfl, hbhbe⟩
                rw [HNu.out]
                have hbe := hbd.below hbhbe
                clear hbhbe hbd
                try go_wp2_with fail
                refine hK.out _ _ (HC.out _ hbe.br.low) (fun hHeld => ?_)
                clear hK K
                try simp only [Act.put, List.getElem_toArray, List.getElem_cons_zero, List.getElem_cons_succ, List.setIfInBounds_toArray, List.set_cons_zero, List.set_cons_succ]
                refine wpAnyH_take (i := 12) (v := ?_) rfl (by kernel_rfl) (by kernel_rfl) (by kernel_rfl) (fun _ _ _ h => h) (Or.inl ⟨by rfl, ?_⟩) (by assumption) ?_
                rotate_left
                · (intro W hSw; (try dsimp only at hSw); go_simp; try with_reducible rfl)
                try simp only [Act.put, List.getElem_toArray, List.getElem_cons_zero, List.getElem_cons_succ, List.setIfInBounds_toArray, List.set_cons_zero, List.set_cons_succ]
                refine wpAnyH_take (i := 13) (v := ?_) rfl (by kernel_rfl) (by kernel_rfl) (by kernel_rfl) (fun _ _ _ h => h) (Or.inl ⟨by rfl, ?_⟩) (by assumption) ?_
                rotate_left
                · (intro W hSw; (try dsimp only at hSw); go_simp; try with_reducible rfl)
                try simp only [Act.put, List.getElem_toArray, List.getElem_cons_zero, List.getElem_cons_succ, List.setIfInBounds_toArray, List.set_cons_zero, List.set_cons_succ]
                refine wpAnyH_take (i := 14) (v := ?_) rfl (by kernel_rfl) (by kernel_rfl) (by kernel_rfl) (fun _ _ _ h => h) (Or.inl ⟨by rfl, ?_⟩) (by assumption) ?_
                rotate_left
                · (intro W hSw; (try dsimp only at hSw); go_simp; try with_reducible rfl)
                try simp only [Act.put, List.getElem_toArray, List.getElem_cons_zero, List.getElem_cons_succ, List.setIfInBounds_toArray, List.set_cons_zero, List.set_cons_succ]
                refine wpAnyH_take (i := 15) (v := ?_) rfl (by kernel_rfl) (by kernel_rfl) (by kernel_rfl) (fun _ _ _ h => h) (Or.inl ⟨by rfl, ?_⟩) (by assumption) ?_
                rotate_left
                · (intro W hSw; (try dsimp only at hSw); go_simp; try with_reducible rfl)
                try simp only [Act.put, List.getElem_toArray, List.getElem_cons_zero, List.getElem_cons_succ, List.setIfInBounds_toArray, List.set_cons_zero, List.set_cons_succ]
                refine wpAnyH_take (i := 16) (v := ?_) rfl (by kernel_rfl) (by kernel_rfl) (by kernel_rfl) (fun _ _ _ h => h) (Or.inl ⟨by rfl, ?_⟩) (by assumption) ?_
                rotate_left
                · (intro W hSw; (try dsimp only at hSw); go_simp; try with_reducible rfl)
                try simp only [Act.put, List.getElem_toArray, List.getElem_cons_zero, List.getElem_cons_succ, List.setIfInBounds_toArray, List.set_cons_zero, List.set_cons_succ]
                refine wpAnyH_take (i := 17) (v := ?_) rfl (by kernel_rfl) (by kernel_rfl) (by kernel_rfl) (fun _ _ _ h => h) (Or.inl ⟨by rfl, ?_⟩) (by assumption) ?_
                rotate_left
                · (intro W hSw; (try dsimp only at hSw); go_simp; try with_reducible rfl)
                try simp only [Act.put, List.getElem_toArray, List.getElem_cons_zero, List.getElem_cons_succ, List.setIfInBounds_toArray, List.set_cons_zero, List.set_cons_succ]
                refine wpAnyH_take (i := 18) (v := ?_) rfl (by kernel_rfl) (by kernel_rfl) (by kernel_rfl) (fun _ _ _ h => h) (Or.inl ⟨by rfl, ?_⟩) (by assumption) ?_
                rotate_left
                · (intro W hSw; (try dsimp only at hSw); go_simp; try with_reducible rfl)
                try simp only [Act.put, List.getElem_toArray, List.getElem_cons_zero, List.getElem_cons_succ, List.setIfInBounds_toArray, List.set_cons_zero, List.set_cons_succ]
                refine wpAnyH_take (i := 19) (v := ?_) rfl (by kernel_rfl) (by kernel_rfl) (by kernel_rfl) (fun _ _ _ h => h) (Or.inl ⟨by rfl, ?_⟩) (by assumption) ?_
                rotate_left
                · (intro W hSw; (try dsimp only at hSw); go_simp; try with_reducible rfl)
                try simp only [Act.put, List.getElem_toArray, List.getElem_cons_zero, List.getElem_cons_succ, List.setIfInBounds_toArray, List.set_cons_zero, List.set_cons_succ]
                refine wpAnyH_take (i := 20) (v := ?_) rfl (by kernel_rfl) (by kernel_rfl) (by kernel_rfl) (fun _ _ _ h => h) (Or.inl ⟨by rfl, ?_⟩) (by assumption) ?_
                rotate_left
                · (intro W hSw; (try dsimp only at hSw); go_simp; try with_reducible rfl)
                try simp only [Act.put, List.getElem_toArray, List.getElem_cons_zero, List.getElem_cons_succ, List.setIfInBounds_toArray, List.set_cons_zero, List.set_cons_succ]
                refine wpAnyH_take (i := 21) (v := ?_) rfl (by kernel_rfl) (by kernel_rfl) (by kernel_rfl) (fun _ _ _ h => h) (Or.inl ⟨by rfl, ?_⟩) (by assumption) ?_
                rotate_left
                · (intro W hSw; (try dsimp only at hSw); go_simp; try with_reducible rfl)
                try simp only [Act.put, List.getElem_toArray, List.getElem_cons_zero, List.getElem_cons_succ, List.setIfInBounds_toArray, List.set_cons_zero, List.set_cons_succ]
                refine wpAnyH_take (i := 22) (v := ?_) rfl (by kernel_rfl) (by kernel_rfl) (by kernel_rfl) (fun _ _ _ h => h) (Or.inl ⟨by rfl, ?_⟩) (by assumption) ?_
                rotate_left
                · (intro W hSw; (try dsimp only at hSw); go_simp; try with_reducible rfl)
                try simp only [Act.put, List.getElem_toArray, List.getElem_cons_zero, List.getElem_cons_succ, List.setIfInBounds_toArray, List.set_cons_zero, List.set_cons_succ]
                refine wpAnyH_take (i := 23) (v := ?_) rfl (by kernel_rfl) (by kernel_rfl) (by kernel_rfl) (fun _ _ _ h => h) (Or.inl ⟨by rfl, ?_⟩) (by assumption) ?_
                rotate_left
                · (intro W hSw; (try dsimp only at hSw); go_simp; try with_reducible rfl)
                try simp only [Act.put, List.getElem_toArray, List.getElem_cons_zero, List.getElem_cons_succ, List.setIfInBounds_toArray, List.set_cons_zero, List.set_cons_succ]
                refine wpAnyH_ready (rs := [24]) (by kernel_rfl) (by simp) ?_
                refine AllReadyH.cons rfl (fun K hK => ?_) AllReadyH.nil
                clear hHeld
                go_simp
                refine (leads20 hbe.br.gr hkv hkv (by omega)).mono ?_
                rintro e whbf ⟨rfl, hbhbf⟩
                rw [HNv.out]
                have hbf := hbe.below hbhbf
                clear hbhbf hbe
                try go_wp2_with fail
                refine hK.out _ _ (HC.out _ hbf.br.low) (fun hHeld => ?_)
                clear hK K
                try simp only [Act.put, List.getElem_toArray, List.getElem_cons_zero, List.getElem_cons_succ, List.setIfInBounds_toArray, List.set_cons_zero, List.set_cons_succ]
                refine wpAnyH_take (i := 25) (v := ?_) rfl (by kernel_rfl) (by kernel_rfl) (by kernel_rfl) (fun _ _ _ h => h) (Or.inl ⟨by rfl, ?_⟩) (by assumption) ?_
                rotate_left
                · (intro W hSw; (try dsimp only at hSw); go_simp; try with_reducible rfl)
                try simp only [Act.put, List.getElem_toArray, List.getElem_cons_zero, List.getElem_cons_succ, List.setIfInBounds_toArray, List.set_cons_zero, List.set_cons_succ]
                refine wpAnyH_done (by kernel_rfl) ?_ _
                clear hHeld
                try simp only [Exit.then]
                have HB7 := toHid hbf
                clear hbf
                obtain ⟨d0, d1⟩ := HC.out _ HB7.out.br.low
                have tokU : True := trivial
                by_cases hseen : (u, v) ∈ m
                · go_wp2_with (first
                    | (go_at_call 25; refine (at25 (sle_row HB7.out.seen HWm.out) (by omega) u v).mono ?_; rintro e w8 ⟨kk, rfl, hk1, hk2, hb8⟩; have hkk := hk1 hseen; have HB8 := toHid (HB7.out.below hb8); have HRG := toHid (RowI.of HB8.out.br.row); have HBa := toHid (HB8.out.below ((Below.refl _ _).alloc (Nat.le_refl _) (.cells #[.int .i64 u, .int .i64 v] 27))); obtain ⟨f0, f1⟩ := HC.out _ HB8.out.br.low; clear hk1 hk2 hb8)
                    | (at_builtin; refine wpList_append_own _ rfl _ _ 25 rfl w.heap.size 27 j0 _ 2 16 Try.underlying25 hj0 hy0 hy1 hy2 rfl (by decide) _ m.length _ rfl HBa.out.seen ⟨w8.heap.size, 0, none⟩ 1 1 [.int .i64 u, .int .i64 v] rfl rfl (cell_two w8 _ _ _) (by intro q hq; simp at hq; rcases hq with rfl | rfl <;> rfl) (by unfold maxLen; omega) (by omega) HBa.out.br.low.size ?_; intro v9 w9 hown9 hgrow9 _)
                    | fail)
                  clear d0 d1
                  have HB9 := toHid (HBa.out.push (e := (u, v)) hgrow9 hown9)
                  obtain ⟨va9, vc9, hv9⟩ : ∃ a c, v9 = .slice a (m.length + 1) c := by
                    rcases hown9.2 with ⟨_, h0⟩ | ⟨g, cap, cur, rfl, _⟩
                    · cases h0
                    · exact ⟨_, _, rfl⟩
                  subst hv9
                  go_roundw
                  case rel => exact ⟨k3 + 1, n3, m ++ [(u, v)], va9, vc9, by omega, by omega, by simp, by simp, by simp, HMT, toHid (by rw [HST.out]; rw [if_neg (fun h => h.1 hseen)]; exact HNT.out), HB9⟩
                  case measure => first | omega | (simp only [intOf]; omega)
                · by_cases hug : u ∈ G
                  · go_wp2_with (first
                      | (go_at_call 25; refine (at25 (sle_row HB7.out.seen HWm.out) (by omega) u v).mono ?_; rintro e w8 ⟨kk, rfl, hk1, hk2, hb8⟩; obtain rfl := hk2 hseen; have HB8 := toHid (HB7.out.below hb8); have HRG := toHid (RowI.of HB8.out.br.row); have HBa := toHid (HB8.out.below ((Below.refl _ _).alloc (Nat.le_refl _) (.cells #[.int .i64 u, .int .i64 v] 27))); obtain ⟨f0, f1⟩ := HC.out _ HB8.out.br.low; clear hk1 hk2 hb8)
                      | (go_at_call 22; have _t := tokU; refine (has22 HRG.out (by omega) u).mono ?_; rintro e w8' ⟨rfl, hw⟩; subst w8'; rw [decide_eq_true hug]; clear tokU)
                      | (at_builtin; refine wpList_append_own _ rfl _ _ 25 rfl w.heap.size 27 j0 _ 2 16 Try.underlying25 hj0 hy0 hy1 hy2 rfl (by decide) _ m.length _ rfl HBa.out.seen ⟨w8.heap.size, 0, none⟩ 1 1 [.int .i64 u, .int .i64 v] rfl rfl (cell_two w8 _ _ _) (by intro q hq; simp at hq; rcases hq with rfl | rfl <;> rfl) (by unfold maxLen; omega) (by omega) HBa.out.br.low.size ?_; intro v9 w9 hown9 hgrow9 _)
                      | fail)
                    clear d0 d1
                    have HB9 := toHid (HBa.out.push (e := (u, v)) hgrow9 hown9)
                    obtain ⟨va9, vc9, hv9⟩ : ∃ a c, v9 = .slice a (m.length + 1) c := by
                      rcases hown9.2 with ⟨_, h0⟩ | ⟨g, cap, cur, rfl, _⟩
                      · cases h0
                      · exact ⟨_, _, rfl⟩
                    subst hv9
                    go_roundw
                    case rel => exact ⟨k3 + 1, n3, m ++ [(u, v)], va9, vc9, by omega, by omega, by simp, by simp, by simp, HMT, toHid (by rw [HST.out]; rw [if_neg (fun h => h.2.1 hug)]; exact HNT.out), HB9⟩
                    case measure => first | omega | (simp only [intOf]; omega)
                  · by_cases hvg : v ∈ G
                    · go_wp2_with (first
                        | (go_at_call 25; refine (at25 (sle_row HB7.out.seen HWm.out) (by omega) u v).mono ?_; rintro e w8 ⟨kk, rfl, hk1, hk2, hb8⟩; obtain rfl := hk2 hseen; have HB8 := toHid (HB7.out.below hb8); have HRG := toHid (RowI.of HB8.out.br.row); have HBa := toHid (HB8.out.below ((Below.refl _ _).alloc (Nat.le_refl _) (.cells #[.int .i64 u, .int .i64 v] 27))); obtain ⟨f0, f1⟩ := HC.out _ HB8.out.br.low; clear hk1 hk2 hb8)
                        | (go_at_call 22; have _t := tokU; refine (has22 HRG.out (by omega) u).mono ?_; rintro e w8' ⟨rfl, hw⟩; subst w8'; rw [decide_eq_false hug]; clear tokU)
                        | (go_at_call 22; refine (has22 HRG.out (by omega) v).mono ?_; rintro e w8' ⟨rfl, hw⟩; subst w8'; rw [decide_eq_true hvg])
                        | (at_builtin; refine wpList_append_own _ rfl _ _ 25 rfl w.heap.size 27 j0 _ 2 16 Try.underlying25 hj0 hy0 hy1 hy2 rfl (by decide) _ m.length _ rfl HBa.out.seen ⟨w8.heap.size, 0, none⟩ 1 1 [.int .i64 u, .int .i64 v] rfl rfl (cell_two w8 _ _ _) (by intro q hq; simp at hq; rcases hq with rfl | rfl <;> rfl) (by unfold maxLen; omega) (by omega) HBa.out.br.low.size ?_; intro v9 w9 hown9 hgrow9 _)
                        | fail)
                      clear d0 d1
                      have HB9 := toHid (HBa.out.push (e := (u, v)) hgrow9 hown9)
                      obtain ⟨va9, vc9, hv9⟩ : ∃ a c, v9 = .slice a (m.length + 1) c := by
                        rcases hown9.2 with ⟨_, h0⟩ | ⟨g, cap, cur, rfl, _⟩
                        · cases h0
                        · exact ⟨_, _, rfl⟩
                      subst hv9
                      go_roundw
                      case rel => exact ⟨k3 + 1, n3, m ++ [(u, v)], va9, vc9, by omega, by omega, by simp, by simp, by simp, HMT, toHid (by rw [HST.out]; rw [if_neg (fun h => h.2.2 hvg)]; exact HNT.out), HB9⟩
                      case measure => first | omega | (simp only [intOf]; omega)
                    · have HEU := toHid (HEU0.out hug hvg)
                      go_wp2_with (first
                        | (go_at_call 25; refine (at25 (sle_row HB7.out.seen HWm.out) (by omega) u v).mono ?_; rintro e w8 ⟨kk, rfl, hk1, hk2, hb8⟩; obtain rfl := hk2 hseen; have HB8 := toHid (HB7.out.below hb8); have HRG := toHid (RowI.of HB8.out.br.row); have HBa := toHid (HB8.out.below ((Below.refl _ _).alloc (Nat.le_refl _) (.cells #[.int .i64 u, .int .i64 v] 27))); obtain ⟨f0, f1⟩ := HC.out _ HB8.out.br.low; clear hk1 hk2 hb8)
                        | (go_at_call 22; have _t := tokU; refine (has22 HRG.out (by omega) u).mono ?_; rintro e w8' ⟨rfl, hw⟩; subst w8'; rw [decide_eq_false hug]; clear tokU)
                        | (go_at_call 22; refine (has22 HRG.out (by omega) v).mono ?_; rintro e w8' ⟨rfl, hw⟩; subst w8'; rw [decide_eq_false hvg])
                        | fail)
                      clear d0 d1 f0 f1 HBa
                      have hbd := (HB8.out.below (Below.refl _ _).drew)
                      clear HB8
                      refine wp_region_held_drew (S := fun W => W.cell? ⟨b, o + k3 * 2, none⟩ = some (.int .i64 u) ∧ W.cell? ⟨b, o + k3 * 2 + 1, none⟩ = some (.int .i64 v)) (by kernel_rfl) (HC.out _ hbd.br.low) (fun hHeld => ?_)
                      refine wpAnyH_take (i := 0) (v := ?_) rfl (by kernel_rfl) (by kernel_rfl) (by kernel_rfl) (fun _ _ _ h => h) (Or.inl ⟨by rfl, ?_⟩) (by assumption) ?_
                      rotate_left
                      · (intro W hSw; (try dsimp only at hSw); go_simp; try with_reducible rfl)
                      try simp only [Act.put, List.getElem_toArray, List.getElem_cons_zero, List.setIfInBounds_toArray, List.set_cons_zero, List.set_cons_succ]
                      refine wpAnyH_take (i := 1) (v := ?_) rfl (by kernel_rfl) (by kernel_rfl) (by kernel_rfl) (fun _ _ _ h => h) (Or.inl ⟨by rfl, ?_⟩) (by assumption) ?_
                      rotate_left
                      · (intro W hSw; (try dsimp only at hSw); go_simp; try with_reducible rfl)
                      try simp only [Act.put, List.getElem_toArray, List.getElem_cons_zero, List.getElem_cons_succ, List.setIfInBounds_toArray, List.set_cons_zero, List.set_cons_succ]
                      refine wpAnyH_take (i := 2) (v := ?_) rfl (by kernel_rfl) (by kernel_rfl) (by kernel_rfl) (fun _ _ _ h => h) (Or.inl ⟨by rfl, ?_⟩) (by assumption) ?_
                      rotate_left
                      · (intro W hSw; (try dsimp only at hSw); go_simp; try with_reducible rfl)
                      try simp only [Act.put, List.getElem_toArray, List.getElem_cons_zero, List.getElem_cons_succ, List.setIfInBounds_toArray, List.set_cons_zero, List.set_cons_succ]
                      refine wpAnyH_take (i := 3) (v := ?_) rfl (by kernel_rfl) (by kernel_rfl) (by kernel_rfl) (fun _ _ _ h => h) (Or.inl ⟨by rfl, ?_⟩) (by assumption) ?_
                      rotate_left
                      · (intro W hSw; (try dsimp only at hSw); go_simp; try with_reducible rfl)
                      try simp only [Act.put, List.getElem_toArray, List.getElem_cons_zero, List.getElem_cons_succ, List.setIfInBounds_toArray, List.set_cons_zero, List.set_cons_succ]
                      refine wpAnyH_take (i := 4) (v := ?_) rfl (by kernel_rfl) (by kernel_rfl) (by kernel_rfl) (fun _ _ _ h => h) (Or.inl ⟨by rfl, ?_⟩) (by assumption) ?_
                      rotate_left
                      · (intro W hSw; (try dsimp only at hSw); go_simp; try with_reducible rfl)
                      try simp only [Act.put, List.getElem_toArray, List.getElem_cons_zero, List.getElem_cons_succ, List.setIfInBounds_toArray, List.set_cons_zero, List.set_cons_succ]
                      refine wpAnyH_take (i := 5) (v := ?_) rfl (by kernel_rfl) (by kernel_rfl) (by kernel_rfl) (fun _ _ _ h => h) (Or.inl ⟨by rfl, ?_⟩) (by assumption) ?_
                      rotate_left
                      · (intro W hSw; (try dsimp only at hSw); go_simp; try with_reducible rfl)
                      try simp only [Act.put, List.getElem_toArray, List.getElem_cons_zero, List.getElem_cons_succ, List.setIfInBounds_toArray, List.set_cons_zero, List.set_cons_succ]
                      refine wpAnyH_take (i := 6) (v := ?_) rfl (by kernel_rfl) (by kernel_rfl) (by kernel_rfl) (fun _ _ _ h => h) (Or.inl ⟨by rfl, ?_⟩) (by assumption) ?_
                      rotate_left
                      · (intro W hSw; (try dsimp only at hSw); go_simp; try with_reducible rfl)
                      try simp only [Act.put, List.getElem_toArray, List.getElem_cons_zero, List.getElem_cons_succ, List.setIfInBounds_toArray, List.set_cons_zero, List.set_cons_succ]
                      refine wpAnyH_take (i := 7) (v := ?_) rfl (by kernel_rfl) (by kernel_rfl) (by kernel_rfl) (fun _ _ _ h => h) (Or.inl ⟨by rfl, ?_⟩) (by assumption) ?_
                      rotate_left
                      · (intro W hSw; (try dsimp only at hSw); go_simp; try with_reducible rfl)
                      try simp only [Act.put, List.getElem_toArray, List.getElem_cons_zero, List.getElem_cons_succ, List.setIfInBounds_toArray, List.set_cons_zero, List.set_cons_succ]
                      refine wpAnyH_take (i := 8) (v := ?_) rfl (by kernel_rfl) (by kernel_rfl) (by kernel_rfl) (fun _ _ _ h => h) (Or.inl ⟨by rfl, ?_⟩) (by assumption) ?_
                      rotate_left
                      · (intro W hSw; (try dsimp only at hSw); go_simp; try with_reducible rfl)
                      try simp only [Act.put, List.getElem_toArray, List.getElem_cons_zero, List.getElem_cons_succ, List.setIfInBounds_toArray, List.set_cons_zero, List.set_cons_succ]
                      refine wpAnyH_take (i := 9) (v := ?_) rfl (by kernel_rfl) (by kernel_rfl) (by kernel_rfl) (fun _ _ _ h => h) (Or.inl ⟨by rfl, ?_⟩) (by assumption) ?_
                      rotate_left
                      · (intro W hSw; (try dsimp only at hSw); go_simp; try with_reducible rfl)
                      try simp only [Act.put, List.getElem_toArray, List.getElem_cons_zero, List.getElem_cons_succ, List.setIfInBounds_toArray, List.set_cons_zero, List.set_cons_succ]
                      refine wpAnyH_take (i := 10) (v := ?_) rfl (by kernel_rfl) (by kernel_rfl) (by kernel_rfl) (fun _ _ _ h => h) (Or.inl ⟨by rfl, ?_⟩) (by assumption) ?_
                      rotate_left
                      · (intro W hSw; (try dsimp only at hSw); go_simp; try with_reducible rfl)
                      try simp only [Act.put, List.getElem_toArray, List.getElem_cons_zero, List.getElem_cons_succ, List.setIfInBounds_toArray, List.set_cons_zero, List.set_cons_succ]
                      refine wpAnyH_ready (rs := [11]) (by kernel_rfl) (by simp) ?_
                      refine AllReadyH.cons rfl (fun K hK => ?_) AllReadyH.nil
                      clear hHeld
                      go_simp
                      refine (leads20 hbd.br.gr hku hkv (by omega)).mono ?_
                      rintro e whg ⟨rfl, hbg⟩
                      rw [HEU.out]
                      have hbh := hbd.below hbg
                      clear hbg hbd
                      try go_wp2_with fail
                      refine hK.out _ _ (HC.out _ hbh.br.low) (fun hHeld => ?_)
                      clear hK K
                      try simp only [Act.put, List.getElem_toArray, List.getElem_cons_zero, List.getElem_cons_succ, List.setIfInBounds_toArray, List.set_cons_zero, List.set_cons_succ]
                      refine wpAnyH_take (i := 12) (v := ?_) rfl (by kernel_rfl) (by kernel_rfl) (by kernel_rfl) (fun _ _ _ h => h) (Or.inl ⟨by rfl, ?_⟩) (by assumption) ?_
                      rotate_left
                      · (intro W hSw; (try dsimp only at hSw); go_simp; try with_reducible rfl)
                      try simp only [Act.put, List.getElem_toArray, List.getElem_cons_zero, List.getElem_cons_succ, List.setIfInBounds_toArray, List.set_cons_zero, List.set_cons_succ]
                      refine wpAnyH_done (by kernel_rfl) ?_ _
                      clear hHeld
                      try simp only [Exit.then]
                      have HB8 := toHid hbh
                      clear hbh
                      have HBa := toHid (HB8.out.below ((Below.refl _ _).alloc (Nat.le_refl _) (.cells #[.int .i64 u, .int .i64 v] 27)))
                      obtain ⟨d0, d1⟩ := HC.out _ HB8.out.br.low
                      go_wp2_with (first
                        | (at_builtin; refine wpList_append_own _ rfl _ _ 25 rfl w.heap.size 27 j0 _ 2 16 Try.underlying25 hj0 hy0 hy1 hy2 rfl (by decide) _ m.length _ rfl HBa.out.seen ⟨whg.heap.size, 0, none⟩ 1 1 [.int .i64 u, .int .i64 v] rfl rfl (cell_two whg _ _ _) (by intro q hq; simp at hq; rcases hq with rfl | rfl <;> rfl) (by unfold maxLen; omega) (by omega) HBa.out.br.low.size ?_; intro v9 w9 hown9 hgrow9 _)
                        | fail)
                      have HB9 := toHid (HBa.out.push (e := (u, v)) hgrow9 hown9)
                      obtain ⟨va9, vc9, hv9⟩ : ∃ a c, v9 = .slice a (m.length + 1) c := by
                        rcases hown9.2 with ⟨_, h0⟩ | ⟨g, cap, cur, rfl, _⟩
                        · cases h0
                        · exact ⟨_, _, rfl⟩
                      subst hv9
                      go_roundw
                      case rel => exact ⟨k3 + 1, n3 + 1, m ++ [(u, v)], va9, vc9, by omega, by omega, by simp, by simp, by simp, HMT, toHid (by rw [HST.out]; rw [if_pos ⟨hseen, hug, hvg⟩, ← HNT.out]), HB9⟩
                      case measure => first | omega | (simp only [intOf]; omega)
              · by_cases hlt : k3 < l.length
                · obtain rfl : k3 = 60 := by omega
                  have hq1 : ((60 : Nat) : Int) < (l.length : Int) := by omega
                  clear hend3
                  go_wp2_with (first
                    | (go_at_call 16; refine (lenI HBw.out.br.gr).mono ?_; rintro e w9 ⟨rfl, hw9⟩; subst w9; rw [← HNT.out])
                    | (go_at_call 18; refine (lives18 _).mono ?_; rintro e w10 ⟨rfl, hb10⟩; have HB10 := toHid (below_next HBw.out.br.low HBw.out.br.low.size hb10); clear hb10)
                    | fail)
                  go_ret
                  exact ⟨rfl, HB10.out⟩
                · obtain rfl : k3 = l.length := by omega
                  have HE6 : Hid (madeE l l.length = madeE l 60) := by show _ = _; unfold madeE; rw [List.take_length, List.take_of_length_le hk6]
                  rw [HE6.out] at HNT
                  clear hend3 hlt
                  go_wp2_with (first
                    | (go_at_call 16; refine (lenI HBw.out.br.gr).mono ?_; rintro e w9 ⟨rfl, hw9⟩; subst w9; rw [← HNT.out])
                    | (go_at_call 18; refine (lives18 _).mono ?_; rintro e w10 ⟨rfl, hb10⟩; have HB10 := toHid (below_next HBw.out.br.low HBw.out.br.low.size hb10); clear hb10)
                    | fail)
                  go_ret
                  exact ⟨rfl, HB10.out⟩
          · obtain rfl : i = l.length := by omega
            clear hend hlt
            have HNR : Hid (∀ x : Lit, ¬ Lds (outE (cutE (madeE l 60) G)) x x) := fun x => no_rings (fun j hj hj6 => HN.out j hj (by omega)) x
            have H30 := toHid (show B3 w p (cutE (madeE l 60) G) S G (.slice va G.length vc) [] (.slice none 0 0) wr from ⟨HB.out, World.ownsRow_nil _ _ _ _⟩)
            clear HB HN
            go_wp2_with fail
            go_loopw [10, 11, 12] (fun lf s k W => ∃ (k3 n3 : Nat) (m : List (Int × Int)) (vs : Option Addr) (cs : Nat), k3 ≤ l.length ∧ k3 ≤ 60 ∧ k = .int .i64 k3 ∧ lf = .int .i64 n3 ∧ s = .slice vs m.length cs ∧ Hid (m = l.take k3) ∧ Hid (n3 = (cutE (madeE l k3) G).length) ∧ Hid (B3 w p (cutE (madeE l 60) G) S G (.slice va G.length vc) m s W)) (fun _ _ k _ => l.length - (intOf k).toNat)
            case atStart => exact ⟨0, 0, [], none, 0, Nat.zero_le _, by omega, rfl, rfl, rfl, toHid (by simp), toHid (by simp [madeE, cutE_eq]), H30⟩
            case round =>
              obtain ⟨k3, n3, m, vs, cs, hk3, hk6, rfl, rfl, rfl, HMT, HNT, HBw⟩ := hrel
              clear H30
              have hq2 : 0 ≤ (k3 : Int) := by omega
              have hn3 : n3 ≤ 60 := by have := cutE_len (madeE l k3) G; have := madeE_len l k3; have := HNT.out; omega
              have hml : m.length ≤ 60 := by rw [HMT.out]; simp; omega
              have HWm : Hid (∀ e, e ∈ m → (Lit.int .i64 e.1).wf = true ∧ (Lit.int .i64 e.2).wf = true) := fun e he => HL.out.wf e (by rw [HMT.out] at he; exact List.mem_of_mem_take he)
              have hend3 : k3 < l.length ∧ k3 < 60 ∨ (¬ (k3 < l.length ∧ k3 < 60)) := by omega
              rcases hend3 with ⟨hlt, h6⟩ | hend3
              · have hq1 : (k3 : Int) < (l.length : Int) := by omega
                have hq3 : (k3 : Int) < 60 := by omega
                obtain ⟨b, o, rfl, c0, c1⟩ := HL.out.at_ k3 hlt
                obtain ⟨hu, hv⟩ := HL.out.wf l[k3] (List.getElem_mem hlt)
                have HSt := toHid (left_step (G := G) hlt)
                have HEd := toHid (fun h1 h2 => edge_left (G := G) hlt h6 h1 h2)
                have HTk : Hid (l.take (k3 + 1) = l.take k3 ++ [l[k3]]) := by show _ = _; rw [List.take_succ_eq_append_getElem hlt]
                obtain ⟨e, he⟩ : ∃ e, l[k3] = e := ⟨_, rfl⟩
                rw [he] at c0 c1 hu hv HSt HEd HTk
                obtain ⟨u, v⟩ := e
                have HMT' : Hid (m ++ [(u, v)] = l.take (k3 + 1)) := by show _ = _; rw [HTk.out, HMT.out]
                have HST : Hid ((cutE (madeE l (k3 + 1)) G).length = (cutE (madeE l k3) G).length + if (u, v) ∉ m ∧ u ∉ G ∧ v ∉ G then 1 else 0) := by show _ = _; rw [HMT.out]; exact HSt.out
                have HC : Hid (∀ W, Below w.heap.size w W → W.cell? ⟨b, o + k3 * 2, none⟩ = some (.int .i64 u) ∧ W.cell? ⟨b, o + k3 * 2 + 1, none⟩ = some (.int .i64 v)) := fun W hW => ⟨cell_low c0 (cell_lt c0) hW, cell_low c1 (cell_lt c1) hW⟩
                have hku : keyOf Try.prog 3 (.int .i64 u) = some (.int .i64 u) := keyI hu
                have hkv : keyOf Try.prog 3 (.int .i64 v) = some (.int .i64 v) := keyI hv
                have HNu : Hid (ldsB (cutE (madeE l 60) G) (.int .i64 u) (.int .i64 u) = false) := decide_eq_false (HNR.out _)
                have HNv : Hid (ldsB (cutE (madeE l 60) G) (.int .i64 v) (.int .i64 v) = false) := decide_eq_false (HNR.out _)
                have HEU0 : Hid (u ∉ G → v ∉ G → ldsB (cutE (madeE l 60) G) (.int .i64 u) (.int .i64 v) = true) := fun h1 h2 => HEd.out h1 h2
                clear c0 c1 he HSt HEd HTk HMT
                have HMT := HMT'
                clear HMT'
                go_wp2_with fail
                have hbd := (HBw.out.below (Below.refl _ _).drew)
                refine wp_region_held_drew (S := fun W => W.cell? ⟨b, o + k3 * 2, none⟩ = some (.int .i64 u) ∧ W.cell? ⟨b, o + k3 * 2 + 1, none⟩ = some (.int .i64 v)) (by kernel_rfl) (HC.out _ hbd.br.low) (fun hHeld => ?_)
                refine wpAnyH_take (i := 0) (v := ?_) rfl (by kernel_rfl) (by kernel_rfl) (by kernel_rfl) (fun _ _ _ h => h) (Or.inl ⟨by rfl, ?_⟩) (by assumption) ?_
                rotate_left
                · (intro W hSw; (try dsimp only at hSw); go_simp; try with_reducible rfl)
                try simp only [Act.put, List.getElem_toArray, List.getElem_cons_zero, List.setIfInBounds_toArray, List.set_cons_zero, List.set_cons_succ]
                refine wpAnyH_take (i := 1) (v := ?_) rfl (by kernel_rfl) (by kernel_rfl) (by kernel_rfl) (fun _ _ _ h => h) (Or.inl ⟨by rfl, ?_⟩) (by assumption) ?_
                rotate_left
                · (intro W hSw; (try dsimp only at hSw); go_simp; try with_reducible rfl)
                try simp only [Act.put, List.getElem_toArray, List.getElem_cons_zero, List.getElem_cons_succ, List.setIfInBounds_toArray, List.set_cons_zero, List.set_cons_succ]
                refine wpAnyH_take (i := 2) (v := ?_) rfl (by kernel_rfl) (by kernel_rfl) (by kernel_rfl) (fun _ _ _ h => h) (Or.inl ⟨by rfl, ?_⟩) (by assumption) ?_
                rotate_left
                · (intro W hSw; (try dsimp only at hSw); go_simp; try with_reducible rfl)
                try simp only [Act.put, List.getElem_toArray, List.getElem_cons_zero, List.getElem_cons_succ, List.setIfInBounds_toArray, List.set_cons_zero, List.set_cons_succ]
                refine wpAnyH_take (i := 3) (v := ?_) rfl (by kernel_rfl) (by kernel_rfl) (by kernel_rfl) (fun _ _ _ h => h) (Or.inl ⟨by rfl, ?_⟩) (by assumption) ?_
                rotate_left
                · (intro W hSw; (try dsimp only at hSw); go_simp; try with_reducible rfl)
                try simp only [Act.put, List.getElem_toArray, List.getElem_cons_zero, List.getElem_cons_succ, List.setIfInBounds_toArray, List.set_cons_zero, List.set_cons_succ]
                refine wpAnyH_take (i := 4) (v := ?_) rfl (by kernel_rfl) (by kernel_rfl) (by kernel_rfl) (fun _ _ _ h => h) (Or.inl ⟨by rfl, ?_⟩) (by assumption) ?_
                rotate_left
                · (intro W hSw; (try dsimp only at hSw); go_simp; try with_reducible rfl)
                try simp only [Act.put, List.getElem_toArray, List.getElem_cons_zero, List.getElem_cons_succ, List.setIfInBounds_toArray, List.set_cons_zero, List.set_cons_succ]
                refine wpAnyH_take (i := 5) (v := ?_) rfl (by kernel_rfl) (by kernel_rfl) (by kernel_rfl) (fun _ _ _ h => h) (Or.inl ⟨by rfl, ?_⟩) (by assumption) ?_
                rotate_left
                · (intro W hSw; (try dsimp only at hSw); go_simp; try with_reducible rfl)
                try simp only [Act.put, List.getElem_toArray, List.getElem_cons_zero, List.getElem_cons_succ, List.setIfInBounds_toArray, List.set_cons_zero, List.set_cons_succ]
                refine wpAnyH_take (i := 6) (v := ?_) rfl (by kernel_rfl) (by kernel_rfl) (by kernel_rfl) (fun _ _ _ h => h) (Or.inl ⟨by rfl, ?_⟩) (by assumption) ?_
                rotate_left
                · (intro W hSw; (try dsimp only at hSw); go_simp; try with_reducible rfl)
                try simp only [Act.put, List.getElem_toArray, List.getElem_cons_zero, List.getElem_cons_succ, List.setIfInBounds_toArray, List.set_cons_zero, List.set_cons_succ]
                refine wpAnyH_take (i := 7) (v := ?_) rfl (by kernel_rfl) (by kernel_rfl) (by kernel_rfl) (fun _ _ _ h => h) (Or.inl ⟨by rfl, ?_⟩) (by assumption) ?_
                rotate_left
                · (intro W hSw; (try dsimp only at hSw); go_simp; try with_reducible rfl)
                try simp only [Act.put, List.getElem_toArray, List.getElem_cons_zero, List.getElem_cons_succ, List.setIfInBounds_toArray, List.set_cons_zero, List.set_cons_succ]
                refine wpAnyH_take (i := 8) (v := ?_) rfl (by kernel_rfl) (by kernel_rfl) (by kernel_rfl) (fun _ _ _ h => h) (Or.inl ⟨by rfl, ?_⟩) (by assumption) ?_
                rotate_left
                · (intro W hSw; (try dsimp only at hSw); go_simp; try with_reducible rfl)
                try simp only [Act.put, List.getElem_toArray, List.getElem_cons_zero, List.getElem_cons_succ, List.setIfInBounds_toArray, List.set_cons_zero, List.set_cons_succ]
                refine wpAnyH_take (i := 9) (v := ?_) rfl (by kernel_rfl) (by kernel_rfl) (by kernel_rfl) (fun _ _ _ h => h) (Or.inl ⟨by rfl, ?_⟩) (by assumption) ?_
                rotate_left
                · (intro W hSw; (try dsimp only at hSw); go_simp; try with_reducible rfl)
                try simp only [Act.put, List.getElem_toArray, List.getElem_cons_zero, List.getElem_cons_succ, List.setIfInBounds_toArray, List.set_cons_zero, List.set_cons_succ]
                refine wpAnyH_take (i := 10) (v := ?_) rfl (by kernel_rfl) (by kernel_rfl) (by kernel_rfl) (fun _ _ _ h => h) (Or.inl ⟨by rfl, ?_⟩) (by assumption) ?_
                rotate_left
                · (intro W hSw; (try dsimp only at hSw); go_simp; try with_reducible rfl)
                try simp only [Act.put, List.getElem_toArray, List.getElem_cons_zero, List.getElem_cons_succ, List.setIfInBounds_toArray, List.set_cons_zero, List.set_cons_succ]
                refine wpAnyH_ready (rs := [11]) (by kernel_rfl) (by simp) ?_
                refine AllReadyH.cons rfl (fun K hK => ?_) AllReadyH.nil
                clear hHeld
                go_simp
                refine (leads20 hbd.br.gr hku hku (by omega)).mono ?_
                rintro e whbe ⟨rfl, hbhbe⟩
                rw [HNu.out]
                have hbe := hbd.below hbhbe
                clear hbhbe hbd
                try go_wp2_with fail
                refine hK.out _ _ (HC.out _ hbe.br.low) (fun hHeld => ?_)
                clear hK K
                try simp only [Act.put, List.getElem_toArray, List.getElem_cons_zero, List.getElem_cons_succ, List.setIfInBounds_toArray, List.set_cons_zero, List.set_cons_succ]
                refine wpAnyH_take (i := 12) (v := ?_) rfl (by kernel_rfl) (by kernel_rfl) (by kernel_rfl) (fun _ _ _ h => h) (Or.inl ⟨by rfl, ?_⟩) (by assumption) ?_
                rotate_left
                · (intro W hSw; (try dsimp only at hSw); go_simp; try with_reducible rfl)
                try simp only [Act.put, List.getElem_toArray, List.getElem_cons_zero, List.getElem_cons_succ, List.setIfInBounds_toArray, List.set_cons_zero, List.set_cons_succ]
                refine wpAnyH_take (i := 13) (v := ?_) rfl (by kernel_rfl) (by kernel_rfl) (by kernel_rfl) (fun _ _ _ h => h) (Or.inl ⟨by rfl, ?_⟩) (by assumption) ?_
                rotate_left
                · (intro W hSw; (try dsimp only at hSw); go_simp; try with_reducible rfl)
                try simp only [Act.put, List.getElem_toArray, List.getElem_cons_zero, List.getElem_cons_succ, List.setIfInBounds_toArray, List.set_cons_zero, List.set_cons_succ]
                refine wpAnyH_take (i := 14) (v := ?_) rfl (by kernel_rfl) (by kernel_rfl) (by kernel_rfl) (fun _ _ _ h => h) (Or.inl ⟨by rfl, ?_⟩) (by assumption) ?_
                rotate_left
                · (intro W hSw; (try dsimp only at hSw); go_simp; try with_reducible rfl)
                try simp only [Act.put, List.getElem_toArray, List.getElem_cons_zero, List.getElem_cons_succ, List.setIfInBounds_toArray, List.set_cons_zero, List.set_cons_succ]
                refine wpAnyH_take (i := 15) (v := ?_) rfl (by kernel_rfl) (by kernel_rfl) (by kernel_rfl) (fun _ _ _ h => h) (Or.inl ⟨by rfl, ?_⟩) (by assumption) ?_
                rotate_left
                · (intro W hSw; (try dsimp only at hSw); go_simp; try with_reducible rfl)
                try simp only [Act.put, List.getElem_toArray, List.getElem_cons_zero, List.getElem_cons_succ, List.setIfInBounds_toArray, List.set_cons_zero, List.set_cons_succ]
                refine wpAnyH_take (i := 16) (v := ?_) rfl (by kernel_rfl) (by kernel_rfl) (by kernel_rfl) (fun _ _ _ h => h) (Or.inl ⟨by rfl, ?_⟩) (by assumption) ?_
                rotate_left
                · (intro W hSw; (try dsimp only at hSw); go_simp; try with_reducible rfl)
                try simp only [Act.put, List.getElem_toArray, List.getElem_cons_zero, List.getElem_cons_succ, List.setIfInBounds_toArray, List.set_cons_zero, List.set_cons_succ]
                refine wpAnyH_take (i := 17) (v := ?_) rfl (by kernel_rfl) (by kernel_rfl) (by kernel_rfl) (fun _ _ _ h => h) (Or.inl ⟨by rfl, ?_⟩) (by assumption) ?_
                rotate_left
                · (intro W hSw; (try dsimp only at hSw); go_simp; try with_reducible rfl)
                try simp only [Act.put, List.getElem_toArray, List.getElem_cons_zero, List.getElem_cons_succ, List.setIfInBounds_toArray, List.set_cons_zero, List.set_cons_succ]
                refine wpAnyH_take (i := 18) (v := ?_) rfl (by kernel_rfl) (by kernel_rfl) (by kernel_rfl) (fun _ _ _ h => h) (Or.inl ⟨by rfl, ?_⟩) (by assumption) ?_
                rotate_left
                · (intro W hSw; (try dsimp only at hSw); go_simp; try with_reducible rfl)
                try simp only [Act.put, List.getElem_toArray, List.getElem_cons_zero, List.getElem_cons_succ, List.setIfInBounds_toArray, List.set_cons_zero, List.set_cons_succ]
                refine wpAnyH_take (i := 19) (v := ?_) rfl (by kernel_rfl) (by kernel_rfl) (by kernel_rfl) (fun _ _ _ h => h) (Or.inl ⟨by rfl, ?_⟩) (by assumption) ?_
                rotate_left
                · (intro W hSw; (try dsimp only at hSw); go_simp; try with_reducible rfl)
                try simp only [Act.put, List.getElem_toArray, List.getElem_cons_zero, List.getElem_cons_succ, List.setIfInBounds_toArray, List.set_cons_zero, List.set_cons_succ]
                refine wpAnyH_take (i := 20) (v := ?_) rfl (by kernel_rfl) (by kernel_rfl) (by kernel_rfl) (fun _ _ _ h => h) (Or.inl ⟨by rfl, ?_⟩) (by assumption) ?_
                rotate_left
                · (intro W hSw; (try dsimp only at hSw); go_simp; try with_reducible rfl)
                try simp only [Act.put, List.getElem_toArray, List.getElem_cons_zero, List.getElem_cons_succ, List.setIfInBounds_toArray, List.set_cons_zero, List.set_cons_succ]
                refine wpAnyH_take (i := 21) (v := ?_) rfl (by kernel_rfl) (by kernel_rfl) (by kernel_rfl) (fun _ _ _ h => h) (Or.inl ⟨by rfl, ?_⟩) (by assumption) ?_
                rotate_left
                · (intro W hSw; (try dsimp only at hSw); go_simp; try with_reducible rfl)
                try simp only [Act.put, List.getElem_toArray, List.getElem_cons_zero, List.getElem_cons_succ, List.setIfInBounds_toArray, List.set_cons_zero, List.set_cons_succ]
                refine wpAnyH_take (i := 22) (v := ?_) rfl (by kernel_rfl) (by kernel_rfl) (by kernel_rfl) (fun _ _ _ h => h) (Or.inl ⟨by rfl, ?_⟩) (by assumption) ?_
                rotate_left
                · (intro W hSw; (try dsimp only at hSw); go_simp; try with_reducible rfl)
                try simp only [Act.put, List.getElem_toArray, List.getElem_cons_zero, List.getElem_cons_succ, List.setIfInBounds_toArray, List.set_cons_zero, List.set_cons_succ]
                refine wpAnyH_take (i := 23) (v := ?_) rfl (by kernel_rfl) (by kernel_rfl) (by kernel_rfl) (fun _ _ _ h => h) (Or.inl ⟨by rfl, ?_⟩) (by assumption) ?_
                rotate_left
                · (intro W hSw; (try dsimp only at hSw); go_simp; try with_reducible rfl)
                try simp only [Act.put, List.getElem_toArray, List.getElem_cons_zero, List.getElem_cons_succ, List.setIfInBounds_toArray, List.set_cons_zero, List.set_cons_succ]
                refine wpAnyH_ready (rs := [24]) (by kernel_rfl) (by simp) ?_
                refine AllReadyH.cons rfl (fun K hK => ?_) AllReadyH.nil
                clear hHeld
                go_simp
                refine (leads20 hbe.br.gr hkv hkv (by omega)).mono ?_
                rintro e whbf ⟨rfl, hbhbf⟩
                rw [HNv.out]
                have hbf := hbe.below hbhbf
                clear hbhbf hbe
                try go_wp2_with fail
                refine hK.out _ _ (HC.out _ hbf.br.low) (fun hHeld => ?_)
                clear hK K
                try simp only [Act.put, List.getElem_toArray, List.getElem_cons_zero, List.getElem_cons_succ, List.setIfInBounds_toArray, List.set_cons_zero, List.set_cons_succ]
                refine wpAnyH_take (i := 25) (v := ?_) rfl (by kernel_rfl) (by kernel_rfl) (by kernel_rfl) (fun _ _ _ h => h) (Or.inl ⟨by rfl, ?_⟩) (by assumption) ?_
                rotate_left
                · (intro W hSw; (try dsimp only at hSw); go_simp; try with_reducible rfl)
                try simp only [Act.put, List.getElem_toArray, List.getElem_cons_zero, List.getElem_cons_succ, List.setIfInBounds_toArray, List.set_cons_zero, List.set_cons_succ]
                refine wpAnyH_done (by kernel_rfl) ?_ _
                clear hHeld
                try simp only [Exit.then]
                have HB7 := toHid hbf
                clear hbf
                obtain ⟨d0, d1⟩ := HC.out _ HB7.out.br.low
                have tokU : True := trivial
                by_cases hseen : (u, v) ∈ m
                · go_wp2_with (first
                    | (go_at_call 25; refine (at25 (sle_row HB7.out.seen HWm.out) (by omega) u v).mono ?_; rintro e w8 ⟨kk, rfl, hk1, hk2, hb8⟩; have hkk := hk1 hseen; have HB8 := toHid (HB7.out.below hb8); have HRG := toHid (RowI.of HB8.out.br.row); have HBa := toHid (HB8.out.below ((Below.refl _ _).alloc (Nat.le_refl _) (.cells #[.int .i64 u, .int .i64 v] 27))); obtain ⟨f0, f1⟩ := HC.out _ HB8.out.br.low; clear hk1 hk2 hb8)
                    | (at_builtin; refine wpList_append_own _ rfl _ _ 25 rfl w.heap.size 27 j0 _ 2 16 Try.underlying25 hj0 hy0 hy1 hy2 rfl (by decide) _ m.length _ rfl HBa.out.seen ⟨w8.heap.size, 0, none⟩ 1 1 [.int .i64 u, .int .i64 v] rfl rfl (cell_two w8 _ _ _) (by intro q hq; simp at hq; rcases hq with rfl | rfl <;> rfl) (by unfold maxLen; omega) (by omega) HBa.out.br.low.size ?_; intro v9 w9 hown9 hgrow9 _)
                    | fail)
                  clear d0 d1
                  have HB9 := toHid (HBa.out.push (e := (u, v)) hgrow9 hown9)
                  obtain ⟨va9, vc9, hv9⟩ : ∃ a c, v9 = .slice a (m.length + 1) c := by
                    rcases hown9.2 with ⟨_, h0⟩ | ⟨g, cap, cur, rfl, _⟩
                    · cases h0
                    · exact ⟨_, _, rfl⟩
                  subst hv9
                  go_roundw
                  case rel => exact ⟨k3 + 1, n3, m ++ [(u, v)], va9, vc9, by omega, by omega, by simp, by simp, by simp, HMT, toHid (by rw [HST.out]; rw [if_neg (fun h => h.1 hseen)]; exact HNT.out), HB9⟩
                  case measure => first | omega | (simp only [intOf]; omega)
                · by_cases hug : u ∈ G
                  · go_wp2_with (first
                      | (go_at_call 25; refine (at25 (sle_row HB7.out.seen HWm.out) (by omega) u v).mono ?_; rintro e w8 ⟨kk, rfl, hk1, hk2, hb8⟩; obtain rfl := hk2 hseen; have HB8 := toHid (HB7.out.below hb8); have HRG := toHid (RowI.of HB8.out.br.row); have HBa := toHid (HB8.out.below ((Below.refl _ _).alloc (Nat.le_refl _) (.cells #[.int .i64 u, .int .i64 v] 27))); obtain ⟨f0, f1⟩ := HC.out _ HB8.out.br.low; clear hk1 hk2 hb8)
                      | (go_at_call 22; have _t := tokU; refine (has22 HRG.out (by omega) u).mono ?_; rintro e w8' ⟨rfl, hw⟩; subst w8'; rw [decide_eq_true hug]; clear tokU)
                      | (at_builtin; refine wpList_append_own _ rfl _ _ 25 rfl w.heap.size 27 j0 _ 2 16 Try.underlying25 hj0 hy0 hy1 hy2 rfl (by decide) _ m.length _ rfl HBa.out.seen ⟨w8.heap.size, 0, none⟩ 1 1 [.int .i64 u, .int .i64 v] rfl rfl (cell_two w8 _ _ _) (by intro q hq; simp at hq; rcases hq with rfl | rfl <;> rfl) (by unfold maxLen; omega) (by omega) HBa.out.br.low.size ?_; intro v9 w9 hown9 hgrow9 _)
                      | fail)
                    clear d0 d1
                    have HB9 := toHid (HBa.out.push (e := (u, v)) hgrow9 hown9)
                    obtain ⟨va9, vc9, hv9⟩ : ∃ a c, v9 = .slice a (m.length + 1) c := by
                      rcases hown9.2 with ⟨_, h0⟩ | ⟨g, cap, cur, rfl, _⟩
                      · cases h0
                      · exact ⟨_, _, rfl⟩
                    subst hv9
                    go_roundw
                    case rel => exact ⟨k3 + 1, n3, m ++ [(u, v)], va9, vc9, by omega, by omega, by simp, by simp, by simp, HMT, toHid (by rw [HST.out]; rw [if_neg (fun h => h.2.1 hug)]; exact HNT.out), HB9⟩
                    case measure => first | omega | (simp only [intOf]; omega)
                  · by_cases hvg : v ∈ G
                    · go_wp2_with (first
                        | (go_at_call 25; refine (at25 (sle_row HB7.out.seen HWm.out) (by omega) u v).mono ?_; rintro e w8 ⟨kk, rfl, hk1, hk2, hb8⟩; obtain rfl := hk2 hseen; have HB8 := toHid (HB7.out.below hb8); have HRG := toHid (RowI.of HB8.out.br.row); have HBa := toHid (HB8.out.below ((Below.refl _ _).alloc (Nat.le_refl _) (.cells #[.int .i64 u, .int .i64 v] 27))); obtain ⟨f0, f1⟩ := HC.out _ HB8.out.br.low; clear hk1 hk2 hb8)
                        | (go_at_call 22; have _t := tokU; refine (has22 HRG.out (by omega) u).mono ?_; rintro e w8' ⟨rfl, hw⟩; subst w8'; rw [decide_eq_false hug]; clear tokU)
                        | (go_at_call 22; refine (has22 HRG.out (by omega) v).mono ?_; rintro e w8' ⟨rfl, hw⟩; subst w8'; rw [decide_eq_true hvg])
                        | (at_builtin; refine wpList_append_own _ rfl _ _ 25 rfl w.heap.size 27 j0 _ 2 16 Try.underlying25 hj0 hy0 hy1 hy2 rfl (by decide) _ m.length _ rfl HBa.out.seen ⟨w8.heap.size, 0, none⟩ 1 1 [.int .i64 u, .int .i64 v] rfl rfl (cell_two w8 _ _ _) (by intro q hq; simp at hq; rcases hq with rfl | rfl <;> rfl) (by unfold maxLen; omega) (by omega) HBa.out.br.low.size ?_; intro v9 w9 hown9 hgrow9 _)
                        | fail)
                      clear d0 d1
                      have HB9 := toHid (HBa.out.push (e := (u, v)) hgrow9 hown9)
                      obtain ⟨va9, vc9, hv9⟩ : ∃ a c, v9 = .slice a (m.length + 1) c := by
                        rcases hown9.2 with ⟨_, h0⟩ | ⟨g, cap, cur, rfl, _⟩
                        · cases h0
                        · exact ⟨_, _, rfl⟩
                      subst hv9
                      go_roundw
                      case rel => exact ⟨k3 + 1, n3, m ++ [(u, v)], va9, vc9, by omega, by omega, by simp, by simp, by simp, HMT, toHid (by rw [HST.out]; rw [if_neg (fun h => h.2.2 hvg)]; exact HNT.out), HB9⟩
                      case measure => first | omega | (simp only [intOf]; omega)
                    · have HEU := toHid (HEU0.out hug hvg)
                      go_wp2_with (first
                        | (go_at_call 25; refine (at25 (sle_row HB7.out.seen HWm.out) (by omega) u v).mono ?_; rintro e w8 ⟨kk, rfl, hk1, hk2, hb8⟩; obtain rfl := hk2 hseen; have HB8 := toHid (HB7.out.below hb8); have HRG := toHid (RowI.of HB8.out.br.row); have HBa := toHid (HB8.out.below ((Below.refl _ _).alloc (Nat.le_refl _) (.cells #[.int .i64 u, .int .i64 v] 27))); obtain ⟨f0, f1⟩ := HC.out _ HB8.out.br.low; clear hk1 hk2 hb8)
                        | (go_at_call 22; have _t := tokU; refine (has22 HRG.out (by omega) u).mono ?_; rintro e w8' ⟨rfl, hw⟩; subst w8'; rw [decide_eq_false hug]; clear tokU)
                        | (go_at_call 22; refine (has22 HRG.out (by omega) v).mono ?_; rintro e w8' ⟨rfl, hw⟩; subst w8'; rw [decide_eq_false hvg])
                        | fail)
                      clear d0 d1 f0 f1 HBa
                      have hbd := (HB8.out.below (Below.refl _ _).drew)
                      clear HB8
                      refine wp_region_held_drew (S := fun W => W.cell? ⟨b, o + k3 * 2, none⟩ = some (.int .i64 u) ∧ W.cell? ⟨b, o + k3 * 2 + 1, none⟩ = some (.int .i64 v)) (by kernel_rfl) (HC.out _ hbd.br.low) (fun hHeld => ?_)
                      refine wpAnyH_take (i := 0) (v := ?_) rfl (by kernel_rfl) (by kernel_rfl) (by kernel_rfl) (fun _ _ _ h => h) (Or.inl ⟨by rfl, ?_⟩) (by assumption) ?_
                      rotate_left
                      · (intro W hSw; (try dsimp only at hSw); go_simp; try with_reducible rfl)
                      try simp only [Act.put, List.getElem_toArray, List.getElem_cons_zero, List.setIfInBounds_toArray, List.set_cons_zero, List.set_cons_succ]
                      refine wpAnyH_take (i := 1) (v := ?_) rfl (by kernel_rfl) (by kernel_rfl) (by kernel_rfl) (fun _ _ _ h => h) (Or.inl ⟨by rfl, ?_⟩) (by assumption) ?_
                      rotate_left
                      · (intro W hSw; (try dsimp only at hSw); go_simp; try with_reducible rfl)
                      try simp only [Act.put, List.getElem_toArray, List.getElem_cons_zero, List.getElem_cons_succ, List.setIfInBounds_toArray, List.set_cons_zero, List.set_cons_succ]
                      refine wpAnyH_take (i := 2) (v := ?_) rfl (by kernel_rfl) (by kernel_rfl) (by kernel_rfl) (fun _ _ _ h => h) (Or.inl ⟨by rfl, ?_⟩) (by assumption) ?_
                      rotate_left
                      · (intro W hSw; (try dsimp only at hSw); go_simp; try with_reducible rfl)
                      try simp only [Act.put, List.getElem_toArray, List.getElem_cons_zero, List.getElem_cons_succ, List.setIfInBounds_toArray, List.set_cons_zero, List.set_cons_succ]
                      refine wpAnyH_take (i := 3) (v := ?_) rfl (by kernel_rfl) (by kernel_rfl) (by kernel_rfl) (fun _ _ _ h => h) (Or.inl ⟨by rfl, ?_⟩) (by assumption) ?_
                      rotate_left
                      · (intro W hSw; (try dsimp only at hSw); go_simp; try with_reducible rfl)
                      try simp only [Act.put, List.getElem_toArray, List.getElem_cons_zero, List.getElem_cons_succ, List.setIfInBounds_toArray, List.set_cons_zero, List.set_cons_succ]
                      refine wpAnyH_take (i := 4) (v := ?_) rfl (by kernel_rfl) (by kernel_rfl) (by kernel_rfl) (fun _ _ _ h => h) (Or.inl ⟨by rfl, ?_⟩) (by assumption) ?_
                      rotate_left
                      · (intro W hSw; (try dsimp only at hSw); go_simp; try with_reducible rfl)
                      try simp only [Act.put, List.getElem_toArray, List.getElem_cons_zero, List.getElem_cons_succ, List.setIfInBounds_toArray, List.set_cons_zero, List.set_cons_succ]
                      refine wpAnyH_take (i := 5) (v := ?_) rfl (by kernel_rfl) (by kernel_rfl) (by kernel_rfl) (fun _ _ _ h => h) (Or.inl ⟨by rfl, ?_⟩) (by assumption) ?_
                      rotate_left
                      · (intro W hSw; (try dsimp only at hSw); go_simp; try with_reducible rfl)
                      try simp only [Act.put, List.getElem_toArray, List.getElem_cons_zero, List.getElem_cons_succ, List.setIfInBounds_toArray, List.set_cons_zero, List.set_cons_succ]
                      refine wpAnyH_take (i := 6) (v := ?_) rfl (by kernel_rfl) (by kernel_rfl) (by kernel_rfl) (fun _ _ _ h => h) (Or.inl ⟨by rfl, ?_⟩) (by assumption) ?_
                      rotate_left
                      · (intro W hSw; (try dsimp only at hSw); go_simp; try with_reducible rfl)
                      try simp only [Act.put, List.getElem_toArray, List.getElem_cons_zero, List.getElem_cons_succ, List.setIfInBounds_toArray, List.set_cons_zero, List.set_cons_succ]
                      refine wpAnyH_take (i := 7) (v := ?_) rfl (by kernel_rfl) (by kernel_rfl) (by kernel_rfl) (fun _ _ _ h => h) (Or.inl ⟨by rfl, ?_⟩) (by assumption) ?_
                      rotate_left
                      · (intro W hSw; (try dsimp only at hSw); go_simp; try with_reducible rfl)
                      try simp only [Act.put, List.getElem_toArray, List.getElem_cons_zero, List.getElem_cons_succ, List.setIfInBounds_toArray, List.set_cons_zero, List.set_cons_succ]
                      refine wpAnyH_take (i := 8) (v := ?_) rfl (by kernel_rfl) (by kernel_rfl) (by kernel_rfl) (fun _ _ _ h => h) (Or.inl ⟨by rfl, ?_⟩) (by assumption) ?_
                      rotate_left
                      · (intro W hSw; (try dsimp only at hSw); go_simp; try with_reducible rfl)
                      try simp only [Act.put, List.getElem_toArray, List.getElem_cons_zero, List.getElem_cons_succ, List.setIfInBounds_toArray, List.set_cons_zero, List.set_cons_succ]
                      refine wpAnyH_take (i := 9) (v := ?_) rfl (by kernel_rfl) (by kernel_rfl) (by kernel_rfl) (fun _ _ _ h => h) (Or.inl ⟨by rfl, ?_⟩) (by assumption) ?_
                      rotate_left
                      · (intro W hSw; (try dsimp only at hSw); go_simp; try with_reducible rfl)
                      try simp only [Act.put, List.getElem_toArray, List.getElem_cons_zero, List.getElem_cons_succ, List.setIfInBounds_toArray, List.set_cons_zero, List.set_cons_succ]
                      refine wpAnyH_take (i := 10) (v := ?_) rfl (by kernel_rfl) (by kernel_rfl) (by kernel_rfl) (fun _ _ _ h => h) (Or.inl ⟨by rfl, ?_⟩) (by assumption) ?_
                      rotate_left
                      · (intro W hSw; (try dsimp only at hSw); go_simp; try with_reducible rfl)
                      try simp only [Act.put, List.getElem_toArray, List.getElem_cons_zero, List.getElem_cons_succ, List.setIfInBounds_toArray, List.set_cons_zero, List.set_cons_succ]
                      refine wpAnyH_ready (rs := [11]) (by kernel_rfl) (by simp) ?_
                      refine AllReadyH.cons rfl (fun K hK => ?_) AllReadyH.nil
                      clear hHeld
                      go_simp
                      refine (leads20 hbd.br.gr hku hkv (by omega)).mono ?_
                      rintro e whg ⟨rfl, hbg⟩
                      rw [HEU.out]
                      have hbh := hbd.below hbg
                      clear hbg hbd
                      try go_wp2_with fail
                      refine hK.out _ _ (HC.out _ hbh.br.low) (fun hHeld => ?_)
                      clear hK K
                      try simp only [Act.put, List.getElem_toArray, List.getElem_cons_zero, List.getElem_cons_succ, List.setIfInBounds_toArray, List.set_cons_zero, List.set_cons_succ]
                      refine wpAnyH_take (i := 12) (v := ?_) rfl (by kernel_rfl) (by kernel_rfl) (by kernel_rfl) (fun _ _ _ h => h) (Or.inl ⟨by rfl, ?_⟩) (by assumption) ?_
                      rotate_left
                      · (intro W hSw; (try dsimp only at hSw); go_simp; try with_reducible rfl)
                      try simp only [Act.put, List.getElem_toArray, List.getElem_cons_zero, List.getElem_cons_succ, List.setIfInBounds_toArray, List.set_cons_zero, List.set_cons_succ]
                      refine wpAnyH_done (by kernel_rfl) ?_ _
                      clear hHeld
                      try simp only [Exit.then]
                      have HB8 := toHid hbh
                      clear hbh
                      have HBa := toHid (HB8.out.below ((Below.refl _ _).alloc (Nat.le_refl _) (.cells #[.int .i64 u, .int .i64 v] 27)))
                      obtain ⟨d0, d1⟩ := HC.out _ HB8.out.br.low
                      go_wp2_with (first
                        | (at_builtin; refine wpList_append_own _ rfl _ _ 25 rfl w.heap.size 27 j0 _ 2 16 Try.underlying25 hj0 hy0 hy1 hy2 rfl (by decide) _ m.length _ rfl HBa.out.seen ⟨whg.heap.size, 0, none⟩ 1 1 [.int .i64 u, .int .i64 v] rfl rfl (cell_two whg _ _ _) (by intro q hq; simp at hq; rcases hq with rfl | rfl <;> rfl) (by unfold maxLen; omega) (by omega) HBa.out.br.low.size ?_; intro v9 w9 hown9 hgrow9 _)
                        | fail)
                      have HB9 := toHid (HBa.out.push (e := (u, v)) hgrow9 hown9)
                      obtain ⟨va9, vc9, hv9⟩ : ∃ a c, v9 = .slice a (m.length + 1) c := by
                        rcases hown9.2 with ⟨_, h0⟩ | ⟨g, cap, cur, rfl, _⟩
                        · cases h0
                        · exact ⟨_, _, rfl⟩
                      subst hv9
                      go_roundw
                      case rel => exact ⟨k3 + 1, n3 + 1, m ++ [(u, v)], va9, vc9, by omega, by omega, by simp, by simp, by simp, HMT, toHid (by rw [HST.out]; rw [if_pos ⟨hseen, hug, hvg⟩, ← HNT.out]), HB9⟩
                      case measure => first | omega | (simp only [intOf]; omega)
              · by_cases hlt : k3 < l.length
                · omega
                · obtain rfl : k3 = l.length := by omega
                  have HE6 : Hid (madeE l l.length = madeE l 60) := by show _ = _; unfold madeE; rw [List.take_length, List.take_of_length_le hk6]
                  rw [HE6.out] at HNT
                  clear hend3 hlt
                  go_wp2_with (first
                    | (go_at_call 16; refine (lenI HBw.out.br.gr).mono ?_; rintro e w9 ⟨rfl, hw9⟩; subst w9; rw [← HNT.out])
                    | (go_at_call 18; refine (lives18 _).mono ?_; rintro e w10 ⟨rfl, hb10⟩; have HB10 := toHid (below_next HBw.out.br.low HBw.out.br.low.size hb10); clear hb10)
                    | fail)
                  go_ret
                  exact ⟨rfl, HB10.out⟩
      · have hq2 : 0 ≤ (i : Int) := by omega
        have hcase : ((i : Int) < (l.length : Int) ∧ (i : Int) < 60) ∨ ((i : Int) < (l.length : Int) ∧ ¬ (i : Int) < 60) ∨ ¬ (i : Int) < (l.length : Int) := by omega
        rcases hcase with ⟨h1, h2⟩ | ⟨h1, h2⟩ | h1
        all_goals
          go_wp2_with fail
          go_roundw
          case rel => exact ⟨G ++ [x], va', vc', S', by simp, by simp, HG', HB⟩
          case measure => have := HG'.out.few; simp at this; first | omega | (simp only [intOf]; omega)

end Go.Proofs.Ytoihjkpjijncdaa
