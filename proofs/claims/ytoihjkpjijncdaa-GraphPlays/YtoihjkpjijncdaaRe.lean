/-
  The document's Reached.
-/
import Derived.Test.YtoihjkpjijncdaaAt
namespace Go.Proofs.Ytoihjkpjijncdaa
open Go.RowKit Go.Maps

def boolOf : Value → Nat
  | .bool true => 1
  | _ => 0

/-- What has been come to. -/
structure Rc (l : List (Int × Int)) (z : Int) (C : List Int) : Prop where
  nd : C.Nodup
  sound : ∀ y, y ∈ C → Lds (outE (l.map leE)) (.int .i64 z) (liI y)
theorem edge_out {l : List (Int × Int)} {e : Int × Int} (h : e ∈ l) : outE (l.map leE) (liI e.1) (liI e.2) = true := by
  simp only [outE, decide_eq_true_iff]
  exact List.mem_map.2 ⟨e, h, rfl⟩
theorem out_edge {l : List (Int × Int)} {x y : Lit} (h : outE (l.map leE) x y = true) : ∃ e, e ∈ l ∧ x = liI e.1 ∧ y = liI e.2 := by
  simp only [outE, decide_eq_true_iff] at h
  obtain ⟨e, he, h1⟩ := List.mem_map.1 h
  exact ⟨e, he, (congrArg Prod.fst h1).symm, (congrArg Prod.snd h1).symm⟩
theorem Rc.few {l : List (Int × Int)} {z : Int} {C : List Int} (h : Rc l z C) : C.length ≤ l.length := by
  have := int_nodup_le (T := l.map Prod.snd) h.nd fun y hy => by
    obtain ⟨c, e⟩ : ∃ c, outE (l.map leE) c (liI y) = true := by
      cases h.sound y hy with
      | one e => exact ⟨_, e⟩
      | more _ e => exact ⟨_, e⟩
    obtain ⟨e, he, _, h1⟩ := out_edge e
    exact List.mem_map.2 ⟨e, he, (liI_inj h1).symm⟩
  simpa using this
theorem Rc.add {l : List (Int × Int)} {z : Int} {C : List Int} (h : Rc l z C) {e : Int × Int} (he : e ∈ l) (h1 : e.1 = z ∨ e.1 ∈ C) (h2 : e.2 ∉ C) : Rc l z (C ++ [e.2]) :=
  ⟨List.nodup_append.2 ⟨h.nd, by simp, fun u hu w hw e1 => by simp at hw; rw [e1, hw] at hu; exact h2 hu⟩, fun y hy => by
    rcases List.mem_append.1 hy with h3 | h3
    · exact h.sound y h3
    · obtain rfl : y = e.2 := by simpa using h3
      rcases h1 with h1 | h1
      · rw [← h1]; exact .one (edge_out he)
      · exact .more (h.sound _ h1) (edge_out he)⟩
theorem Rc.done {l : List (Int × Int)} {z : Int} {C : List Int} (h : Rc l z C) (hc : ∀ e, e ∈ l → e.1 = z ∨ e.1 ∈ C → e.2 ∈ C) (y : Int) : y ∈ C ↔ Lds (outE (l.map leE)) (.int .i64 z) (liI y) := by
  refine ⟨h.sound y, fun k => ?_⟩
  have : ∀ x, Lds (outE (l.map leE)) (.int .i64 z) x → ∃ y, x = liI y ∧ y ∈ C := fun x k => by
    induction k with
    | one e =>
      obtain ⟨e, he, h1, h2⟩ := out_edge e
      exact ⟨e.2, h2, hc e he (.inl (liI_inj h1).symm)⟩
    | more _ e ih =>
      obtain ⟨y, rfl, hy⟩ := ih
      obtain ⟨e, he, h1, h2⟩ := out_edge e
      exact ⟨e.2, h2, hc e he (.inr (by rw [← liI_inj h1]; exact hy))⟩
  obtain ⟨y', h1, h2⟩ := this _ k
  rw [liI_inj h1]
  exact h2

structure Rx (w : World) (C : List Int) (v : Value) (W : World) : Prop where
  low : Below w.heap.size w W
  row : W.ownsRow w.heap.size 3 1 v C.length (C.map enI)
theorem Rx.below {w : World} {C : List Int} {v : Value} {W W' : World} (h : Rx w C v W) (hb : Below W.heap.size W W') : Rx w C v W' := ⟨below_next h.low h.low.size hb, row_below h.row hb⟩
theorem Rx.push {w : World} {C : List Int} {v v' : Value} {W W' : World} (h : Rx w C v W) {x : Int} (hg : W.grownBy W' v.ownBlock) (hr : W'.ownsRow w.heap.size 3 1 v' (C.length + 1) (C.map enI ++ [enI x])) : Rx w (C ++ [x]) v' W' :=
  ⟨h.low.grown hg h.low.size fun j hj => (h.row.lt j hj).1, by simpa using hr⟩

set_option maxRecDepth 100000 in
set_option maxHeartbeats 1000000 in
theorem reached36 {w : World} {a : Option Addr} {c : Nat} {l : List (Int × Int)} (hL : SlE w a l) (hl : l.length ≤ 1000) (z : Int) :
    Calls Try.prog 36 #[.slice a l.length c, .int .i64 z] w fun e w' => ∃ (va : Option Addr) (vc : Nat) (C : List Int), e = .returned (.slice va C.length vc) ∧ Rx w C (.slice va C.length vc) w' ∧ C.Nodup ∧ C.length ≤ l.length ∧ ∀ y, y ∈ C ↔ Lds (outE (l.map leE)) (.int .i64 z) (liI y) := by
  obtain ⟨i0, hi0, hz0, hz1, hz2⟩ := info_parts infI
  have HL := toHid hL
  clear hL
  go_enter Try.func36, Try.ntmps36
  go_wp2_with fail
  go_loopw [5, 6] (fun s f W => ∃ (C : List Int) (va : Option Addr) (vc : Nat), s = .slice va C.length vc ∧ (f = .bool true ∨ (f = .bool false ∧ Hid (∀ e, e ∈ l → e.1 = z ∨ e.1 ∈ C → e.2 ∈ C))) ∧ Hid (Rc l z C) ∧ Hid (Rx w C s W)) (fun s f _ => 2 * (l.length + 1 - lenOf s) + boolOf f)
  case atStart => exact ⟨[], none, 0, rfl, .inl rfl, toHid ⟨List.nodup_nil, fun y hy => by simp at hy⟩, toHid ⟨Below.refl _ _, World.ownsRow_nil _ _ _ _⟩⟩
  case round =>
    obtain ⟨C, va, vc, rfl, hf, HC, HX⟩ := hrel
    have hfew := HC.out.few
    rcases hf with rfl | ⟨rfl, HD⟩
    · go_wp2_with fail
      go_loopw [5, 6, 7] (fun s f k W => ∃ (i : Nat) (D : List Int) (va' : Option Addr) (vc' : Nat), i ≤ l.length ∧ k = .int .i64 i ∧ s = .slice va' D.length vc' ∧ ((f = .bool true ∧ C.length < D.length) ∨ (f = .bool false ∧ D = C ∧ Hid (∀ j, (hj : j < l.length) → j < i → l[j].1 = z ∨ l[j].1 ∈ C → l[j].2 ∈ C))) ∧ Hid (Rc l z D) ∧ Hid (Rx w D s W)) (fun _ _ k _ => l.length - (intOf k).toNat)
      case atStart => exact ⟨0, C, va, vc, Nat.zero_le _, rfl, rfl, .inr ⟨rfl, rfl, toHid fun j _ hj => by omega⟩, HC, HX⟩
      case round =>
        obtain ⟨i, D, va', vc', hi, rfl, rfl, hf, HD, HY⟩ := hrel
        have hDf := HD.out.few
        by_cases hlt : i < l.length
        · have hq1 : (i : Int) < (l.length : Int) := by omega
          have hq2 : 0 ≤ (i : Int) := by omega
          obtain ⟨b, o, rfl, c0, c1⟩ := HL.out.at_ i hlt
          have d0 := cell_low c0 (cell_lt c0) HY.out.low
          have d1 := cell_low c1 (cell_lt c1) HY.out.low
          have HMm : Hid (l[i] ∈ l) := List.getElem_mem hlt
          obtain ⟨e, he⟩ : ∃ e, l[i] = e := ⟨_, rfl⟩
          have HE := toHid he
          rw [he] at d0 d1 HMm
          obtain ⟨u, v⟩ := e
          have HBw : Hid (Below wr.heap.size wr (wr.alloc (.cells #[.int .i64 u, .int .i64 v] 27))) := (Below.refl _ _).alloc (Nat.le_refl _) _
          have HRG := toHid (RowI.of (HY.out.below HBw.out).row)
          clear c0 c1 he
          have tokU : True := trivial
          by_cases huz : u = z
          · subst huz
            by_cases hvD : v ∈ D
            · go_wp2_with (first
                | (go_at_call 22; refine (has22 HRG.out (by omega) v).mono ?_; rintro e w8' ⟨rfl, hw⟩; subst w8'; rw [decide_eq_true hvD])
                | fail)
              go_roundw
              case rel => exact ⟨i + 1, D, va', vc', by omega, by simp, rfl, hf.imp id (fun ⟨h1, h2, h3⟩ => ⟨h1, h2, toHid (fun j hj hji hh => by
                  by_cases e : j = i
                  · subst e
                    rw [HE.out] at hh ⊢
                    exact h2 ▸ hvD
                  · exact h3.out j hj (by omega) hh)⟩), HD, toHid (HY.out.below HBw.out)⟩
              case measure => first | omega | (simp only [intOf]; omega)
            · have HYa := toHid ((HY.out.below HBw.out).below ((Below.refl _ _).alloc (Nat.le_refl _) (.cells #[.int .i64 v] 3)))
              go_wp2_with (first
                | (go_at_call 22; refine (has22 HRG.out (by omega) v).mono ?_; rintro e w8' ⟨rfl, hw⟩; subst w8'; rw [decide_eq_false hvD])
                | (at_builtin; refine wpList_append_own _ rfl _ _ 42 rfl w.heap.size 3 i0 _ 1 8 Try.underlying42 hi0 hz0 hz1 hz2 rfl (by decide) _ D.length _ rfl HYa.out.row ⟨(wr.alloc (.cells #[.int .i64 u, .int .i64 v] 27)).heap.size, 0, none⟩ 1 1 [.int .i64 v] (by simp; rfl) rfl (cell_one (wr.alloc (.cells #[.int .i64 u, .int .i64 v] 27)) _ _) (by intro q hq; simp at hq; subst hq; rfl) (by unfold maxLen; omega) (by omega) HYa.out.low.size ?_; intro v7 w7 hown7 hgrow7 _)
                | fail)
              have HY7 := toHid (HYa.out.push (x := v) hgrow7 hown7)
              obtain ⟨va7, vc7, hv7⟩ : ∃ a c, v7 = .slice a (D.length + 1) c := by
                rcases hown7.2 with ⟨_, h0⟩ | ⟨g, cap, cur, rfl, _⟩
                · cases h0
                · exact ⟨_, _, rfl⟩
              subst hv7
              have HD7 := toHid (HD.out.add (e := (u, v)) HMm.out (.inl rfl) hvD)
              have hCD : C.length ≤ D.length := by rcases hf with ⟨_, h⟩ | ⟨_, h, _⟩; exact Nat.le_of_lt h; rw [h]; exact Nat.le_refl _
              go_roundw
              case rel => exact ⟨i + 1, D ++ [v], va7, vc7, by omega, by simp, by simp, .inl ⟨rfl, by simp; omega⟩, HD7, HY7⟩
              case measure => first | omega | (simp only [intOf]; omega)
          · by_cases huD : u ∈ D
            · by_cases hvD : v ∈ D
              · go_wp2_with (first
                  | (go_at_call 22; have _t := tokU; refine (has22 HRG.out (by omega) u).mono ?_; rintro e w8' ⟨rfl, hw⟩; subst w8'; rw [decide_eq_true huD]; clear tokU)
                  | (go_at_call 22; refine (has22 HRG.out (by omega) v).mono ?_; rintro e w8' ⟨rfl, hw⟩; subst w8'; rw [decide_eq_true hvD])
                  | fail)
                go_roundw
                case rel => exact ⟨i + 1, D, va', vc', by omega, by simp, rfl, hf.imp id (fun ⟨h1, h2, h3⟩ => ⟨h1, h2, toHid (fun j hj hji hh => by
                    by_cases e : j = i
                    · subst e
                      rw [HE.out] at hh ⊢
                      exact h2 ▸ hvD
                    · exact h3.out j hj (by omega) hh)⟩), HD, toHid (HY.out.below HBw.out)⟩
                case measure => first | omega | (simp only [intOf]; omega)
              · have HYa := toHid ((HY.out.below HBw.out).below ((Below.refl _ _).alloc (Nat.le_refl _) (.cells #[.int .i64 v] 3)))
                go_wp2_with (first
                  | (go_at_call 22; have _t := tokU; refine (has22 HRG.out (by omega) u).mono ?_; rintro e w8' ⟨rfl, hw⟩; subst w8'; rw [decide_eq_true huD]; clear tokU)
                  | (go_at_call 22; refine (has22 HRG.out (by omega) v).mono ?_; rintro e w8' ⟨rfl, hw⟩; subst w8'; rw [decide_eq_false hvD])
                  | (at_builtin; refine wpList_append_own _ rfl _ _ 42 rfl w.heap.size 3 i0 _ 1 8 Try.underlying42 hi0 hz0 hz1 hz2 rfl (by decide) _ D.length _ rfl HYa.out.row ⟨(wr.alloc (.cells #[.int .i64 u, .int .i64 v] 27)).heap.size, 0, none⟩ 1 1 [.int .i64 v] (by simp; rfl) rfl (cell_one (wr.alloc (.cells #[.int .i64 u, .int .i64 v] 27)) _ _) (by intro q hq; simp at hq; subst hq; rfl) (by unfold maxLen; omega) (by omega) HYa.out.low.size ?_; intro v7 w7 hown7 hgrow7 _)
                  | fail)
                have HY7 := toHid (HYa.out.push (x := v) hgrow7 hown7)
                obtain ⟨va7, vc7, hv7⟩ : ∃ a c, v7 = .slice a (D.length + 1) c := by
                  rcases hown7.2 with ⟨_, h0⟩ | ⟨g, cap, cur, rfl, _⟩
                  · cases h0
                  · exact ⟨_, _, rfl⟩
                subst hv7
                have HD7 := toHid (HD.out.add (e := (u, v)) HMm.out (.inr huD) hvD)
                have hCD : C.length ≤ D.length := by rcases hf with ⟨_, h⟩ | ⟨_, h, _⟩; exact Nat.le_of_lt h; rw [h]; exact Nat.le_refl _
                go_roundw
                case rel => exact ⟨i + 1, D ++ [v], va7, vc7, by omega, by simp, by simp, .inl ⟨rfl, by simp; omega⟩, HD7, HY7⟩
                case measure => first | omega | (simp only [intOf]; omega)
            · go_wp2_with (first
                | (go_at_call 22; have _t := tokU; refine (has22 HRG.out (by omega) u).mono ?_; rintro e w8' ⟨rfl, hw⟩; subst w8'; rw [decide_eq_false huD]; clear tokU)
                | fail)
              go_roundw
              case rel => exact ⟨i + 1, D, va', vc', by omega, by simp, rfl, hf.imp id (fun ⟨h1, h2, h3⟩ => ⟨h1, h2, toHid (fun j hj hji hh => by
                  by_cases e : j = i
                  · subst e
                    rw [HE.out] at hh ⊢
                    exact absurd hh (by rintro (h | h); exact huz h; exact huD (h2 ▸ h))
                  · exact h3.out j hj (by omega) hh)⟩), HD, toHid (HY.out.below HBw.out)⟩
              case measure => first | omega | (simp only [intOf]; omega)
        · obtain rfl : i = l.length := by omega
          go_wp2_with fail
          go_roundw
          case rel => exact ⟨D, va', vc', rfl, hf.imp (fun h => h.1) (fun ⟨h1, h2, h3⟩ => ⟨h1, toHid (fun e he hh => by
              obtain ⟨j, hj, rfl⟩ := List.mem_iff_getElem.1 he
              rw [h2] at hh ⊢
              exact h3.out j hj hj hh)⟩), HD, HY⟩
          case measure =>
            rcases hf with ⟨rfl, h⟩ | ⟨rfl, rfl, _⟩
            · simp only [lenOf, boolOf]; omega
            · simp only [lenOf, boolOf]; omega
    · go_wp2_with fail
      go_ret
      exact ⟨va, vc, C, rfl, HX.out, HC.out.nd, hfew, HC.out.done HD.out⟩

end Go.Proofs.Ytoihjkpjijncdaa
