/-
  The document's Pairs: put in, one by one.
-/
import Derived.Test.YtoahcihhpimmgaaXa
import Derived.Test.YtoahcihhpimmgaaRa
import Derived.Deep.QuietTactic
import Derived.BigQuiet
namespace Go.Proofs.Ytoahcihhpimmgaa
open Go.RowKit

theorem gt_dec (x y : List UInt8) : (!decide (y < x) && !y == x) = decide (x < y) := by
  by_cases h1 : x < y
  · have h2 : ¬ y < x := List.le_of_lt h1
    have h3 : y ≠ x := fun e => by subst e; exact List.lt_irrefl _ h1
    simp [h1, h2, h3]
  · by_cases h2 : y < x
    · simp [h1, h2]
    · have h3 : y = x := List.le_antisymm h1 h2
      subst h3
      simp [h1]

/-- While one goes down. -/
structure In17 (w0 : World) (D g c Bc : Nat) (L : List Pq) (x : Pq) (m : Nat) (W : World) : Prop where
  row : W.ownsRow D 59 2 (.slice (some ⟨g, 0, none⟩) (L.length + 1) c) (L.length + 1) (pcells (insP L x m))
  bel : Below D w0 W
  box : W.heap[Bc]? = some (.cells #[.bool true, .string (txt x.1), .string (txt x.2)] 65)
theorem In17.blk {w0 W : World} {D g c Bc m : Nat} {L : List Pq} {x : Pq} (h : In17 w0 D g c Bc L x m W) : D ≤ g ∧ ∃ cs, W.heap[g]? = some (.cells cs 59) := by
  rcases own_addr h.row with ⟨e, _⟩ | ⟨g', cur, e, h1, h2, _⟩
  · simp at e
  · simp at e
    subst e
    exact ⟨h1, _, h2⟩
theorem In17.drew {w0 W : World} {D g c Bc m : Nat} {L : List Pq} {x : Pq} (h : In17 w0 D g c Bc L x m W) : In17 w0 D g c Bc L x m W.drew := ⟨h.row, h.bel.drew, h.box⟩
theorem In17.drewN {w0 W : World} {D g c Bc m : Nat} {L : List Pq} {x : Pq} (h : In17 w0 D g c Bc L x m W) (n : Nat) : In17 w0 D g c Bc L x m (W.drewN n) := ⟨h.row, ⟨h.bel.os, h.bel.tape, h.bel.output, h.bel.size, h.bel.block⟩, h.box⟩
theorem In17.swap {w0 W : World} {D g c Bc m : Nat} {L : List Pq} {x y : Pq} (hp : 0 < m) (hm : m ≤ L.length) (h : In17 w0 D g c Bc L x m W) (hy : L[m - 1]? = some y) :
    In17 w0 D g c Bc L x (m - 1) ((((W.setCell ⟨g, m * 2, none⟩ (.string (txt y.1))).setCell ⟨g, m * 2 + 1, none⟩ (.string (txt y.2))).setCell ⟨g, (m - 1) * 2, none⟩ (.string (txt x.1))).setCell ⟨g, (m - 1) * 2 + 1, none⟩ (.string (txt x.2))) := by
  obtain ⟨hD, cs, hg⟩ := h.blk
  have hne : Bc ≠ g := kind_ne h.box hg (by decide)
  refine ⟨?_, (((h.bel.setCell (p := ⟨g, m * 2, none⟩) hD _).setCell (p := ⟨g, m * 2 + 1, none⟩) hD _).setCell (p := ⟨g, (m - 1) * 2, none⟩) hD _).setCell (p := ⟨g, (m - 1) * 2 + 1, none⟩) hD _, ?_⟩
  · have h1 := own_setP h.row (i := m) (by rw [insP_len]; omega) y
    have h2 := own_setP h1 (i := m - 1) (by rw [List.length_set, insP_len]; omega) x
    have e : ((insP L x m).set m y).set (m - 1) x = insP L x (m - 1) := by
      obtain ⟨k, rfl⟩ : ∃ k, m = k + 1 := ⟨m - 1, by omega⟩
      rw [Nat.add_sub_cancel] at hy ⊢
      have hk : k < L.length := by omega
      rw [List.getElem?_eq_getElem hk] at hy
      simp at hy
      rw [← hy]
      exact insP_swap hk
    rw [e] at h2
    exact h2
  · rw [heap_setCell_other _ _ _ _ hne, heap_setCell_other _ _ _ _ hne, heap_setCell_other _ _ _ _ hne, heap_setCell_other _ _ _ _ hne]
    exact h.box

set_option maxRecDepth 100000 in
set_option maxHeartbeats 4000000 in
theorem refpairs_any (id : Int) (lsn : Nat) (a : Option Addr) (c : Nat) (l : List Cl) (w : World) (hsl : SlC w a l) (hl : l.length ≤ 64) :
    Calls Try.prog 17 #[.agg (refP id lsn a l.length c)] w fun e w' => ∃ a' c', ∃ L : List Pq, e = .returned (.slice a' L.length c') ∧ L.Perm (prsL l) ∧ SortP L ∧ w'.ownsRow w.heap.size 59 2 (.slice a' L.length c') L.length (pcells L) ∧ Below w.heap.size w w' := by
  obtain ⟨i0, hi, hz0, hz1, hz2⟩ := info_parts Try.info59
  simp only [refP]
  have hb0 : Below w.heap.size w (w.alloc (.cells #[.int .i64 id, .int .u64 (lsn : Int), .slice a l.length c] 33)) := (Below.refl _ _).alloc (Nat.le_refl _) _
  have HX := toHid (heap_alloc_new w (.cells #[.int .i64 id, .int .u64 (lsn : Int), .slice a l.length c] 33))
  have HS := toHid (hsl.below hb0)
  have HB0 := toHid hb0
  have HLt : Hid (w.heap.size < (w.alloc (.cells #[.int .i64 id, .int .u64 (lsn : Int), .slice a l.length c] 33)).heap.size) := lt_of_blk HX.out
  clear hb0 hsl
  go_enter Try.func17, Try.ntmps17
  refine wp_seq_k fun K0 hK0 => ?_
  have HK0 := toHid hK0
  clear hK0
  go_wp2_with fail
  refine HK0.out _ _ ?_
  clear HK0
  generalize hw0 : w.alloc (.cells #[.int .i64 id, .int .u64 (lsn : Int), .slice a l.length c] 33) = w0 at HX HS HB0 HLt ⊢
  clear hw0
  obtain ⟨D, hD⟩ : ∃ D, D = w0.heap.size := ⟨_, rfl⟩
  have HDe := toHid hD
  clear hD
  go_wp2_with fail
  go_loopw [3, 4] (fun s i W => ∃ (k : Nat) (a3 : Option Addr) (c3 : Nat) (L : List Pq), k ≤ l.length ∧ i = .int .i64 k ∧ s = .slice a3 L.length c3 ∧ L.Perm (prsL (l.take k)) ∧ SortP L ∧ W.ownsRow D 59 2 (.slice a3 L.length c3) L.length (pcells L) ∧ Below D w0 W) (fun _ i _ => l.length - (intOf i).toNat)
  case atStart => exact ⟨0, none, 0, [], Nat.zero_le _, rfl, rfl, List.Perm.refl _, fun i j hi => by simp at hi, World.ownsRow_nil _ _ _ _, Below.refl _ _⟩
  case round =>
    obtain ⟨k, a3, c3, L, hk, rfl, rfl, hpm, hst, hrow, hbr⟩ := hrel
    have hLl : L.length ≤ 64 := by
      have h1 := hpm.length_eq
      have h2 := prs_le (l.take k)
      rw [List.length_take] at h2
      omega
    have HPm := toHid hpm
    have HSt := toHid hst
    have HRow := toHid hrow
    have HBr := toHid hbr
    have hbx : wr.heap[w.heap.size]? = some (.cells #[.int .i64 id, .int .u64 (lsn : Int), .slice a l.length c] 33) := by rw [hbr.block _ (by rw [HDe.out]; exact HLt.out)]; exact HX.out
    obtain ⟨q0, q1, q2, _⟩ := cell3 hbx
    have hD0 : D ≤ wr.heap.size := by rw [HDe.out]; exact hbr.size
    clear hpm hst hrow hbr
    by_cases hlt : k < l.length
    · have HPT := toHid (prs_take l k hlt)
      obtain ⟨b, o, rfl, hbl, c1, c2, c3'⟩ := (HS.out.below (show Below w0.heap.size w0 wr from HDe.out ▸ HBr.out)).at k hlt
      have e1 : (k : Int) < (l.length : Int) := by omega
      have e2 : 0 ≤ (k : Int) := by omega
      obtain ⟨cx, hcx⟩ : ∃ cx, cx = l[k] := ⟨_, rfl⟩
      rw [← hcx] at HPT c1 c2 c3'
      obtain ⟨us, ky, vl⟩ := cx
      simp only at c1 c2 c3'
      clear hbx hcx
      cases us
      · rw [prC_free rfl] at HPT
        have HPL : Hid (prsL (l.take (k + 1)) = prsL (l.take k)) := by show _ = _; rw [HPT.out]; simp
        have HB1 : Hid (Below D w0 (wr.alloc (.cells #[.bool false, .string (txt ky), .string (txt vl)] 65))) := HBr.out.alloc hD0 _
        have HO1 := toHid (HRow.out.alloc (.cells #[.bool false, .string (txt ky), .string (txt vl)] 65))
        go_wp2_with fail
        go_roundw
        case rel => exact ⟨k + 1, a3, c3, L, by omega, by simp, rfl, by rw [HPL.out]; exact HPm.out, HSt.out, HO1.out, HB1.out⟩
        case measure => first | omega | (simp only [intOf]; omega)
      · rw [prC_used rfl] at HPT
        have HO0 := toHid ((HRow.out.alloc (.cells #[.bool true, .string (txt ky), .string (txt vl)] 65)).alloc (.cells #[.string (txt ky), .string (txt vl)] 59))
        have HB0' : Hid (Below D w0 ((wr.alloc (.cells #[.bool true, .string (txt ky), .string (txt vl)] 65)).alloc (.cells #[.string (txt ky), .string (txt vl)] 59))) := (HBr.out.alloc hD0 _).alloc (by simp; omega) _
        have HC0 := toHid (heap_alloc2_old wr (.cells #[.bool true, .string (txt ky), .string (txt vl)] 65) (.cells #[.string (txt ky), .string (txt vl)] 59))
        go_wp2_with (at_builtin; refine wpList_append_own _ rfl _ _ 41 rfl D 59 i0 _ 2 32 Try.underlying41 hi hz0 hz1 hz2 rfl (by decide) (.slice a3 L.length c3) L.length (pcells L) rfl HO0.out ⟨wr.heap.size + 1, 0, none⟩ 1 1 [.string (txt ky), .string (txt vl)] rfl rfl (two_cells' _ _ _ _ _) (by intro u hu; simp at hu; rcases hu with rfl | rfl <;> rfl) (by unfold maxLen; omega) (by omega) (by simp; omega) ?_; intro v' w1 hown hgrow _; obtain ⟨a5, c5, rfl⟩ := ownsRow_shape hown)
        obtain ⟨g5, rfl⟩ : ∃ g, a5 = some ⟨g, 0, none⟩ := by
          rcases own_addr hown with ⟨_, e, _⟩ | ⟨g, cur, e, _⟩
          · omega
          · exact ⟨g, e⟩
        have HB1 : Hid (Below D w0 w1) := HB0'.out.grown hgrow (by simp; omega) (fun j hj => (World.ownsRow.lt HO0.out j hj).1)
        obtain ⟨x, hx⟩ : ∃ x : Pq, x = (ky, vl) := ⟨_, rfl⟩
        obtain ⟨Bc, hBc⟩ : ∃ B, B = wr.heap.size := ⟨_, rfl⟩
        have hcb : w1.heap[Bc]? = some (.cells #[.bool true, .string (txt x.1), .string (txt x.2)] 65) := by
          rw [hx, hBc, hgrow.block _ (by simp; omega) (fun e => by
            obtain ⟨cs, hcs⟩ : ∃ cs, ((wr.alloc (.cells #[.bool true, .string (txt ky), .string (txt vl)] 65)).alloc (.cells #[.string (txt ky), .string (txt vl)] 59)).heap[wr.heap.size]? = some (.cells cs 59) := by
              rcases own_addr HO0.out with ⟨e1, _⟩ | ⟨g, cur, e1, _, hg, _⟩
              · rw [e1] at e; simp [Value.ownBlock] at e
              · rw [e1] at e; simp [Value.ownBlock] at e; subst e; exact ⟨cur, hg⟩
            rw [HC0.out] at hcs
            simp at hcs)]
          exact HC0.out
        have HI0 : Hid (In17 w0 D g5 c5 Bc L x L.length w1) := ⟨by rw [insP_end, hx, pcells_append]; simpa [pcells, encP] using hown, HB1.out, hcb⟩
        have HXe := toHid hx
        rw [← hBc]
        clear hown hgrow hcb HB1 HO0 HB0' HC0 hx hBc c1 c2 c3' q0 q1 q2
        go_wp2_with fail
        go_loopw [6] (fun s W => ∃ m : Nat, m ≤ L.length ∧ s = .int .i64 m ∧ In17 w0 D g5 c5 Bc L x m W ∧ ∀ y, y ∈ L.drop m → x.1 < y.1) (fun s _ => (intOf s).toNat)
        case atStart => exact ⟨L.length, Nat.le_refl _, rfl, HI0.out, by simp⟩
        case round =>
          clear HI0
          obtain ⟨m, hm, rfl, hin, hd⟩ := hrel
          have HI := toHid hin
          have HD := toHid hd
          clear hin hd
          obtain ⟨b0, b1, b2, _⟩ := cell3 HI.out.box
          by_cases h0 : m = 0
          · subst h0
            have g1 : ¬ (0 : Int) < ((0 : Nat) : Int) := by omega
            go_wp2_with fail
            go_quiet (fail)
            obtain ⟨W2, hW2⟩ : ∃ W2, W2 = wr.drewN nq := ⟨_, rfl⟩
            have HI2 := toHid (show In17 w0 D g5 c5 Bc L x 0 W2 from hW2 ▸ HI.out.drewN nq)
            rw [← hW2]
            clear hW2 b0 b1 b2
            have HRn := toHid (show SortP (insP L x 0) from insP_sort HSt.out (Nat.zero_le _) (fun y _ h => by omega) HD.out)
            have HFin := toHid (show (insP L x 0).Perm (prsL (l.take (k + 1))) by rw [HPT.out]; exact (insP_perm L x 0).trans (by rw [HXe.out]; exact HPm.out.append_right _))
            go_wp2_with fail
            go_roundw
            case rel => exact ⟨k + 1, some ⟨g5, 0, none⟩, c5, insP L x 0, by omega, by first | go_num | simp, by rw [insP_len], HFin.out, HRn.out, by rw [insP_len]; exact HI2.out.row, HI2.out.bel⟩
            case measure => simp [intOf]; omega
          · obtain ⟨y, hy⟩ : ∃ y, L[m - 1]? = some y := ⟨_, List.getElem?_eq_getElem (by omega)⟩
            have HY := toHid hy
            have HXi := toHid (show (insP L x m)[m - 1]? = some y by rw [show m = (m - 1) + 1 by omega, Nat.add_sub_cancel, insP_prev (by omega)]; rw [← hy, List.getElem?_eq_getElem (by omega)])
            obtain ⟨s0, s1⟩ := own_at HI.out.row (i := m - 1) (y := y) HXi.out
            clear hy
            have hmp : 0 < m := by omega
            have g3 : decide (0 < m) = true := by simp; omega
            have i1 : (0 : Int) < (m : Int) := by omega
            have i2 : 0 ≤ (m : Int) - 1 := by omega
            have i3 : (m : Int) - 1 < (L.length : Int) + 1 := by omega
            have i4 : (m : Int) < (L.length : Int) + 1 := by omega
            have i5 : 0 ≤ (m : Int) := by omega
            obtain ⟨bb, hbb⟩ : ∃ b, (!Op.bytesLess (txt y.1).toList (txt x.1).toList && !(txt y.1).toList == (txt x.1).toList) = b := ⟨_, rfl⟩
            have HBB : Hid (bb = decide (x.1 < y.1)) := by show _ = _; rw [← hbb, toList_txt, toList_txt, bytesLess_eq]; exact gt_dec _ _
            cases bb
            · have HNl : Hid (¬ x.1 < y.1) := by show ¬ _; have := HBB.out; simpa using this
              go_wp2_with fail
              go_quiet (fail)
              obtain ⟨W2, hW2⟩ : ∃ W2, W2 = wr.drewN nq := ⟨_, rfl⟩
              have HI2 := toHid (show In17 w0 D g5 c5 Bc L x m W2 from hW2 ▸ HI.out.drewN nq)
              rw [← hW2]
              clear hW2 b0 b1 b2 s0 s1
              have HRn := toHid (show SortP (insP L x m) from insP_sort HSt.out hm (fun z hz _ => by rw [HY.out] at hz; injection hz with hz; subst hz; exact HNl.out) HD.out)
              have HFin := toHid (show (insP L x m).Perm (prsL (l.take (k + 1))) by rw [HPT.out]; exact (insP_perm L x m).trans (by rw [HXe.out]; exact HPm.out.append_right _))
              go_wp2_with fail
              go_roundw
              case rel => exact ⟨k + 1, some ⟨g5, 0, none⟩, c5, insP L x m, by omega, by first | go_num | simp, by rw [insP_len], HFin.out, HRn.out, by rw [insP_len]; exact HI2.out.row, HI2.out.bel⟩
              case measure => simp [intOf]; omega
            · have HLs : Hid (x.1 < y.1) := by show _ < _; have := HBB.out; simpa using this
              go_wp2_with fail
              go_quiet (fail)
              obtain ⟨W2, hW2⟩ : ∃ W2, W2 = wr.drewN nq := ⟨_, rfl⟩
              have HI2 := toHid (show In17 w0 D g5 c5 Bc L x m W2 from hW2 ▸ HI.out.drewN nq)
              rw [← hW2]
              clear hW2 b0 b1 b2 s0 s1
              obtain ⟨s0, s1⟩ := own_at HI2.out.row (i := m - 1) (y := y) HXi.out
              obtain ⟨t0, t1⟩ := own_at HI2.out.row (i := m) (y := x) (insP_self hm)
              have f0 := row_free HI2.out.row (m * 2)
              have f1 := row_free HI2.out.row (m * 2 + 1)
              have e0 := row_free HI2.out.row ((m - 1) * 2)
              have e1 := row_free HI2.out.row ((m - 1) * 2 + 1)
              have HD9 := toHid (show ∀ z, z ∈ L.drop (m - 1) → x.1 < z.1 from fun z hz => by
                rw [List.drop_eq_getElem_cons (by omega)] at hz
                rcases List.mem_cons.1 hz with e | hz
                · have := HY.out
                  rw [List.getElem?_eq_getElem (by omega)] at this
                  injection this with this
                  rw [e, this]
                  exact HLs.out
                · rw [show m - 1 + 1 = m by omega] at hz
                  exact HD.out z hz)
              have hwp : IntKind.i64.wrap ((m : Int) - 1) = (m : Int) - 1 := by simp [IntKind.wrap, IntKind.bits, IntKind.signed]; omega
              have i10 : (1 : Int) ≤ (m : Int) := by omega
              have htn : ((m : Int) - 1).toNat = m - 1 := by omega
              go_wp2_with fail
              refine wp_region_held_drew (S := fun _ => True) (by kernel_rfl) trivial (fun hHeld => ?_)
              refine wpAnyH_take (i := 0) (v := ?_) rfl (by kernel_rfl) (by kernel_rfl) (by kernel_rfl) (fun _ _ _ h => h) (Or.inl ⟨by rfl, ?_⟩) (by assumption) ?_
              rotate_left
              · (intro W hSw; (try dsimp only at hSw); go_simp; (try rw [hwp]); (try rw [if_pos i10]); (try rw [htn]); try with_reducible rfl)
              try simp only [Act.put, List.getElem_toArray, List.getElem_cons_zero, List.setIfInBounds_toArray, List.set_cons_zero, List.set_cons_succ]
              refine wpAnyH_take (i := 1) (v := ?_) rfl (by kernel_rfl) (by kernel_rfl) (by kernel_rfl) (fun _ _ _ h => h) (Or.inl ⟨by rfl, ?_⟩) (by assumption) ?_
              rotate_left
              · (intro W hSw; (try dsimp only at hSw); go_simp; (try rw [hwp]); (try rw [if_pos i10]); (try rw [htn]); try with_reducible rfl)
              try simp only [Act.put, List.getElem_toArray, List.getElem_cons_zero, List.getElem_cons_succ, List.setIfInBounds_toArray, List.set_cons_zero, List.set_cons_succ]
              refine wpAnyH_take (i := 2) (v := ?_) rfl (by kernel_rfl) (by kernel_rfl) (by kernel_rfl) (fun _ _ _ h => h) (Or.inl ⟨by rfl, ?_⟩) (by assumption) ?_
              rotate_left
              · (intro W hSw; (try dsimp only at hSw); go_simp; (try rw [hwp]); (try rw [if_pos i10]); (try rw [htn]); try with_reducible rfl)
              try simp only [Act.put, List.getElem_toArray, List.getElem_cons_zero, List.getElem_cons_succ, List.setIfInBounds_toArray, List.set_cons_zero, List.set_cons_succ]
              refine wpAnyH_take (i := 3) (v := ?_) rfl (by kernel_rfl) (by kernel_rfl) (by kernel_rfl) (fun _ _ _ h => h) (Or.inl ⟨by rfl, ?_⟩) (by assumption) ?_
              rotate_left
              · (intro W hSw; (try dsimp only at hSw); go_simp; (try rw [hwp]); (try rw [if_pos i10]); (try rw [htn]); try with_reducible rfl)
              try simp only [Act.put, List.getElem_toArray, List.getElem_cons_zero, List.getElem_cons_succ, List.setIfInBounds_toArray, List.set_cons_zero, List.set_cons_succ]
              refine wpAnyH_take (i := 4) (v := ?_) rfl (by kernel_rfl) (by kernel_rfl) (by kernel_rfl) (fun _ _ _ h => h) (Or.inl ⟨by rfl, ?_⟩) (by assumption) ?_
              rotate_left
              · (intro W hSw; (try dsimp only at hSw); go_simp; (try rw [hwp]); (try rw [if_pos i10]); (try rw [htn]); try with_reducible rfl)
              try simp only [Act.put, List.getElem_toArray, List.getElem_cons_zero, List.getElem_cons_succ, List.setIfInBounds_toArray, List.set_cons_zero, List.set_cons_succ]
              refine wpAnyH_take (i := 5) (v := ?_) rfl (by kernel_rfl) (by kernel_rfl) (by kernel_rfl) (fun _ _ _ h => h) (Or.inl ⟨by rfl, ?_⟩) (by assumption) ?_
              rotate_left
              · (intro W hSw; (try dsimp only at hSw); go_simp; (try rw [hwp]); (try rw [if_pos i10]); (try rw [htn]); try with_reducible rfl)
              try simp only [Act.put, List.getElem_toArray, List.getElem_cons_zero, List.getElem_cons_succ, List.setIfInBounds_toArray, List.set_cons_zero, List.set_cons_succ]
              refine wpAnyH_take (i := 6) (v := ?_) rfl (by kernel_rfl) (by kernel_rfl) (by kernel_rfl) (fun _ _ _ h => h) (Or.inl ⟨by rfl, ?_⟩) (by assumption) ?_
              rotate_left
              · (intro W hSw; (try dsimp only at hSw); go_simp; (try rw [hwp]); (try rw [if_pos i10]); (try rw [htn]); try with_reducible rfl)
              try simp only [Act.put, List.getElem_toArray, List.getElem_cons_zero, List.getElem_cons_succ, List.setIfInBounds_toArray, List.set_cons_zero, List.set_cons_succ]
              refine wpAnyH_take (i := 7) (v := ?_) rfl (by kernel_rfl) (by kernel_rfl) (by kernel_rfl) (fun _ _ _ h => h) (Or.inl ⟨by rfl, ?_⟩) (by assumption) ?_
              rotate_left
              · (intro W hSw; (try dsimp only at hSw); go_simp; (try rw [hwp]); (try rw [if_pos i10]); (try rw [htn]); try with_reducible rfl)
              try simp only [Act.put, List.getElem_toArray, List.getElem_cons_zero, List.getElem_cons_succ, List.setIfInBounds_toArray, List.set_cons_zero, List.set_cons_succ]
              refine wpAnyH_take (i := 8) (v := ?_) rfl (by kernel_rfl) (by kernel_rfl) (by kernel_rfl) (fun _ _ _ h => h) (Or.inl ⟨by rfl, ?_⟩) (by assumption) ?_
              rotate_left
              · (intro W hSw; (try dsimp only at hSw); go_simp; (try rw [hwp]); (try rw [if_pos i10]); (try rw [htn]); try with_reducible rfl)
              try simp only [Act.put, List.getElem_toArray, List.getElem_cons_zero, List.getElem_cons_succ, List.setIfInBounds_toArray, List.set_cons_zero, List.set_cons_succ]
              refine wpAnyH_take (i := 10) (v := ?_) rfl (by kernel_rfl) (by kernel_rfl) (by kernel_rfl) (fun _ _ _ h => h) (Or.inl ⟨by rfl, ?_⟩) (by assumption) ?_
              rotate_left
              · (intro W hSw; (try dsimp only at hSw); go_simp; (try rw [hwp]); (try rw [if_pos i10]); (try rw [htn]); try with_reducible rfl)
              try simp only [Act.put, List.getElem_toArray, List.getElem_cons_zero, List.getElem_cons_succ, List.setIfInBounds_toArray, List.set_cons_zero, List.set_cons_succ]
              refine wpAnyH_take (i := 11) (v := ?_) rfl (by kernel_rfl) (by kernel_rfl) (by kernel_rfl) (fun _ _ _ h => h) (Or.inl ⟨by rfl, ?_⟩) (by assumption) ?_
              rotate_left
              · (intro W hSw; (try dsimp only at hSw); go_simp; (try rw [hwp]); (try rw [if_pos i10]); (try rw [htn]); try with_reducible rfl)
              try simp only [Act.put, List.getElem_toArray, List.getElem_cons_zero, List.getElem_cons_succ, List.setIfInBounds_toArray, List.set_cons_zero, List.set_cons_succ]
              refine wpAnyH_take (i := 12) (v := ?_) rfl (by kernel_rfl) (by kernel_rfl) (by kernel_rfl) (fun _ _ _ h => h) (Or.inl ⟨by rfl, ?_⟩) (by assumption) ?_
              rotate_left
              · (intro W hSw; (try dsimp only at hSw); go_simp; (try rw [hwp]); (try rw [if_pos i10]); (try rw [htn]); try with_reducible rfl)
              try simp only [Act.put, List.getElem_toArray, List.getElem_cons_zero, List.getElem_cons_succ, List.setIfInBounds_toArray, List.set_cons_zero, List.set_cons_succ]
              refine wpAnyH_ready (rs := [9, 13]) (by kernel_rfl) (by simp) ?_
              refine AllReadyH.cons rfl (fun K hK => ?_) (AllReadyH.cons rfl (fun K hK => ?_) AllReadyH.nil)
              · skip
                go_simp
                try go_wp2_with fail
                refine hK.out _ _ trivial (fun hHeld => ?_)
                clear hK K
                try simp only [Act.put, List.getElem_toArray, List.getElem_cons_zero, List.getElem_cons_succ, List.setIfInBounds_toArray, List.set_cons_zero, List.set_cons_succ]
                refine wpAnyH_ready (rs := [13]) (by kernel_rfl) (by simp) ?_
                refine AllReadyH.cons rfl (fun K hK => ?_) AllReadyH.nil
                go_simp
                try go_wp2_with fail
                refine hK.out _ _ trivial (fun hHeld => ?_)
                clear hK K
                try simp only [Act.put, List.getElem_toArray, List.getElem_cons_zero, List.getElem_cons_succ, List.setIfInBounds_toArray, List.set_cons_zero, List.set_cons_succ]
                refine wpAnyH_take (i := 14) (v := ?_) rfl (by kernel_rfl) (by kernel_rfl) (by kernel_rfl) (fun _ _ _ h => h) (Or.inl ⟨by rfl, ?_⟩) (by assumption) ?_
                rotate_left
                · (intro W hSw; (try dsimp only at hSw); go_simp; (try rw [hwp]); (try rw [if_pos i10]); (try rw [htn]); try with_reducible rfl)
                try simp only [Act.put, List.getElem_toArray, List.getElem_cons_zero, List.getElem_cons_succ, List.setIfInBounds_toArray, List.set_cons_zero, List.set_cons_succ]
                refine wpAnyH_ready (rs := [15]) (by kernel_rfl) (by simp) ?_
                refine AllReadyH.cons rfl (fun K hK => ?_) AllReadyH.nil
                go_simp
                try go_wp2_with fail
                refine hK.out _ _ trivial (fun hHeld => ?_)
                clear hK K
                try simp only [Act.put, List.getElem_toArray, List.getElem_cons_zero, List.getElem_cons_succ, List.setIfInBounds_toArray, List.set_cons_zero, List.set_cons_succ]
                clear s0 s1 t0 t1 f0 f1 e0 e1
                obtain ⟨W3, hW3⟩ : ∃ W3, (W2.setCell ⟨g5, m * 2, none⟩ (.string (txt y.1))).setCell ⟨g5, m * 2 + 1, none⟩ (.string (txt y.2)) = W3 := ⟨_, rfl⟩
                rw [hW3]
                have HW3 := toHid hW3
                have HS3 := toHid (show W3.ownsRow D 59 2 (.slice (some ⟨g5, 0, none⟩) (L.length + 1) c5) (L.length + 1) (pcells ((insP L x m).set m y)) by subst hW3; exact own_setP HI2.out.row (by rw [insP_len]; omega) y)
                clear hW3
                obtain ⟨s0, s1⟩ := own_at HS3.out (i := m - 1) (y := y) (by rw [List.getElem?_set_ne (by omega)]; exact HXi.out)
                have f0 := row_free HS3.out ((m - 1) * 2)
                have f1 := row_free HS3.out ((m - 1) * 2 + 1)
                refine wpAnyH_take (i := 16) (v := ?_) rfl (by kernel_rfl) (by kernel_rfl) (by kernel_rfl) (fun _ _ _ h => h) (Or.inl ⟨by rfl, ?_⟩) (by assumption) ?_
                rotate_left
                · (intro W hSw; (try dsimp only at hSw); go_simp; (try rw [hwp]); (try rw [if_pos i10]); (try rw [htn]); try with_reducible rfl)
                try simp only [Act.put, List.getElem_toArray, List.getElem_cons_zero, List.getElem_cons_succ, List.setIfInBounds_toArray, List.set_cons_zero, List.set_cons_succ]
                refine wpAnyH_ready (rs := [17]) (by kernel_rfl) (by simp) ?_
                refine AllReadyH.cons rfl (fun K hK => ?_) AllReadyH.nil
                go_simp
                try go_wp2_with fail
                refine hK.out _ _ trivial (fun hHeld => ?_)
                clear hK K
                try simp only [Act.put, List.getElem_toArray, List.getElem_cons_zero, List.getElem_cons_succ, List.setIfInBounds_toArray, List.set_cons_zero, List.set_cons_succ]
                refine wpAnyH_done (by kernel_rfl) ?_ _
                clear hHeld
                have HI9 := toHid (show In17 w0 D g5 c5 Bc L x (m - 1) ((W3.setCell ⟨g5, (m - 1) * 2, none⟩ (.string (txt x.1))).setCell ⟨g5, (m - 1) * 2 + 1, none⟩ (.string (txt x.2))) by have h := HW3.out; subst h; exact In17.swap hmp hm HI2.out HY.out)
                go_wp2_with fail
                go_roundw
                case rel => exact ⟨m - 1, by omega, by first | go_num | (congr 1; omega), HI9.out.drew, HD9.out⟩
                case measure => simp [intOf]; omega
              · skip
                go_simp
                try go_wp2_with fail
                refine hK.out _ _ trivial (fun hHeld => ?_)
                clear hK K
                try simp only [Act.put, List.getElem_toArray, List.getElem_cons_zero, List.getElem_cons_succ, List.setIfInBounds_toArray, List.set_cons_zero, List.set_cons_succ]
                refine wpAnyH_ready (rs := [9]) (by kernel_rfl) (by simp) ?_
                refine AllReadyH.cons rfl (fun K hK => ?_) AllReadyH.nil
                go_simp
                try go_wp2_with fail
                refine hK.out _ _ trivial (fun hHeld => ?_)
                clear hK K
                try simp only [Act.put, List.getElem_toArray, List.getElem_cons_zero, List.getElem_cons_succ, List.setIfInBounds_toArray, List.set_cons_zero, List.set_cons_succ]
                refine wpAnyH_take (i := 14) (v := ?_) rfl (by kernel_rfl) (by kernel_rfl) (by kernel_rfl) (fun _ _ _ h => h) (Or.inl ⟨by rfl, ?_⟩) (by assumption) ?_
                rotate_left
                · (intro W hSw; (try dsimp only at hSw); go_simp; (try rw [hwp]); (try rw [if_pos i10]); (try rw [htn]); try with_reducible rfl)
                try simp only [Act.put, List.getElem_toArray, List.getElem_cons_zero, List.getElem_cons_succ, List.setIfInBounds_toArray, List.set_cons_zero, List.set_cons_succ]
                refine wpAnyH_ready (rs := [15]) (by kernel_rfl) (by simp) ?_
                refine AllReadyH.cons rfl (fun K hK => ?_) AllReadyH.nil
                go_simp
                try go_wp2_with fail
                refine hK.out _ _ trivial (fun hHeld => ?_)
                clear hK K
                try simp only [Act.put, List.getElem_toArray, List.getElem_cons_zero, List.getElem_cons_succ, List.setIfInBounds_toArray, List.set_cons_zero, List.set_cons_succ]
                clear s0 s1 t0 t1 f0 f1 e0 e1
                obtain ⟨W3, hW3⟩ : ∃ W3, (W2.setCell ⟨g5, m * 2, none⟩ (.string (txt y.1))).setCell ⟨g5, m * 2 + 1, none⟩ (.string (txt y.2)) = W3 := ⟨_, rfl⟩
                rw [hW3]
                have HW3 := toHid hW3
                have HS3 := toHid (show W3.ownsRow D 59 2 (.slice (some ⟨g5, 0, none⟩) (L.length + 1) c5) (L.length + 1) (pcells ((insP L x m).set m y)) by subst hW3; exact own_setP HI2.out.row (by rw [insP_len]; omega) y)
                clear hW3
                obtain ⟨s0, s1⟩ := own_at HS3.out (i := m - 1) (y := y) (by rw [List.getElem?_set_ne (by omega)]; exact HXi.out)
                have f0 := row_free HS3.out ((m - 1) * 2)
                have f1 := row_free HS3.out ((m - 1) * 2 + 1)
                refine wpAnyH_take (i := 16) (v := ?_) rfl (by kernel_rfl) (by kernel_rfl) (by kernel_rfl) (fun _ _ _ h => h) (Or.inl ⟨by rfl, ?_⟩) (by assumption) ?_
                rotate_left
                · (intro W hSw; (try dsimp only at hSw); go_simp; (try rw [hwp]); (try rw [if_pos i10]); (try rw [htn]); try with_reducible rfl)
                try simp only [Act.put, List.getElem_toArray, List.getElem_cons_zero, List.getElem_cons_succ, List.setIfInBounds_toArray, List.set_cons_zero, List.set_cons_succ]
                refine wpAnyH_ready (rs := [17]) (by kernel_rfl) (by simp) ?_
                refine AllReadyH.cons rfl (fun K hK => ?_) AllReadyH.nil
                go_simp
                try go_wp2_with fail
                refine hK.out _ _ trivial (fun hHeld => ?_)
                clear hK K
                try simp only [Act.put, List.getElem_toArray, List.getElem_cons_zero, List.getElem_cons_succ, List.setIfInBounds_toArray, List.set_cons_zero, List.set_cons_succ]
                refine wpAnyH_done (by kernel_rfl) ?_ _
                clear hHeld
                have HI9 := toHid (show In17 w0 D g5 c5 Bc L x (m - 1) ((W3.setCell ⟨g5, (m - 1) * 2, none⟩ (.string (txt x.1))).setCell ⟨g5, (m - 1) * 2 + 1, none⟩ (.string (txt x.2))) by have h := HW3.out; subst h; exact In17.swap hmp hm HI2.out HY.out)
                go_wp2_with fail
                go_roundw
                case rel => exact ⟨m - 1, by omega, by first | go_num | (congr 1; omega), HI9.out.drew, HD9.out⟩
                case measure => simp [intOf]; omega
    · obtain rfl : k = l.length := by omega
      have e1 : ¬ (l.length : Int) < (l.length : Int) := by omega
      clear hbx
      go_wp2_with fail
      go_ret
      refine ⟨a3, c3, L, rfl, ?_, HSt.out, row_low HRow.out (by rw [HDe.out]; exact Nat.le_of_lt HLt.out), HB0.out.trans (HBr.out.mono (by rw [HDe.out]; exact Nat.le_of_lt HLt.out))⟩
      have := HPm.out
      rw [List.take_length] at this
      exact this

end Go.Proofs.Ytoahcihhpimmgaa
