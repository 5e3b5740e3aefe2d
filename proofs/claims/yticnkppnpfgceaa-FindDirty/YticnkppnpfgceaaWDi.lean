/-
  The walk of FindDirty.
-/
import Derived.Test.YticnkppnpfgceaaFDa
import Derived.Test.YticnkppnpfgceaaWNx
namespace Go.Proofs.Yticnkppnpfgceaa.Mg
open Go.RowKit Go.Maps

theorem dcell {W : World} {B c : Nat} {va : Option Addr} {d : List (Int × Nat)} (h : W.ownsRow B 60 2 (.slice va d.length c) d.length (dCells d)) {k : Nat} (hk : k < d.length) : ∃ g, va = some ⟨g, 0, none⟩ ∧ g < W.heap.size ∧ W.cell? ⟨g, k * 2, none⟩ = some (.int .i64 d[k].1) ∧ W.cell? ⟨g, k * 2 + 1, none⟩ = some (.int .u64 (d[k].2 : Int)) := by
  have hf : ∀ j, j < 2 → (dCells d)[k * 2 + j]? = [Value.int .i64 d[k].1, .int .u64 (d[k].2 : Int)][j]? := fun j hj => by
    unfold dCells
    rw [flat_get (fun p : Int × Nat => [Value.int .i64 p.1, .int .u64 (p.2 : Int)]) 2 (fun _ => rfl) d k j hj, List.getElem?_eq_getElem hk]
    rfl
  rcases h.2 with ⟨h0, h1⟩ | ⟨g, cap, cur, e, _⟩
  · omega
  · injection e with e1
    subst e1
    have c0 := h.cells (g := g) rfl (k * 2) _ (hf 0 (by omega))
    have c1 := h.cells (g := g) rfl (k * 2 + 1) _ (hf 1 (by omega))
    rw [addr_add] at c0 c1
    exact ⟨g, rfl, World.block_lt_of_cell? _ _ c0, c0, c1⟩

/-- What FindDirty holds: its variable has what All told. -/
structure Dk (w W : World) (b : Nat) (d : List (Int × Nat)) (vt vn : Value) (va : Option Addr) (vc n : Nat) : Prop where
  low : Below w.heap.size w W
  box : W.heap[b]? = some (.cells #[vt, vn, .slice va d.length vc, .int .u64 (n : Int)] 32)
  row : W.ownsRow w.heap.size 60 2 (.slice va d.length vc) d.length (dCells d)

set_option maxRecDepth 100000 in
set_option maxHeartbeats 8000000 in
theorem dirty_walk (a : Option Addr) (c : Nat) (l : List Rc) (w : World) (hL : SlR w a l) (hl : l.length ≤ 140737488355328) (_hnil : a = none → c = 0) (hW : ∀ r, r ∈ l → Wd r) :
    Calls Try.prog 7 #[.slice a l.length c] w fun e w' => e = .returned (.bool true) ∧ Below w.heap.size w w' := by
  have HS := toHid (small9 a c l w hL hl hW)
  have HL := toHid hL
  clear hL hW
  go_enter Try.func7, Try.ntmps7
  go_wp2_with fail
  refine Calls.mono HS.out ?_
  rintro e w1 ⟨b, rfl, hb, n, rfl⟩
  have HB1 := toHid (below_drew (w := w) n)
  clear HS
  cases b
  · clear hb
    have HV := toHid (lives10 (w.drewN n))
    go_wp2_with fail
    refine Calls.mono HV.out ?_
    rintro e w2 ⟨rfl, hb2⟩
    go_wp2
    go_ret
    exact ⟨rfl, HB1.out.trans hb2⟩
  obtain ⟨hl3, hlim⟩ := lim_tot (hb rfl)
  have HLim := toHid hlim
  have HA := toHid (all12 a c l w (w.drewN n) HL.out HB1.out (by omega) HLim.out)
  clear hb hlim
  go_wp2_with fail
  refine Calls.mono HA.out ?_
  rintro e w2 ⟨vt, vn, vd, rfl, hR, hb2⟩
  have HB2 := toHid (show Below w.heap.size w w2 from HB1.out.trans hb2)
  obtain ⟨ta, tc, rfl⟩ := ownsRow_shape2 hR.t
  obtain ⟨na, nc, rfl⟩ := ownsRow_shape2 hR.n
  obtain ⟨va, vc, rfl⟩ := ownsRow_shape2 hR.d
  have HRd := toHid (show w2.ownsRow w.heap.size 60 2 _ _ _ from hR.d)
  clear hb2 hR HA HB1
  cases he : logB l
  · have g0 : ((argE false : Int) != 0) = true := by decide
    have hX : allX l = Lf.nil := by simp [allX, he]
    rw [hX] at HRd ⊢
    clear hX
    go_wp2_with fail
    have HV := toHid (fun o => lives10 (w2.alloc o))
    have HB3 := toHid (fun o => HB2.out.alloc HB2.out.size o)
    refine Calls.mono (HV.out _) ?_
    rintro e w3 ⟨rfl, hb3⟩
    go_wp2
    go_ret
    exact ⟨rfl, (HB3.out _).trans (hb3.mono (HB3.out _).size)⟩
  have g0 : ((argE true : Int) != 0) = false := by decide
  have hD := dirs_all he
  rw [hD] at HRd ⊢
  have HE := toHid he
  have HN16 := toHid (fun m n hf => first_pos he (p := m) (n := n) hf)
  have hd1 : (dirsL l 16).length ≤ 16 := by
    unfold dirsL
    have := List.length_filterMap_le (fun p : Nat => (firstL l (p : Int)).map fun n => ((p : Int), n)) (List.range 16)
    simpa using this
  have HDk := toHid (show Dk w (w2.alloc (.cells #[.slice ta (allX l).t.length tc, .slice na (allX l).t.length nc, .slice va (dirsL l 16).length vc, .int .u64 (redoL (dirsL l 16) : Int)] 32)) w2.heap.size (dirsL l 16) (.slice ta (allX l).t.length tc) (.slice na (allX l).t.length nc) va vc (redoL (dirsL l 16)) from ⟨HB2.out.alloc HB2.out.size _, heap_alloc_new _ _, own_below HRd.out ((Below.refl _ _).alloc (Nat.le_refl _) _)⟩)
  clear he hD
  generalize (allX l).t.length = nt at *
  go_wp2_with fail
  go_loopw [5, 6, 7] (fun le k p W => ∃ m : Nat, m ≤ 16 ∧ p = .int .i64 m ∧ k = .int .i64 ((dirsL l m).length : Int) ∧ le = .int .u64 (redoL (dirsL l m) : Int) ∧ Dk w W w2.heap.size (dirsL l 16) (.slice ta nt tc) (.slice na nt nc) va vc (redoL (dirsL l 16))) (fun _ _ p _ => 16 - (intOf p).toNat)
  case atStart => exact ⟨0, by omega, rfl, rfl, rfl, HDk.out⟩
  case round =>
    obtain ⟨m, hm, rfl, rfl, rfl, hdk⟩ := hrel
    have HD := toHid hdk
    have hbx := hdk.box
    clear hdk HDk
    obtain ⟨x0, x1, x2, x3, _, _, _, _⟩ := cellsF hbx
    clear hbx
    by_cases hlt : m < 16
    · have hm1 : (m : Int) < 16 := by omega
      go_wp2_with fail
      go_loopw [8, 9] (fun f i W => ∃ j : Nat, j ≤ l.length ∧ i = .int .i64 ((j : Int) - 1) ∧ f = .int .u64 (((firstL (l.drop j) (m : Int)).getD 0 : Nat) : Int) ∧ W = wr) (fun _ i _ => (intOf i + 1).toNat)
      case atStart => exact ⟨l.length, Nat.le_refl _, rfl, by simp [firstL], rfl⟩
      case round =>
        obtain ⟨j, hj, rfl, rfl, rfl⟩ := hrel
        by_cases h0 : 0 < j
        · obtain ⟨i, rfl⟩ : ∃ i, j = i + 1 := ⟨j - 1, by omega⟩
          have e1 : ((i + 1 : Nat) : Int) - 1 = (i : Int) := by omega
          rw [e1]
          have hi : i < l.length := by omega
          have HF := toHid (firstL_drop hi (m : Int))
          obtain ⟨b, o, rfl, hbl⟩ := HL.out.there (by omega)
          obtain ⟨pl, h12, _⟩ := (HL.out.below HD.out.low).get i hi
          have d0 := h12.1
          have d1 := h12.2.1
          have d5 := h12.2.2.2.2.2.1
          have hi1 : (i : Int) < (l.length : Int) := by omega
          have hi2 : 0 ≤ (i : Int) := by omega
          clear h12 e1
          obtain ⟨r, hr⟩ : ∃ r, l[i] = r := ⟨_, rfl⟩
          rw [hr] at d0 d1 d5 HF
          clear hr
          obtain ⟨F, hFF⟩ : ∃ F, (firstL (l.drop (i + 1)) (m : Int)).getD 0 = F := ⟨_, rfl⟩
          have HG := toHid (show (firstL (l.drop i) (m : Int)).getD 0 = if chg r = true ∧ r.page = m then r.lsn else F by
            rw [HF.out]
            by_cases hc : chg r = true ∧ r.page = (m : Int)
            · rw [if_pos hc, if_pos hc]; rfl
            · rw [if_neg hc, if_neg hc]; exact hFF)
          rw [hFF]
          clear hFF HF
          by_cases hpg : r.page = (m : Int)
          · have p1 : (r.page == (m : Int)) = true := by simp [hpg]
            by_cases k1 : r.kind = 1
            · have q1 : (r.kind == 1) = true := by simp [k1]
              rw [if_pos ⟨by simp [chg, k1], hpg⟩] at HG
              clear k1 hpg
              go_wp2_with fail
              go_roundw
              case rel => exact ⟨i, by omega, by go_num, by rw [HG.out], trivial⟩
              case measure => simp [intOf]
            · have q1 : (r.kind == 1) = false := by simp [k1]
              by_cases k2 : r.kind = 2
              · have q2 : (r.kind == 2) = true := by simp [k2]
                rw [if_pos ⟨by simp [chg, k2], hpg⟩] at HG
                clear k1 k2 hpg
                go_wp2_with fail
                go_roundw
                case rel => exact ⟨i, by omega, by go_num, by rw [HG.out], trivial⟩
                case measure => simp [intOf]
              · have q2 : (r.kind == 2) = false := by simp [k2]
                rw [if_neg (by rintro ⟨h, _⟩; simp [chg, k1, k2] at h)] at HG
                clear k1 k2 hpg
                go_wp2_with fail
                go_roundw
                case rel => exact ⟨i, by omega, by go_num, by rw [HG.out], trivial⟩
                case measure => simp [intOf]
          · have p1 : (r.page == (m : Int)) = false := by simp [hpg]
            rw [if_neg (by rintro ⟨_, h⟩; exact hpg h)] at HG
            by_cases k1 : r.kind = 1
            · have q1 : (r.kind == 1) = true := by simp [k1]
              clear k1 hpg
              go_wp2_with fail
              go_roundw
              case rel => exact ⟨i, by omega, by go_num, by rw [HG.out], trivial⟩
              case measure => simp [intOf]
            · have q1 : (r.kind == 1) = false := by simp [k1]
              by_cases k2 : r.kind = 2
              · have q2 : (r.kind == 2) = true := by simp [k2]
                clear k1 k2 hpg
                go_wp2_with fail
                go_roundw
                case rel => exact ⟨i, by omega, by go_num, by rw [HG.out], trivial⟩
                case measure => simp [intOf]
              · have q2 : (r.kind == 2) = false := by simp [k2]
                clear k1 k2 hpg
                go_wp2_with fail
                go_roundw
                case rel => exact ⟨i, by omega, by go_num, by rw [HG.out], trivial⟩
                case measure => simp [intOf]
        · obtain rfl : j = 0 := by omega
          rw [List.drop_zero]
          have HSu := toHid (dirsL_succ l m)
          cases hf : firstL l (m : Int) with
          | none =>
            rw [hf] at HSu
            clear hf
            go_wp2_with fail
            go_roundw
            case rel => exact ⟨m + 1, by omega, by go_num, by rw [HSu.out]; simp, by rw [HSu.out]; simp, HD.out⟩
            case measure => simp [intOf]; omega
          | some n1 =>
            rw [hf] at HSu
            simp only [Option.map_some, Option.toList_some] at HSu
            have h16 := HN16.out _ _ hf
            obtain ⟨hk1, hk2⟩ := dirs_get hlt hf
            have hRS := redo_snoc (dirsL l m) ((m : Int), n1)
            obtain ⟨Y, hY⟩ : ∃ Y, dirsL l m = Y := ⟨_, rfl⟩
            obtain ⟨dg, rfl, hdl, y0, y1⟩ := dcell HD.out.row (k := (dirsL l m).length) hk1
            rw [hk2] at y0 y1
            simp only at y0 y1
            rw [hY] at y0 y1 hk1 HSu hRS ⊢
            have hk3 : ¬ ((dirsL l 16).length : Int) ≤ (Y.length : Int) := by omega
            have hk4 : (Y.length : Int) < ((dirsL l 16).length : Int) := by omega
            have hk5 : 0 ≤ (Y.length : Int) := by omega
            have q0 : ((n1 : Int) == 0) = false := by simp; omega
            have HRS := toHid hRS
            obtain ⟨R, hR⟩ : ∃ R, redoL Y = R := ⟨_, rfl⟩
            rw [hR] at HRS ⊢
            clear hf hk2 hY hR hRS
            simp only [Option.getD_some]
            by_cases hR0 : R = 0
            · have r0 : ((R : Int) == 0) = true := by simp [hR0]
              rw [if_pos (.inl hR0)] at HRS
              clear hR0
              go_wp2_with fail
              go_roundw
              case rel => exact ⟨m + 1, by omega, by go_num, by rw [HSu.out]; simp, by rw [HSu.out, HRS.out], HD.out⟩
              case measure => simp [intOf]; omega
            · have r0 : ((R : Int) == 0) = false := by simp [hR0]
              by_cases hRl : n1 < R
              · have r1 : (n1 : Int) < (R : Int) := by omega
                rw [if_pos (.inr hRl)] at HRS
                clear hR0
                go_wp2_with fail
                go_roundw
                case rel => exact ⟨m + 1, by omega, by go_num, by rw [HSu.out]; simp, by rw [HSu.out, HRS.out], HD.out⟩
                case measure => simp [intOf]; omega
              · have r1 : ¬ (n1 : Int) < (R : Int) := by omega
                rw [if_neg (by rintro (h | h) <;> contradiction)] at HRS
                clear hR0
                go_wp2_with fail
                go_roundw
                case rel => exact ⟨m + 1, by omega, by go_num, by rw [HSu.out]; simp, by rw [HSu.out, HRS.out], HD.out⟩
                case measure => simp [intOf]; omega
    · obtain rfl : m = 16 := by omega
      have HV := toHid (lives10 wr)
      have HLo := toHid HD.out.low
      go_wp2_with fail
      refine Calls.mono HV.out ?_
      rintro e w3 ⟨rfl, hb3⟩
      go_wp2
      go_ret
      exact ⟨rfl, HLo.out.trans (hb3.mono HLo.out.size)⟩
end Go.Proofs.Yticnkppnpfgceaa.Mg
