/-
  The walk of FindEnds.
-/
import Derived.Test.YticnkppnpfgceaaFEa
import Derived.Test.YticnkppnpfgceaaWNx
namespace Go.Proofs.Yticnkppnpfgceaa.Mg
open Go.RowKit Go.Maps

theorem tcell {W : World} {B c : Nat} {va : Option Addr} {d : List (Int × Gt)} (h : W.ownsRow B 57 3 (.slice va d.length c) d.length (tCells d)) {k : Nat} (hk : k < d.length) : ∃ g, va = some ⟨g, 0, none⟩ ∧ g < W.heap.size ∧ W.cell? ⟨g, k * 3, none⟩ = some (.int .i64 d[k].1) ∧ W.cell? ⟨g, k * 3 + 1, none⟩ = some (.int .i64 d[k].2.st) ∧ W.cell? ⟨g, k * 3 + 2, none⟩ = some (.int .u64 (d[k].2.last : Int)) := by
  have hf : ∀ j, j < 3 → (tCells d)[k * 3 + j]? = [Value.int .i64 d[k].1, .int .i64 d[k].2.st, .int .u64 (d[k].2.last : Int)][j]? := fun j hj => by
    unfold tCells
    rw [flat_get (fun p : Int × Gt => [Value.int .i64 p.1, .int .i64 p.2.st, .int .u64 (p.2.last : Int)]) 3 (fun _ => rfl) d k j hj, List.getElem?_eq_getElem hk]
    rfl
  rcases h.2 with ⟨h0, h1⟩ | ⟨g, cap, cur, e, _⟩
  · omega
  · injection e with e1
    subst e1
    have c0 := h.cells (g := g) rfl (k * 3) _ (hf 0 (by omega))
    have c1 := h.cells (g := g) rfl (k * 3 + 1) _ (hf 1 (by omega))
    have c2 := h.cells (g := g) rfl (k * 3 + 2) _ (hf 2 (by omega))
    rw [addr_add] at c0 c1 c2
    exact ⟨g, rfl, World.block_lt_of_cell? _ _ c0, c0, c1, c2⟩

/-- What FindEnds holds: its variable has what All told. -/
structure Ek (w W : World) (b : Nat) (t : List (Int × Gt)) (va : Option Addr) (vc : Nat) (na : Option Addr) (nc : Nat) (vd : Value) (n : Nat) : Prop where
  low : Below w.heap.size w W
  box : W.heap[b]? = some (.cells #[.slice va t.length vc, .slice na t.length nc, vd, .int .u64 (n : Int)] 32)
  row : W.ownsRow w.heap.size 57 3 (.slice va t.length vc) t.length (tCells t)

set_option maxRecDepth 100000 in
set_option maxHeartbeats 8000000 in
theorem ends_walk (a : Option Addr) (c : Nat) (l : List Rc) (id : Int) (w : World) (hL : SlR w a l) (hl : l.length ≤ 140737488355328) (_hnil : a = none → c = 0) (hW : ∀ r, r ∈ l → Wd r) :
    Calls Try.prog 6 #[.slice a l.length c, .int .i64 id] w fun e w' => e = .returned (.bool true) ∧ Below w.heap.size w w' := by
  have HS := toHid (small9 a c l w hL hl hW)
  have HL := toHid hL
  clear hL hW
  go_enter Try.func6, Try.ntmps6
  go_wp2_with fail
  refine Calls.mono HS.out ?_
  rintro e w1 ⟨b, rfl, hb, n, rfl⟩
  have HB1 := toHid (below_drew (w := w) n)
  clear HS
  cases b
  · clear hb
    have HV := toHid (lives10 (w.drewN n))
    go_wp2_with fail
    refine Calls.mono HV.out ?_
    rintro e w2 ⟨rfl, hb2⟩
    go_wp2
    go_ret
    exact ⟨rfl, HB1.out.trans hb2⟩
  obtain ⟨hl3, hlim⟩ := lim_tot (hb rfl)
  have HLim := toHid hlim
  have HA := toHid (all12 a c l w (w.drewN n) HL.out HB1.out (by omega) HLim.out)
  clear hb hlim
  go_wp2_with fail
  refine Calls.mono HA.out ?_
  rintro e w2 ⟨vt, vn, vd, rfl, hR, hb2⟩
  have HB2 := toHid (show Below w.heap.size w w2 from HB1.out.trans hb2)
  obtain ⟨ta, tc, rfl⟩ := ownsRow_shape2 hR.t
  obtain ⟨na, nc, rfl⟩ := ownsRow_shape2 hR.n
  obtain ⟨va, vc, rfl⟩ := ownsRow_shape2 hR.d
  have HRt := toHid (show w2.ownsRow w.heap.size 57 3 _ _ _ from hR.t)
  clear hb2 hR HA HB1
  cases he : logB l
  · have g0 : ((argE false : Int) != 0) = true := by decide
    have hX : allX l = Lf.nil := by simp [allX, he]
    rw [hX] at HRt ⊢
    clear hX
    go_wp2_with fail
    have HV := toHid (fun o => lives10 (w2.alloc o))
    have HB3 := toHid (fun o => HB2.out.alloc HB2.out.size o)
    refine Calls.mono (HV.out _) ?_
    rintro e w3 ⟨rfl, hb3⟩
    go_wp2
    go_ret
    exact ⟨rfl, (HB3.out _).trans (hb3.mono (HB3.out _).size)⟩
  have g0 : ((argE true : Int) != 0) = false := by decide
  have HFo := toHid (found_all he id)
  have HOk := toHid (all_ok l).t
  have hk1 : (allX l).t.length ≤ 300 := by
    have := (over_len Lf.nil l).1
    rw [show allX l = overL Lf.nil l by simp [allX, he]]
    rw [show Lf.nil.t.length = 0 from rfl] at this
    omega
  generalize (allX l).t = T at *
  generalize (allX l).d = D at *
  generalize redoL D = R at *
  generalize D.length = dl at *
  have HEk := toHid (show Ek w (w2.alloc (.cells #[.slice ta T.length tc, .slice na T.length nc, .slice va dl vc, .int .u64 (R : Int)] 32)) w2.heap.size T ta tc na nc (.slice va dl vc) R from ⟨HB2.out.alloc HB2.out.size _, heap_alloc_new _ _, own_below HRt.out ((Below.refl _ _).alloc (Nat.le_refl _) _)⟩)
  clear he
  go_wp2_with fail
  go_loopw [7, 8] (fun la i W => ∃ k : Nat, k ≤ l.length ∧ i = .int .i64 k ∧ la = .int .u64 (lastL (l.take k) id : Int) ∧ Ek w W w2.heap.size T ta tc na nc (.slice va dl vc) R) (fun _ i _ => l.length - (intOf i).toNat)
  case atStart => exact ⟨0, Nat.zero_le _, rfl, rfl, HEk.out⟩
  case round =>
    obtain ⟨k, hk, rfl, rfl, hek⟩ := hrel
    have HE := toHid hek
    clear hek HEk
    by_cases hlt : k < l.length
    · obtain ⟨b, o, rfl, hbl⟩ := HL.out.there (by omega)
      obtain ⟨pl, h12, _⟩ := (HL.out.below HE.out.low).get k hlt
      have d0 := h12.1
      have d1 := h12.2.1
      have d2 := h12.2.2.1
      have hi1 : (k : Int) < (l.length : Int) := by omega
      have hi2 : 0 ≤ (k : Int) := by omega
      have HSn := toHid (show lastL (l.take (k + 1)) id = lastF id (lastL (l.take k) id) l[k] by rw [List.take_succ_eq_append_getElem hlt, lastL_snoc])
      obtain ⟨r, hr⟩ : ∃ r, l[k] = r := ⟨_, rfl⟩
      rw [hr] at d0 d1 d2 HSn
      obtain ⟨P, hP⟩ : ∃ P, lastL (l.take k) id = P := ⟨_, rfl⟩
      rw [hP] at HSn ⊢
      clear h12 hr hP
      by_cases ht : r.txn = id
      · have t1 : (r.txn != id) = false := by simp [ht]
        by_cases k7 : r.kind = 7
        · have q7 : (r.kind == 7) = true := by simp [k7]
          have HV := toHid (show lastF id P r = P by simp [lastF, k7])
          clear k7 ht
          go_wp2_with fail
          go_roundw
          case rel => exact ⟨k + 1, by omega, by go_num, by rw [HSn.out, HV.out], HE.out⟩
          case measure => simp [intOf]; omega
        have q7 : (r.kind == 7) = false := by simp [k7]
        by_cases k8 : r.kind = 8
        · have q8 : (r.kind == 8) = true := by simp [k8]
          have HV := toHid (show lastF id P r = P by simp [lastF, k8])
          clear k7 k8 ht
          go_wp2_with fail
          go_roundw
          case rel => exact ⟨k + 1, by omega, by go_num, by rw [HSn.out, HV.out], HE.out⟩
          case measure => simp [intOf]; omega
        have q8 : (r.kind == 8) = false := by simp [k8]
        by_cases k3 : r.kind = 3
        · have q3 : (r.kind == 3) = true := by simp [k3]
          have HV := toHid (show lastF id P r = 0 by simp [lastF, k3, ht])
          clear k7 k8 k3 ht
          go_wp2_with fail
          go_roundw
          case rel => exact ⟨k + 1, by omega, by go_num, by rw [HSn.out, HV.out]; rfl, HE.out⟩
          case measure => simp [intOf]; omega
        have q3 : (r.kind == 3) = false := by simp [k3]
        by_cases k5 : r.kind = 5
        · have q5 : (r.kind == 5) = true := by simp [k5]
          have HV := toHid (show lastF id P r = 0 by simp [lastF, k5, ht])
          clear k7 k8 k3 k5 ht
          go_wp2_with fail
          go_roundw
          case rel => exact ⟨k + 1, by omega, by go_num, by rw [HSn.out, HV.out]; rfl, HE.out⟩
          case measure => simp [intOf]; omega
        have q5 : (r.kind == 5) = false := by simp [k5]
        have HV := toHid (show lastF id P r = r.lsn by simp [lastF, k7, k8, k3, k5, ht])
        clear k7 k8 k3 k5 ht
        go_wp2_with fail
        go_roundw
        case rel => exact ⟨k + 1, by omega, by go_num, by rw [HSn.out, HV.out], HE.out⟩
        case measure => simp [intOf]; omega
      · have t1 : (r.txn != id) = true := by simp [ht]
        have HV := toHid (show lastF id P r = P by simp [lastF, ht])
        clear ht
        go_wp2_with fail
        go_roundw
        case rel => exact ⟨k + 1, by omega, by go_num, by rw [HSn.out, HV.out], HE.out⟩
        case measure => simp [intOf]; omega
    · obtain rfl : k = l.length := by omega
      rw [List.take_length]
      go_wp2_with fail
      go_loopw [9, 10] (fun fo i W => ∃ k : Nat, k ≤ T.length ∧ i = .int .i64 k ∧ fo = .int .u64 (foundL (T.take k) id : Int) ∧ ∃ q, W = wr.drewN q) (fun _ i _ => T.length - (intOf i).toNat)
      case atStart => exact ⟨0, Nat.zero_le _, rfl, rfl, 0, rfl⟩
      case round =>
        obtain ⟨k, hk2, rfl, rfl, q, rfl⟩ := hrel
        obtain ⟨x0, x1, x2, x3, _, _, _, _⟩ := cellsF HE.out.box
        by_cases hk3 : k < T.length
        · obtain ⟨tg, rfl, htl, y0, y1, y2⟩ := tcell HE.out.row hk3
          have hi1 : (k : Int) < (T.length : Int) := by omega
          have hi2 : 0 ≤ (k : Int) := by omega
          have HSn := toHid (show foundL (T.take (k + 1)) id = foundF id (foundL (T.take k) id) T[k] by rw [List.take_succ_eq_append_getElem hk3, foundL_snoc])
          obtain ⟨P, hP⟩ : ∃ P, foundL (T.take k) id = P := ⟨_, rfl⟩
          rw [hP] at HSn ⊢
          clear hP
          have HOr := toHid (fun j (hj : j + 1 = k) => (show T[j].1 < T[k].1 from by
            have := List.pairwise_iff_getElem.1 HOk.out j k (by simp; omega) (by simp; omega) (by omega)
            simpa using this))
          obtain ⟨⟨i1, g1⟩, hp⟩ : ∃ p, T[k] = p := ⟨_, rfl⟩
          rw [hp] at y0 y1 y2 HSn
          simp only at y0 y1 y2
          have HBk := toHid (fun j (hj : j + 1 = k) => tcell HE.out.row (k := j) (by omega))
          have HVv := toHid (show foundF id P (i1, g1) = if i1 = id then g1.last else P from rfl)
          rw [hp] at HOr
          simp only at HOr
          by_cases hz : k = 0
          · subst hz
            clear hp HBk HOr
            by_cases hid : i1 = id
            · have t1 : (i1 == id) = true := by simp [hid]
              rw [if_pos hid] at HVv
              clear hid
              go_wp2_with fail
              go_quiet (fail)
              go_wp2
              go_roundw
              case rel => exact ⟨1, by omega, by go_num, by rw [HSn.out, HVv.out], _, rfl⟩
              case measure => simp [intOf]; omega
            · have t1 : (i1 == id) = false := by simp [hid]
              rw [if_neg hid] at HVv
              clear hid
              go_wp2_with fail
              go_quiet (fail)
              go_wp2
              go_roundw
              case rel => exact ⟨1, by omega, by go_num, by rw [HSn.out, HVv.out], _, rfl⟩
              case measure => simp [intOf]; omega
          · obtain ⟨j, rfl⟩ : ∃ j, k = j + 1 := ⟨k - 1, by omega⟩
            obtain ⟨tg2, e2, _, z0, _, _⟩ := HBk.out j rfl
            injection e2 with e2
            injection e2 with e2
            subst e2
            have hlt := HOr.out j rfl
            obtain ⟨i2, hi2e⟩ : ∃ i2, T[j].1 = i2 := ⟨_, rfl⟩
            rw [hi2e] at z0 hlt
            have hge : ¬ i1 ≤ i2 := by omega
            have hge2 : decide (i1 ≤ i2) = false := by simp; omega
            have hpos : (0 : Int) < ((j + 1 : Nat) : Int) := by omega
            have hsub : ((j + 1 : Nat) : Int) - 1 = (j : Int) := by omega
            have hj1 : (j : Int) < (T.length : Int) := by omega
            have hj2 : 0 ≤ (j : Int) := by omega
            clear hp HBk HOr hi2e hz
            by_cases hid : i1 = id
            · have t1 : (i1 == id) = true := by simp [hid]
              rw [if_pos hid] at HVv
              clear hid
              go_wp2_with fail
              go_quiet (fail)
              go_wp2
              go_roundw
              case rel => exact ⟨j + 1 + 1, by omega, by go_num, by rw [HSn.out, HVv.out], _, rfl⟩
              case measure => simp [intOf]; omega
            · have t1 : (i1 == id) = false := by simp [hid]
              rw [if_neg hid] at HVv
              clear hid
              go_wp2_with fail
              go_quiet (fail)
              go_wp2
              go_roundw
              case rel => exact ⟨j + 1 + 1, by omega, by go_num, by rw [HSn.out, HVv.out], _, rfl⟩
              case measure => simp [intOf]; omega
        · obtain rfl : k = T.length := by omega
          rw [List.take_length, HFo.out]
          have HV := toHid (lives10 (wr.drewN q))
          have HLo := toHid (show Below w.heap.size w (wr.drewN q) from HE.out.low.trans ((below_drewN1 wr q).mono HE.out.low.size))
          go_wp2_with fail
          refine Calls.mono HV.out ?_
          rintro e w3 ⟨rfl, hb3⟩
          go_wp2
          go_ret
          exact ⟨rfl, HLo.out.trans (hb3.mono HLo.out.size)⟩
end Go.Proofs.Yticnkppnpfgceaa.Mg
