/-
  Texts put together: FDa WDi FRs FRe.
-/
import Derived.Test.YticnkppnpfgceaaFCj
import Derived.Test.YticnkppnpfgceaaWNx
import Derived.Test.YticnkppnpfgceaaFRp
import Derived.Test.YticnkppnpfgceaaXE
namespace Go.Proofs.Yticnkppnpfgceaa.Mg
open Go.RowKit

/-- The LSN of the first change of a page. -/
def firstL : List Rc → Int → Option Nat
  | [], _ => none
  | r :: l, p => if chg r = true ∧ r.page = p then some r.lsn else firstL l p
theorem firstL_drop {l : List Rc} {i : Nat} (h : i < l.length) (p : Int) : firstL (l.drop i) p = if chg l[i] = true ∧ l[i].page = p then some l[i].lsn else firstL (l.drop (i + 1)) p := by
  rw [List.drop_eq_getElem_cons h, firstL]
theorem look_step {x : Lf} (h : x.Ok) (r : Rc) (p : Int) : look (stepL x r).d p = (look x.d p).or (if chg r = true ∧ r.page = p then some r.lsn else none) := by
  simp only [stepL]
  cases hc : chg r
  · simp
  · simp only [if_true, true_and]
    unfold soilL
    by_cases e : r.page = p
    · subst e
      cases hk : look x.d r.page with
      | none => simp [look_putL h.d]
      | some n => simp [hk]
    · cases hk : look x.d r.page with
      | none => simp [look_putL h.d, e, show ¬ p = r.page from fun h => e h.symm]
      | some n => simp [e]
theorem look_over {x : Lf} (h : x.Ok) (l : List Rc) (p : Int) : look (overL x l).d p = (look x.d p).or (firstL l p) := by
  induction l generalizing x with
  | nil => simp [overL, firstL]
  | cons r l ih =>
    show look (overL (stepL x r) l).d p = _
    rw [ih (h.step r), look_step h, firstL]
    by_cases e : chg r = true ∧ r.page = p
    · rw [if_pos e, if_pos e]; cases look x.d p <;> simp
    · rw [if_neg e, if_neg e]; cases look x.d p <;> simp
/-- The rows of the pages below a number. -/
def dirsL (l : List Rc) (m : Nat) : List (Int × Nat) := (List.range m).filterMap fun p : Nat => (firstL l (p : Int)).map fun n => ((p : Int), n)
theorem dirsL_succ (l : List Rc) (m : Nat) : dirsL l (m + 1) = dirsL l m ++ ((firstL l m).map fun n => ((m : Int), n)).toList := by
  unfold dirsL
  rw [List.range_succ, List.filterMap_append]
  congr 1
theorem dirsL_low (l : List Rc) (m : Nat) : ∀ p, p ∈ dirsL l m → 0 ≤ p.1 ∧ p.1 < m := fun p hp => by
  unfold dirsL at hp
  obtain ⟨q, hq, e⟩ := List.mem_filterMap.1 hp
  rw [List.mem_range] at hq
  cases hf : firstL l q with
  | none => rw [hf] at e; simp at e
  | some n => rw [hf] at e; simp at e; rw [← e]; simp; omega
theorem dirsL_ris (l : List Rc) (m : Nat) : Ris (dirsL l m) := by
  induction m with
  | zero => simp [dirsL, Ris]
  | succ m ih =>
    rw [dirsL_succ]
    unfold Ris
    rw [List.map_append, List.pairwise_append]
    refine ⟨ih, ?_, fun a ha b hb => ?_⟩
    · cases firstL l m <;> simp
    · obtain ⟨p, hp, rfl⟩ := List.mem_map.1 ha
      have h1 := dirsL_low l m p hp
      cases hf : firstL l m with
      | none => rw [hf] at hb; simp at hb
      | some n => rw [hf] at hb; simp at hb; omega
theorem look_append {l m : List (Int × Nat)} {x : Int} : look (l ++ m) x = (look l x).or (look m x) := by
  induction l with
  | nil => simp [look]
  | cons p r ih =>
    obtain ⟨k, u⟩ := p
    simp only [List.cons_append, look]
    split
    · simp
    · exact ih
theorem look_dirs (l : List Rc) (m : Nat) (x : Int) : look (dirsL l m) x = if 0 ≤ x ∧ x < m then firstL l x else none := by
  induction m with
  | zero => rw [if_neg (by omega)]; rfl
  | succ m ih =>
    rw [dirsL_succ, look_append, ih]
    by_cases e : x = m
    · subst e
      rw [if_neg (by omega), if_pos (by omega)]
      cases firstL l m <;> simp [look]
    · have h2 : look (((firstL l m).map fun n => ((m : Int), n)).toList) x = none := by
        cases firstL l m with
        | none => rfl
        | some n => simp [look]; omega
      rw [h2]
      by_cases h3 : 0 ≤ x ∧ x < m
      · rw [if_pos h3, if_pos (by omega)]; simp
      · rw [if_neg h3, if_neg (by omega)]; rfl
theorem firstL_page {l : List Rc} {p : Int} {n : Nat} (h : firstL l p = some n) : ∃ r, r ∈ l ∧ r.page = p ∧ r.lsn = n := by
  induction l with
  | nil => simp [firstL] at h
  | cons r l ih =>
    rw [firstL] at h
    split at h
    · rename_i e; simp at h; exact ⟨r, by simp, e.2, h⟩
    · obtain ⟨q, hq, h1⟩ := ih h; exact ⟨q, by simp [hq], h1⟩
theorem dirs_all {l : List Rc} (h : logB l = true) : (allX l).d = dirsL l 16 := by
  have hm : ∀ r, r ∈ l → mayB r = true := fun r hr => by
    unfold logB at h
    rw [Bool.and_eq_true] at h
    exact List.all_eq_true.1 h.1 r hr
  have e : allX l = overL Lf.nil l := by simp [allX, h]
  rw [e]
  refine ris_uniq (Lf.Ok.nil.over l).d (dirsL_ris l 16) fun x => ?_
  rw [look_over Lf.Ok.nil, look_dirs]
  show (look [] x).or _ = _
  rw [show look ([] : List (Int × Nat)) x = none from rfl]
  by_cases h3 : 0 ≤ x ∧ x < (16 : Nat)
  · rw [if_pos h3]; simp
  · rw [if_neg h3]
    cases hf : firstL l x with
    | none => rfl
    | some n =>
      obtain ⟨r, hr, hp, _⟩ := firstL_page hf
      have := may_page_ok (hm r hr)
      omega
theorem first_pos {l : List Rc} (h : logB l = true) {p : Int} {n : Nat} (hf : firstL l p = some n) : 16 ≤ n := by
  obtain ⟨r, hr, _, e⟩ := firstL_page hf
  have := ((log_down h).1 r hr).1
  omega
theorem dirs_get {l : List Rc} {m : Nat} (hm : m < 16) {n : Nat} (hf : firstL l m = some n) : ∃ h : (dirsL l m).length < (dirsL l 16).length, (dirsL l 16)[(dirsL l m).length] = ((m : Int), n) := by
  have key : ∀ j, m + 1 ≤ j → ∃ t, dirsL l j = dirsL l (m + 1) ++ t := by
    intro j hj
    induction j with
    | zero => omega
    | succ j ih =>
      by_cases e : m = j
      · subst e; exact ⟨[], by simp⟩
      · obtain ⟨t, ht⟩ := ih (by omega)
        exact ⟨_, by rw [dirsL_succ, ht, List.append_assoc]⟩
  obtain ⟨t, ht⟩ := key 16 (by omega)
  have h2 : dirsL l (m + 1) = dirsL l m ++ [((m : Int), n)] := by rw [dirsL_succ, hf]; rfl
  rw [h2] at ht
  have hl : (dirsL l m).length < (dirsL l 16).length := by rw [ht]; simp
  refine ⟨hl, ?_⟩
  have : (dirsL l 16)[(dirsL l m).length]? = some ((m : Int), n) := by rw [ht]; simp
  rw [List.getElem?_eq_getElem hl] at this
  exact Option.some.inj this
end Go.Proofs.Yticnkppnpfgceaa.Mg

namespace Go.Proofs.Yticnkppnpfgceaa.Mg
open Go.RowKit Go.Maps

theorem dcell {W : World} {B c : Nat} {va : Option Addr} {d : List (Int × Nat)} (h : W.ownsRow B 60 2 (.slice va d.length c) d.length (dCells d)) {k : Nat} (hk : k < d.length) : ∃ g, va = some ⟨g, 0, none⟩ ∧ g < W.heap.size ∧ W.cell? ⟨g, k * 2, none⟩ = some (.int .i64 d[k].1) ∧ W.cell? ⟨g, k * 2 + 1, none⟩ = some (.int .u64 (d[k].2 : Int)) := by
  have hf : ∀ j, j < 2 → (dCells d)[k * 2 + j]? = [Value.int .i64 d[k].1, .int .u64 (d[k].2 : Int)][j]? := fun j hj => by
    unfold dCells
    rw [flat_get (fun p : Int × Nat => [Value.int .i64 p.1, .int .u64 (p.2 : Int)]) 2 (fun _ => rfl) d k j hj, List.getElem?_eq_getElem hk]
    rfl
  rcases h.2 with ⟨h0, h1⟩ | ⟨g, cap, cur, e, _⟩
  · omega
  · injection e with e1
    subst e1
    have c0 := h.cells (g := g) rfl (k * 2) _ (hf 0 (by omega))
    have c1 := h.cells (g := g) rfl (k * 2 + 1) _ (hf 1 (by omega))
    rw [addr_add] at c0 c1
    exact ⟨g, rfl, World.block_lt_of_cell? _ _ c0, c0, c1⟩

/-- What FindDirty holds: its variable has what All told. -/
structure Dk (w W : World) (b : Nat) (d : List (Int × Nat)) (vt vn : Value) (va : Option Addr) (vc n : Nat) : Prop where
  low : Below w.heap.size w W
  box : W.heap[b]? = some (.cells #[vt, vn, .slice va d.length vc, .int .u64 (n : Int)] 32)
  row : W.ownsRow w.heap.size 60 2 (.slice va d.length vc) d.length (dCells d)

set_option maxRecDepth 100000 in
set_option maxHeartbeats 8000000 in
theorem dirty_walk (a : Option Addr) (c : Nat) (l : List Rc) (w : World) (hL : SlR w a l) (hl : l.length ≤ 140737488355328) (_hnil : a = none → c = 0) (hW : ∀ r, r ∈ l → Wd r) :
    Calls Try.prog 7 #[.slice a l.length c] w fun e w' => e = .returned (.bool true) ∧ Below w.heap.size w w' := by
  have HS := toHid (small9 a c l w hL hl hW)
  have HL := toHid hL
  clear hL hW
  go_enter Try.func7, Try.ntmps7
  go_wp2_with fail
  refine Calls.mono HS.out ?_
  rintro e w1 ⟨b, rfl, hb, n, rfl⟩
  have HB1 := toHid (below_drew (w := w) n)
  clear HS
  cases b
  · clear hb
    have HV := toHid (lives10 (w.drewN n))
    go_wp2_with fail
    refine Calls.mono HV.out ?_
    rintro e w2 ⟨rfl, hb2⟩
    go_wp2
    go_ret
    exact ⟨rfl, HB1.out.trans hb2⟩
  obtain ⟨hl3, hlim⟩ := lim_tot (hb rfl)
  have HLim := toHid hlim
  have HA := toHid (all12 a c l w (w.drewN n) HL.out HB1.out (by omega) HLim.out)
  clear hb hlim
  go_wp2_with fail
  refine Calls.mono HA.out ?_
  rintro e w2 ⟨vt, vn, vd, rfl, hR, hb2⟩
  have HB2 := toHid (show Below w.heap.size w w2 from HB1.out.trans hb2)
  obtain ⟨ta, tc, rfl⟩ := ownsRow_shape2 hR.t
  obtain ⟨na, nc, rfl⟩ := ownsRow_shape2 hR.n
  obtain ⟨va, vc, rfl⟩ := ownsRow_shape2 hR.d
  have HRd := toHid (show w2.ownsRow w.heap.size 60 2 _ _ _ from hR.d)
  clear hb2 hR HA HB1
  cases he : logB l
  · have g0 : ((argE false : Int) != 0) = true := by decide
    have hX : allX l = Lf.nil := by simp [allX, he]
    rw [hX] at HRd ⊢
    clear hX
    go_wp2_with fail
    have HV := toHid (fun o => lives10 (w2.alloc o))
    have HB3 := toHid (fun o => HB2.out.alloc HB2.out.size o)
    refine Calls.mono (HV.out _) ?_
    rintro e w3 ⟨rfl, hb3⟩
    go_wp2
    go_ret
    exact ⟨rfl, (HB3.out _).trans (hb3.mono (HB3.out _).size)⟩
  have g0 : ((argE true : Int) != 0) = false := by decide
  have hD := dirs_all he
  rw [hD] at HRd ⊢
  have HE := toHid he
  have HN16 := toHid (fun m n hf => first_pos he (p := m) (n := n) hf)
  have hd1 : (dirsL l 16).length ≤ 16 := by
    unfold dirsL
    have := List.length_filterMap_le (fun p : Nat => (firstL l (p : Int)).map fun n => ((p : Int), n)) (List.range 16)
    simpa using this
  have HDk := toHid (show Dk w (w2.alloc (.cells #[.slice ta (allX l).t.length tc, .slice na (allX l).t.length nc, .slice va (dirsL l 16).length vc, .int .u64 (redoL (dirsL l 16) : Int)] 32)) w2.heap.size (dirsL l 16) (.slice ta (allX l).t.length tc) (.slice na (allX l).t.length nc) va vc (redoL (dirsL l 16)) from ⟨HB2.out.alloc HB2.out.size _, heap_alloc_new _ _, own_below HRd.out ((Below.refl _ _).alloc (Nat.le_refl _) _)⟩)
  clear he hD
  generalize (allX l).t.length = nt at *
  go_wp2_with fail
  go_loopw [5, 6, 7] (fun le k p W => ∃ m : Nat, m ≤ 16 ∧ p = .int .i64 m ∧ k = .int .i64 ((dirsL l m).length : Int) ∧ le = .int .u64 (redoL (dirsL l m) : Int) ∧ Dk w W w2.heap.size (dirsL l 16) (.slice ta nt tc) (.slice na nt nc) va vc (redoL (dirsL l 16))) (fun _ _ p _ => 16 - (intOf p).toNat)
  case atStart => exact ⟨0, by omega, rfl, rfl, rfl, HDk.out⟩
  case round =>
    obtain ⟨m, hm, rfl, rfl, rfl, hdk⟩ := hrel
    have HD := toHid hdk
    have hbx := hdk.box
    clear hdk HDk
    obtain ⟨x0, x1, x2, x3, _, _, _, _⟩ := cellsF hbx
    clear hbx
    by_cases hlt : m < 16
    · have hm1 : (m : Int) < 16 := by omega
      go_wp2_with fail
      go_loopw [8, 9] (fun f i W => ∃ j : Nat, j ≤ l.length ∧ i = .int .i64 ((j : Int) - 1) ∧ f = .int .u64 (((firstL (l.drop j) (m : Int)).getD 0 : Nat) : Int) ∧ W = wr) (fun _ i _ => (intOf i + 1).toNat)
      case atStart => exact ⟨l.length, Nat.le_refl _, rfl, by simp [firstL], rfl⟩
      case round =>
        obtain ⟨j, hj, rfl, rfl, rfl⟩ := hrel
        by_cases h0 : 0 < j
        · obtain ⟨i, rfl⟩ : ∃ i, j = i + 1 := ⟨j - 1, by omega⟩
          have e1 : ((i + 1 : Nat) : Int) - 1 = (i : Int) := by omega
          rw [e1]
          have hi : i < l.length := by omega
          have HF := toHid (firstL_drop hi (m : Int))
          obtain ⟨b, o, rfl, hbl⟩ := HL.out.there (by omega)
          obtain ⟨pl, h12, _⟩ := (HL.out.below HD.out.low).get i hi
          have d0 := h12.1
          have d1 := h12.2.1
          have d5 := h12.2.2.2.2.2.1
          have hi1 : (i : Int) < (l.length : Int) := by omega
          have hi2 : 0 ≤ (i : Int) := by omega
          clear h12 e1
          obtain ⟨r, hr⟩ : ∃ r, l[i] = r := ⟨_, rfl⟩
          rw [hr] at d0 d1 d5 HF
          clear hr
          obtain ⟨F, hFF⟩ : ∃ F, (firstL (l.drop (i + 1)) (m : Int)).getD 0 = F := ⟨_, rfl⟩
          have HG := toHid (show (firstL (l.drop i) (m : Int)).getD 0 = if chg r = true ∧ r.page = m then r.lsn else F by
            rw [HF.out]
            by_cases hc : chg r = true ∧ r.page = (m : Int)
            · rw [if_pos hc, if_pos hc]; rfl
            · rw [if_neg hc, if_neg hc]; exact hFF)
          rw [hFF]
          clear hFF HF
          by_cases hpg : r.page = (m : Int)
          · have p1 : (r.page == (m : Int)) = true := by simp [hpg]
            by_cases k1 : r.kind = 1
            · have q1 : (r.kind == 1) = true := by simp [k1]
              rw [if_pos ⟨by simp [chg, k1], hpg⟩] at HG
              clear k1 hpg
              go_wp2_with fail
              go_roundw
              case rel => exact ⟨i, by omega, by go_num, by rw [HG.out], trivial⟩
              case measure => simp [intOf]
            · have q1 : (r.kind == 1) = false := by simp [k1]
              by_cases k2 : r.kind = 2
              · have q2 : (r.kind == 2) = true := by simp [k2]
                rw [if_pos ⟨by simp [chg, k2], hpg⟩] at HG
                clear k1 k2 hpg
                go_wp2_with fail
                go_roundw
                case rel => exact ⟨i, by omega, by go_num, by rw [HG.out], trivial⟩
                case measure => simp [intOf]
              · have q2 : (r.kind == 2) = false := by simp [k2]
                rw [if_neg (by rintro ⟨h, _⟩; simp [chg, k1, k2] at h)] at HG
                clear k1 k2 hpg
                go_wp2_with fail
                go_roundw
                case rel => exact ⟨i, by omega, by go_num, by rw [HG.out], trivial⟩
                case measure => simp [intOf]
          · have p1 : (r.page == (m : Int)) = false := by simp [hpg]
            rw [if_neg (by rintro ⟨_, h⟩; exact hpg h)] at HG
            by_cases k1 : r.kind = 1
            · have q1 : (r.kind == 1) = true := by simp [k1]
              clear k1 hpg
              go_wp2_with fail
              go_roundw
              case rel => exact ⟨i, by omega, by go_num, by rw [HG.out], trivial⟩
              case measure => simp [intOf]
            · have q1 : (r.kind == 1) = false := by simp [k1]
              by_cases k2 : r.kind = 2
              · have q2 : (r.kind == 2) = true := by simp [k2]
                clear k1 k2 hpg
                go_wp2_with fail
                go_roundw
                case rel => exact ⟨i, by omega, by go_num, by rw [HG.out], trivial⟩
                case measure => simp [intOf]
              · have q2 : (r.kind == 2) = false := by simp [k2]
                clear k1 k2 hpg
                go_wp2_with fail
                go_roundw
                case rel => exact ⟨i, by omega, by go_num, by rw [HG.out], trivial⟩
                case measure => simp [intOf]
        · obtain rfl : j = 0 := by omega
          rw [List.drop_zero]
          have HSu := toHid (dirsL_succ l m)
          cases hf : firstL l (m : Int) with
          | none =>
            rw [hf] at HSu
            clear hf
            go_wp2_with fail
            go_roundw
            case rel => exact ⟨m + 1, by omega, by go_num, by rw [HSu.out]; simp, by rw [HSu.out]; simp, HD.out⟩
            case measure => simp [intOf]; omega
          | some n1 =>
            rw [hf] at HSu
            simp only [Option.map_some, Option.toList_some] at HSu
            have h16 := HN16.out _ _ hf
            obtain ⟨hk1, hk2⟩ := dirs_get hlt hf
            have hRS := redo_snoc (dirsL l m) ((m : Int), n1)
            obtain ⟨Y, hY⟩ : ∃ Y, dirsL l m = Y := ⟨_, rfl⟩
            obtain ⟨dg, rfl, hdl, y0, y1⟩ := dcell HD.out.row (k := (dirsL l m).length) hk1
            rw [hk2] at y0 y1
            simp only at y0 y1
            rw [hY] at y0 y1 hk1 HSu hRS ⊢
            have hk3 : ¬ ((dirsL l 16).length : Int) ≤ (Y.length : Int) := by omega
            have hk4 : (Y.length : Int) < ((dirsL l 16).length : Int) := by omega
            have hk5 : 0 ≤ (Y.length : Int) := by omega
            have q0 : ((n1 : Int) == 0) = false := by simp; omega
            have HRS := toHid hRS
            obtain ⟨R, hR⟩ : ∃ R, redoL Y = R := ⟨_, rfl⟩
            rw [hR] at HRS ⊢
            clear hf hk2 hY hR hRS
            simp only [Option.getD_some]
            by_cases hR0 : R = 0
            · have r0 : ((R : Int) == 0) = true := by simp [hR0]
              rw [if_pos (.inl hR0)] at HRS
              clear hR0
              go_wp2_with fail
              go_roundw
              case rel => exact ⟨m + 1, by omega, by go_num, by rw [HSu.out]; simp, by rw [HSu.out, HRS.out], HD.out⟩
              case measure => simp [intOf]; omega
            · have r0 : ((R : Int) == 0) = false := by simp [hR0]
              by_cases hRl : n1 < R
              · have r1 : (n1 : Int) < (R : Int) := by omega
                rw [if_pos (.inr hRl)] at HRS
                clear hR0
                go_wp2_with fail
                go_roundw
                case rel => exact ⟨m + 1, by omega, by go_num, by rw [HSu.out]; simp, by rw [HSu.out, HRS.out], HD.out⟩
                case measure => simp [intOf]; omega
              · have r1 : ¬ (n1 : Int) < (R : Int) := by omega
                rw [if_neg (by rintro (h | h) <;> contradiction)] at HRS
                clear hR0
                go_wp2_with fail
                go_roundw
                case rel => exact ⟨m + 1, by omega, by go_num, by rw [HSu.out]; simp, by rw [HSu.out, HRS.out], HD.out⟩
                case measure => simp [intOf]; omega
    · obtain rfl : m = 16 := by omega
      have HV := toHid (lives10 wr)
      have HLo := toHid HD.out.low
      go_wp2_with fail
      refine Calls.mono HV.out ?_
      rintro e w3 ⟨rfl, hb3⟩
      go_wp2
      go_ret
      exact ⟨rfl, HLo.out.trans (hb3.mono HLo.out.size)⟩
end Go.Proofs.Yticnkppnpfgceaa.Mg

namespace Go.Proofs.Yticnkppnpfgceaa.Mg
open Go.RowKit

theorem ncell0 {W : World} {B c : Nat} {va : Option Addr} {d : List (Int × Gt)} (h : W.ownsRow B 30 1 (.slice va d.length c) d.length (nCells d)) {k : Nat} (hk : k < d.length) : ∃ g, va = some ⟨g, 0, none⟩ ∧ g < W.heap.size ∧ W.cell? ⟨g, k, none⟩ = some (.int .u64 (d[k].2.next : Int)) := by
  have hf : (nCells d)[k]? = some (.int .u64 (d[k].2.next : Int)) := by
    unfold nCells
    rw [List.getElem?_map, List.getElem?_eq_getElem hk]
    rfl
  rcases h.2 with ⟨h0, h1⟩ | ⟨g, cap, cur, e, _⟩
  · omega
  · injection e with e1
    subst e1
    have c0 := h.cells (g := g) rfl k _ hf
    rw [addr_add] at c0
    exact ⟨g, rfl, World.block_lt_of_cell? _ _ c0, c0⟩
theorem LfR.put37 {W : World} {g : Nat} {vt vn vd a b c : Value} {x : Lf} (h : LfR W 0 vt vn vd x) (hg : W.heap[g]? = some (.cells #[a, b, c] 37)) (p q r : Value) :
    LfR (((W.setCell ⟨g, 0, none⟩ p).setCell ⟨g, 1, none⟩ q).setCell ⟨g, 2, none⟩ r) 0 vt vn vd x := lfr_put3d h.t h.n h.d hg p q r
/-- What Step holds: the row told, the record, its answer, the transaction's row. -/
structure Sx (w W : World) (b : Nat) (r : Rc) (p : Pl) (vt vn vd : Value) (id st ls : Int) : Prop where
  low : Below w.heap.size w W
  b0 : W.heap[w.heap.size]? = some (.cells (rfC vt vn vd) 37)
  b1 : W.heap[w.heap.size + 1]? = some (.cells (recC r p) 50)
  b2 : W.heap[w.heap.size + 1 + 1]? = some (.cells #[.slice none 0 0, .slice none 0 0, .slice none 0 0] 37)
  b3 : W.heap[b]? = some (.cells #[.int .i64 id, .int .i64 st, .int .u64 ls] 57)
  hb : w.heap.size + 1 + 1 < b
theorem Sx.below {w W W' : World} {b : Nat} {r : Rc} {p : Pl} {vt vn vd : Value} {id st ls : Int} (h : Sx w W b r p vt vn vd id st ls) (hb : Below W.heap.size W W') : Sx w W' b r p vt vn vd id st ls :=
  ⟨h.low.trans (hb.mono h.low.size), (hb.block _ (some_lt h.b0)).trans h.b0, (hb.block _ (some_lt h.b1)).trans h.b1, (hb.block _ (some_lt h.b2)).trans h.b2, (hb.block _ (some_lt h.b3)).trans h.b3, h.hb⟩
theorem Sx.put {w W : World} {b : Nat} {r : Rc} {p : Pl} {vt vn vd : Value} {id st ls : Int} (h : Sx w W b r p vt vn vd id st ls) (x y z : Value) : Sx w (((W.setCell ⟨w.heap.size, 0, none⟩ x).setCell ⟨w.heap.size, 1, none⟩ y).setCell ⟨w.heap.size, 2, none⟩ z) b r p x y z id st ls := by
  have hb := h.hb
  refine ⟨put3_below h.low (Nat.le_refl _) _ _ _, put3_same h.b0 _ _ _, ?_, ?_, ?_, h.hb⟩
  · rw [Below.heap_setCell _ _ _ _ (by simp), Below.heap_setCell _ _ _ _ (by simp), Below.heap_setCell _ _ _ _ (by simp)]; exact h.b1
  · rw [Below.heap_setCell _ _ _ _ (by simp; omega), Below.heap_setCell _ _ _ _ (by simp; omega), Below.heap_setCell _ _ _ _ (by simp; omega)]; exact h.b2
  · rw [Below.heap_setCell _ _ _ _ (by simp; omega), Below.heap_setCell _ _ _ _ (by simp; omega), Below.heap_setCell _ _ _ _ (by simp; omega)]; exact h.b3
theorem Sx.st {w W : World} {b : Nat} {r : Rc} {p : Pl} {vt vn vd : Value} {id st ls : Int} (h : Sx w W b r p vt vn vd id st ls) (s : Int) : Sx w (W.setCell ⟨b, 1, none⟩ (.int .i64 s)) b r p vt vn vd id s ls := by
  have hb := h.hb
  refine ⟨h.low.setCell (by simp; omega) _, ?_, ?_, ?_, set3_1 h.b3 _, h.hb⟩
  · rw [Below.heap_setCell _ _ _ _ (by simp; omega)]; exact h.b0
  · rw [Below.heap_setCell _ _ _ _ (by simp; omega)]; exact h.b1
  · rw [Below.heap_setCell _ _ _ _ (by simp; omega)]; exact h.b2

set_option maxRecDepth 100000 in
set_option maxHeartbeats 4000000 in
theorem step26 {w : World} {vt vn vd : Value} {x : Lf} (h : LfR w 0 vt vn vd x) (hx : x.Ok) (hl : x.t.length ≤ 1000) (hd : x.d.length ≤ 1000) (r : Rc) (p : Pl) :
    Calls Try.prog 26 #[.agg (rfC vt vn vd), .agg (recC r p)] w fun e w' => ∃ vt' vn' vd', e = .returned (.agg (rfC vt' vn' vd')) ∧ LfR w' 0 vt' vn' vd' (stepL x r) ∧ Below w.heap.size w w' := by
  obtain ⟨ta, tc, rfl⟩ := ownsRow_shape2 h.t
  obtain ⟨na, nc, rfl⟩ := ownsRow_shape2 h.n
  obtain ⟨da, dc, rfl⟩ := ownsRow_shape2 h.d
  obtain ⟨W0, hW0⟩ : ∃ W0, W0 = ((w.alloc (.cells (rfC (.slice ta x.t.length tc) (.slice na x.t.length nc) (.slice da x.d.length dc)) 37)).alloc (.cells (recC r p) 50)).alloc (.cells #[.slice none 0 0, .slice none 0 0, .slice none 0 0] 37) := ⟨_, rfl⟩
  have hb0 : Below w.heap.size w W0 := hW0 ▸ below3
  obtain ⟨k0, k1, k2, _⟩ := kept3 (w := w) (W := W0) (by rw [hW0]; exact Below.refl _ _)
  have HB0 := toHid hb0
  have HK0 := toHid k0
  have HK1 := toHid k1
  have HK2 := toHid k2
  have HW0 := toHid hW0
  have HL := toHid h
  have HG := toHid (fun W (hb : Below w.heap.size w W) => gone41 (h.below hb) hx.t hl r.txn)
  have HA := toHid (fun W (hb : Below w.heap.size w W) => at42 (h.below hb) hx.t hl r.txn)
  have HD := toHid (fun W (hb : Below w.heap.size w W) => dirty34 (h.below hb) hx.d hd r.page r.lsn)
  obtain ⟨T, D⟩ := x
  dsimp only at hl hd hW0 HK0 HW0
  have HP := toHid (fun (W : World) (vd' : Value) (d' : List (Int × Nat)) (hr : LfR W 0 (.slice ta T.length tc) (.slice na T.length nc) vd' ⟨T, d'⟩) (g : Gt) => put33 hr hx.t hl r.txn g)
  have hxt := hx.t
  dsimp only at hxt HG HA HD
  have HXT := toHid hxt
  clear h hb0 k0 k1 k2 hW0 hxt hx
  obtain ⟨a0, a1, a2, af0, af1, af2⟩ := cellsT HK0.out
  obtain ⟨b0, b1, b2, b3, b4, b5, b6, b7, b8, b9, b10, b11, _⟩ := cell12 HK1.out
  go_enter Try.func26, Try.ntmps26
  go_upto_region 1 with fail
  rw [← HW0.out]
  by_cases k7 : r.kind = 7
  · have q7 : (r.kind == 7) = true := by simp [k7]
    have HQ := toHid (show stepL ⟨T, D⟩ r = ⟨T, D⟩ by simp [stepL, noteL, chg, k7])
    obtain ⟨c0, c1, c2, cf0, cf1, cf2⟩ := cellsT HK2.out
    clear k7
    go_wp2
    refine bodyPost_ret (results_cell_row (P := Try.prog) Try.results26 _ _ (w.heap.size + 1 + 1) 37 (rfC (.slice ta T.length tc) (.slice na T.length nc) (.slice da D.length dc)) (0, 0) _ rfl (put3_same HK2.out _ _ _) Try.underlying37 rfl (by kernel_rfl)) rfl ⟨_, _, _, rfl, ?_, put3_below HB0.out (by omega) _ _ _⟩
    rw [HQ.out]
    exact HL.out.below (put3_below HB0.out (by omega) _ _ _)
  have q7 : (r.kind == 7) = false := by simp [k7]
  by_cases k8 : r.kind = 8
  · have q8 : (r.kind == 8) = true := by simp [k8]
    have HQ := toHid (show stepL ⟨T, D⟩ r = ⟨T, D⟩ by simp [stepL, noteL, chg, k8])
    obtain ⟨c0, c1, c2, cf0, cf1, cf2⟩ := cellsT HK2.out
    clear k8
    go_wp2
    refine bodyPost_ret (results_cell_row (P := Try.prog) Try.results26 _ _ (w.heap.size + 1 + 1) 37 (rfC (.slice ta T.length tc) (.slice na T.length nc) (.slice da D.length dc)) (0, 0) _ rfl (put3_same HK2.out _ _ _) Try.underlying37 rfl (by kernel_rfl)) rfl ⟨_, _, _, rfl, ?_, put3_below HB0.out (by omega) _ _ _⟩
    rw [HQ.out]
    exact HL.out.below (put3_below HB0.out (by omega) _ _ _)
  have q8 : (r.kind == 8) = false := by simp [k8]
  by_cases k3 : r.kind = 3
  · have q3 : (r.kind == 3) = true := by simp [k3]
    have HQ := toHid (show stepL ⟨T, D⟩ r = ⟨goneL T r.txn, D⟩ by simp [stepL, noteL, chg, k3])
    clear k3 k7 k8
    go_wp2_with fail
    refine Calls.mono (HG.out W0 HB0.out) ?_
    rintro e w1 ⟨vt', vn', rfl, hr, hb1⟩
    obtain ⟨ua, uc, rfl⟩ := ownsRow_shape2 hr.t
    obtain ⟨va, vc, rfl⟩ := ownsRow_shape2 hr.n
    have k2 := (hb1.block _ (some_lt HK2.out)).trans HK2.out
    have HX2 := toHid k2
    have HR := toHid hr
    have HB1 := toHid (HB0.out.trans (hb1.mono HB0.out.size))
    obtain ⟨c0, c1, c2, cf0, cf1, cf2⟩ := cellsT k2
    clear hr hb1 k2
    go_wp2
    refine bodyPost_ret (results_cell_row (P := Try.prog) Try.results26 _ _ (w.heap.size + 1 + 1) 37 _ (0, 0) _ rfl (put3_same HX2.out _ _ _) Try.underlying37 rfl (by kernel_rfl)) rfl ⟨_, _, _, rfl, ?_, put3_below HB1.out (by omega) _ _ _⟩
    rw [HQ.out]
    exact HR.out.put37 HX2.out _ _ _
  have q3 : (r.kind == 3) = false := by simp [k3]
  by_cases k5 : r.kind = 5
  · have q5 : (r.kind == 5) = true := by simp [k5]
    have HQ := toHid (show stepL ⟨T, D⟩ r = ⟨goneL T r.txn, D⟩ by simp [stepL, noteL, chg, k5])
    clear k5 k7 k8
    go_wp2_with fail
    refine Calls.mono (HG.out W0 HB0.out) ?_
    rintro e w1 ⟨vt', vn', rfl, hr, hb1⟩
    obtain ⟨ua, uc, rfl⟩ := ownsRow_shape2 hr.t
    obtain ⟨va, vc, rfl⟩ := ownsRow_shape2 hr.n
    have k2 := (hb1.block _ (some_lt HK2.out)).trans HK2.out
    have HX2 := toHid k2
    have HR := toHid hr
    have HB1 := toHid (HB0.out.trans (hb1.mono HB0.out.size))
    obtain ⟨c0, c1, c2, cf0, cf1, cf2⟩ := cellsT k2
    clear hr hb1 k2
    go_wp2
    refine bodyPost_ret (results_cell_row (P := Try.prog) Try.results26 _ _ (w.heap.size + 1 + 1) 37 _ (0, 0) _ rfl (put3_same HX2.out _ _ _) Try.underlying37 rfl (by kernel_rfl)) rfl ⟨_, _, _, rfl, ?_, put3_below HB1.out (by omega) _ _ _⟩
    rw [HQ.out]
    exact HR.out.put37 HX2.out _ _ _
  have q5 : (r.kind == 5) = false := by simp [k5]
  obtain ⟨P, hP⟩ : ∃ P, posL T r.txn = P := ⟨_, rfl⟩
  obtain ⟨bb, hbb⟩ : ∃ bb, (look T r.txn).isSome = bb := ⟨_, rfl⟩
  obtain ⟨g, hg⟩ : ∃ g, (look T r.txn).getD gt0 = g := ⟨_, rfl⟩
  have HN := toHid (show noteL T r = putL T r.txn (behG g r) by simp [noteL, k7, k8, k3, k5, hg])
  rw [hP, hbb] at HA
  have hz0 : W0.heap.size = w.heap.size + 1 + 1 + 1 := by rw [HW0.out]; simp
  have HS1 := toHid (show Sx w (W0.alloc (.cells #[.int .i64 r.txn, .int .i64 0, .int .u64 (r.lsn : Int)] 57)) W0.heap.size r p (.slice ta T.length tc) (.slice na T.length nc) (.slice da D.length dc) r.txn 0 r.lsn from by
    have hb : Below W0.heap.size W0 (W0.alloc (.cells #[.int .i64 r.txn, .int .i64 0, .int .u64 (r.lsn : Int)] 57)) := (Below.refl _ _).alloc (Nat.le_refl _) _
    exact ⟨HB0.out.trans (hb.mono HB0.out.size), (hb.block _ (some_lt HK0.out)).trans HK0.out, (hb.block _ (some_lt HK1.out)).trans HK1.out, (hb.block _ (some_lt HK2.out)).trans HK2.out, heap_alloc_new _ _, by omega⟩)
  have HZ := toHid hz0
  have HPt := toHid (show ∀ u, look T r.txn = some u → P < T.length from fun u hk => hP ▸ posL_lt HXT.out hk)
  have HPg := toHid (show ∀ u (hk : look T r.txn = some u) (hp : P < T.length), T[P].2 = u from fun u hk hp => by
    have := posL_get HXT.out hk
    subst hP
    rw [this])
  have hz1 : w.heap.size + 1 + 1 < W0.heap.size := by omega
  have hz2 : w.heap.size < W0.heap.size := by omega
  have hz3 : w.heap.size + 1 < W0.heap.size := by omega
  clear hP hz0
  go_wp2_with fail
  refine Calls.mono (HA.out _ HS1.out.low) ?_
  rintro e w2 ⟨rfl, hb2⟩
  have HS2 := toHid (HS1.out.below hb2)
  clear hb2 HS1 HA HK0 HK1 HK2 HB0 a0 a1 a2 af0 af1 af2 b0 b1 b2 b3 b4 b5 b6 b7 b8 b9 b10 b11
  obtain ⟨a0, a1, a2, af0, af1, af2⟩ := cellsT HS2.out.b0
  obtain ⟨t0, t1, t2, tf0, tf1, tf2⟩ := cellsT HS2.out.b3
  go_upto_if 42 with fail
  go_cut [6] (fun v W => v = .int .u64 (g.next : Int) ∧ Sx w W W0.heap.size r p (.slice ta T.length tc) (.slice na T.length nc) (.slice da D.length dc) r.txn g.st r.lsn)
  case first =>
    cases bb
    · obtain rfl : g = gt0 := by
        rw [← hg]; cases hk : look T r.txn with
        | none => rfl
        | some u => rw [hk] at hbb; cases hbb
      go_wp2
      go_meet
      case rel => exact ⟨rfl, HS2.out⟩
    · obtain ⟨u, hk⟩ : ∃ u, look T r.txn = some u := by cases hk : look T r.txn with | none => rw [hk] at hbb; cases hbb | some u => exact ⟨u, rfl⟩
      obtain rfl : g = u := by rw [← hg, hk]; rfl
      have hPt := HPt.out g hk
      have hPg := HPg.out g hk hPt
      obtain ⟨yg, rfl, hy, y0, y1, y2⟩ := tcell0 (own_below HL.out.t HS2.out.low) hPt
      obtain ⟨zg, rfl, hz, z0⟩ := ncell0 (own_below HL.out.n HS2.out.low) hPt
      rw [hPg] at y1 z0
      clear y0 y2 hk hPg hg
      have hp1 : (P : Int) < (T.length : Int) := by omega
      have hp0 : 0 ≤ (P : Int) := by omega
      have hne : zg ≠ W0.heap.size := by
        have h1 := (own_blk HL.out.n (k := zg) rfl).2; have := HZ.out; omega
      have z1 : (w2.setCell ⟨W0.heap.size, 1, none⟩ (.int .i64 g.st)).cell? ⟨zg, P, none⟩ = some (.int .u64 (g.next : Int)) := by
        rw [World.cell?_of_block (w := w2) (Below.heap_setCell _ _ _ _ hne)]; exact z0
      have e0 := cellsT (HS2.out.st g.st).b0
      go_wp2
      go_meet
      case rel => exact ⟨rfl, HS2.out.st _⟩
  case rest =>
    obtain ⟨rfl, hs⟩ := hcut
    have HS := toHid hs
    clear hs a0 a1 a2 af0 af1 af2 t0 t1 t2 tf0 tf1 tf2 HS2
    clear hbb hg
    generalize wc = W3 at *
    obtain ⟨a0, a1, a2, af0, af1, af2⟩ := cellsT HS.out.b0
    obtain ⟨b0, b1, b2, b3, b4, b5, b6, b7, b8, b9, b10, b11, _⟩ := cell12 HS.out.b1
    obtain ⟨t0, t1, t2, tf0, tf1, tf2⟩ := cellsT HS.out.b3
    have HL3 := toHid (HL.out.below HS.out.low)
    by_cases k1 : r.kind = 1
    · have q1 : (r.kind == 1) = true := by simp [k1]
      have HQ := toHid (show stepL ⟨T, D⟩ r = ⟨putL T r.txn ⟨g.st, r.lsn, r.lsn⟩, soilL D r.page r.lsn⟩ by simp only [stepL, HN.out]; simp [behG, chg, tellN, k1])
      clear k1 k7 k8 k3 k5
      go_wp2_with fail
      refine Calls.mono (HD.out W3 HS.out.low) ?_
      rintro e w4 ⟨vd', rfl, hr, hb4⟩
      obtain ⟨ea, ec, rfl⟩ := ownsRow_shape2 hr.d
      have HS4 := toHid (HS.out.below hb4)
      have HS5 := toHid ((HS.out.below hb4).put (.slice ta T.length tc) (.slice na T.length nc) (.slice ea (soilL D r.page r.lsn).length ec))
      have HR5 := toHid (hr.put37 (HS.out.below hb4).b0 (.slice ta T.length tc) (.slice na T.length nc) (.slice ea (soilL D r.page r.lsn).length ec))
      clear hr hb4 a0 a1 a2 af0 af1 af2 b0 b1 b2 b3 b4 b5 b6 b7 b8 b9 b10 b11 t0 t1 t2 tf0 tf1 tf2
      obtain ⟨a0, a1, a2, af0, af1, af2⟩ := cellsT HS4.out.b0
      obtain ⟨t0, t1, t2, tf0, tf1, tf2⟩ := cellsT HS4.out.b3
      obtain ⟨b0, b1, b2, b3, b4, b5, b6, b7, b8, b9, b10, b11, _⟩ := cell12 HS4.out.b1
      go_wp2_with fail
      refine Calls.mono (HP.out _ _ _ HR5.out ⟨g.st, r.lsn, r.lsn⟩) ?_
      rintro e w6 ⟨vt', vn', rfl, hr, hb6⟩
      obtain ⟨ua, uc, rfl⟩ := ownsRow_shape2 hr.t
      obtain ⟨va, vc, rfl⟩ := ownsRow_shape2 hr.n
      have HX := toHid ((HS5.out.below hb6).b2)
      have HB6 := toHid (HS5.out.below hb6).low
      have HR := toHid hr
      obtain ⟨c0, c1, c2, cf0, cf1, cf2⟩ := cellsT HX.out
      clear hr hb6
      go_wp2
      refine bodyPost_ret (results_cell_row (P := Try.prog) Try.results26 _ _ (w.heap.size + 1 + 1) 37 _ (0, 0) _ rfl (put3_same HX.out _ _ _) Try.underlying37 rfl (by kernel_rfl)) rfl ⟨_, _, _, rfl, ?_, put3_below HB6.out (by omega) _ _ _⟩
      rw [HQ.out]
      exact HR.out.put37 HX.out _ _ _
    have q1 : (r.kind == 1) = false := by simp [k1]
    by_cases k2 : r.kind = 2
    · have q2 : (r.kind == 2) = true := by simp [k2]
      have HQ := toHid (show stepL ⟨T, D⟩ r = ⟨putL T r.txn ⟨g.st, r.lsn, r.undo⟩, soilL D r.page r.lsn⟩ by simp only [stepL, HN.out]; simp [behG, chg, tellN, k2])
      clear k2 k7 k8 k3 k5 k1
      go_wp2_with fail
      refine Calls.mono (HD.out W3 HS.out.low) ?_
      rintro e w4 ⟨vd', rfl, hr, hb4⟩
      obtain ⟨ea, ec, rfl⟩ := ownsRow_shape2 hr.d
      have HS4 := toHid (HS.out.below hb4)
      have HS5 := toHid ((HS.out.below hb4).put (.slice ta T.length tc) (.slice na T.length nc) (.slice ea (soilL D r.page r.lsn).length ec))
      have HR5 := toHid (hr.put37 (HS.out.below hb4).b0 (.slice ta T.length tc) (.slice na T.length nc) (.slice ea (soilL D r.page r.lsn).length ec))
      clear hr hb4 a0 a1 a2 af0 af1 af2 b0 b1 b2 b3 b4 b5 b6 b7 b8 b9 b10 b11 t0 t1 t2 tf0 tf1 tf2
      obtain ⟨a0, a1, a2, af0, af1, af2⟩ := cellsT HS4.out.b0
      obtain ⟨t0, t1, t2, tf0, tf1, tf2⟩ := cellsT HS4.out.b3
      obtain ⟨b0, b1, b2, b3, b4, b5, b6, b7, b8, b9, b10, b11, _⟩ := cell12 HS4.out.b1
      go_wp2_with fail
      refine Calls.mono (HP.out _ _ _ HR5.out ⟨g.st, r.lsn, r.undo⟩) ?_
      rintro e w6 ⟨vt', vn', rfl, hr, hb6⟩
      obtain ⟨ua, uc, rfl⟩ := ownsRow_shape2 hr.t
      obtain ⟨va, vc, rfl⟩ := ownsRow_shape2 hr.n
      have HX := toHid ((HS5.out.below hb6).b2)
      have HB6 := toHid (HS5.out.below hb6).low
      have HR := toHid hr
      obtain ⟨c0, c1, c2, cf0, cf1, cf2⟩ := cellsT HX.out
      clear hr hb6
      go_wp2
      refine bodyPost_ret (results_cell_row (P := Try.prog) Try.results26 _ _ (w.heap.size + 1 + 1) 37 _ (0, 0) _ rfl (put3_same HX.out _ _ _) Try.underlying37 rfl (by kernel_rfl)) rfl ⟨_, _, _, rfl, ?_, put3_below HB6.out (by omega) _ _ _⟩
      rw [HQ.out]
      exact HR.out.put37 HX.out _ _ _
    have q2 : (r.kind == 2) = false := by simp [k2]
    by_cases k4 : r.kind = 4
    · have q4 : (r.kind == 4) = true := by simp [k4]
      have HQ := toHid (show stepL ⟨T, D⟩ r = ⟨putL T r.txn ⟨2, r.lsn, g.next⟩, D⟩ by simp only [stepL, HN.out]; simp [behG, chg, k4])
      clear k4 k7 k8 k3 k5 k1 k2
      have HS5 := toHid (HS.out.st 2)
      have HR5 := toHid (HL.out.below HS5.out.low)
      go_wp2_with fail
      refine Calls.mono (HP.out _ _ _ HR5.out ⟨2, r.lsn, g.next⟩) ?_
      rintro e w6 ⟨vt', vn', rfl, hr, hb6⟩
      obtain ⟨ua, uc, rfl⟩ := ownsRow_shape2 hr.t
      obtain ⟨va, vc, rfl⟩ := ownsRow_shape2 hr.n
      have HX := toHid ((HS5.out.below hb6).b2)
      have HB6 := toHid (HS5.out.below hb6).low
      have HR := toHid hr
      obtain ⟨c0, c1, c2, cf0, cf1, cf2⟩ := cellsT HX.out
      clear hr hb6
      go_wp2
      refine bodyPost_ret (results_cell_row (P := Try.prog) Try.results26 _ _ (w.heap.size + 1 + 1) 37 _ (0, 0) _ rfl (put3_same HX.out _ _ _) Try.underlying37 rfl (by kernel_rfl)) rfl ⟨_, _, _, rfl, ?_, put3_below HB6.out (by omega) _ _ _⟩
      rw [HQ.out]
      exact HR.out.put37 HX.out _ _ _
    have q4 : (r.kind == 4) = false := by simp [k4]
    have HQ := toHid (show stepL ⟨T, D⟩ r = ⟨putL T r.txn ⟨g.st, r.lsn, g.next⟩, D⟩ by simp only [stepL, HN.out]; simp [behG, chg, k1, k2, k4])
    clear k4 k7 k8 k3 k5 k1 k2
    go_wp2_with fail
    refine Calls.mono (HP.out W3 _ _ HL3.out ⟨g.st, r.lsn, g.next⟩) ?_
    rintro e w6 ⟨vt', vn', rfl, hr, hb6⟩
    obtain ⟨ua, uc, rfl⟩ := ownsRow_shape2 hr.t
    obtain ⟨va, vc, rfl⟩ := ownsRow_shape2 hr.n
    have HX := toHid ((HS.out.below hb6).b2)
    have HB6 := toHid (HS.out.below hb6).low
    have HR := toHid hr
    obtain ⟨c0, c1, c2, cf0, cf1, cf2⟩ := cellsT HX.out
    clear hr hb6
    go_wp2
    refine bodyPost_ret (results_cell_row (P := Try.prog) Try.results26 _ _ (w.heap.size + 1 + 1) 37 _ (0, 0) _ rfl (put3_same HX.out _ _ _) Try.underlying37 rfl (by kernel_rfl)) rfl ⟨_, _, _, rfl, ?_, put3_below HB6.out (by omega) _ _ _⟩
    rw [HQ.out]
    exact HR.out.put37 HX.out _ _ _
end Go.Proofs.Yticnkppnpfgceaa.Mg

namespace Go.Proofs.Yticnkppnpfgceaa.Mg
open Go.RowKit

set_option maxRecDepth 100000 in
set_option maxHeartbeats 2000000 in
theorem same22 {w : World} {a b : Option Addr} {c d : Nat} (T : List (Int × Gt)) (h1 : w.ownsRow 0 57 3 (.slice a T.length c) T.length (tCells T)) (h2 : w.ownsRow 0 57 3 (.slice b T.length d) T.length (tCells T)) (hl : T.length ≤ 1000) :
    Calls Try.prog 22 #[.slice a T.length c, .slice b T.length d] w fun e w' => e = .returned (.bool true) ∧ Below w.heap.size w w' := by
  have H1 := toHid h1
  have H2 := toHid h2
  clear h1 h2
  go_enter Try.func22, Try.ntmps22
  go_wp2_with fail
  go_loopw [5] (fun i W => ∃ k : Nat, k ≤ T.length ∧ i = .int .i64 k ∧ Below w.heap.size w W) (fun i _ => T.length - (intOf i).toNat)
  case atStart => exact ⟨0, Nat.zero_le _, rfl, Below.refl _ _⟩
  case round =>
    obtain ⟨k, hk, rfl, hbw⟩ := hrel
    have HB := toHid hbw
    clear hbw
    by_cases hkl : k < T.length
    · obtain ⟨g1, rfl, hg1, y0, y1, y2⟩ := tcell0 (own_below H1.out HB.out) hkl
      obtain ⟨g2, rfl, hg2, z0, z1, z2⟩ := tcell0 (own_below H2.out HB.out) hkl
      have hk1 : (k : Int) < (T.length : Int) := by omega
      have hk2 : 0 ≤ (k : Int) := by omega
      go_wp2_with fail
      go_quiet (fail)
      go_wp2_with fail
      go_roundw
      case rel => exact ⟨k + 1, by omega, by go_num, HB.out.trans ((below_drewN1 wr _).mono HB.out.size)⟩
      case measure => simp [intOf]; omega
    · obtain rfl : k = T.length := by omega
      go_wp2
      go_ret
      exact ⟨rfl, HB.out⟩
set_option maxRecDepth 100000 in
set_option maxHeartbeats 2000000 in
theorem same23 {w : World} {a b : Option Addr} {c d : Nat} (T : List (Int × Gt)) (h1 : w.ownsRow 0 30 1 (.slice a T.length c) T.length (nCells T)) (h2 : w.ownsRow 0 30 1 (.slice b T.length d) T.length (nCells T)) (hl : T.length ≤ 1000) :
    Calls Try.prog 23 #[.slice a T.length c, .slice b T.length d] w fun e w' => e = .returned (.bool true) ∧ Below w.heap.size w w' := by
  have H1 := toHid h1
  have H2 := toHid h2
  clear h1 h2
  go_enter Try.func23, Try.ntmps23
  go_wp2_with fail
  go_loopw [5] (fun i W => ∃ k : Nat, k ≤ T.length ∧ i = .int .i64 k ∧ Below w.heap.size w W) (fun i _ => T.length - (intOf i).toNat)
  case atStart => exact ⟨0, Nat.zero_le _, rfl, Below.refl _ _⟩
  case round =>
    obtain ⟨k, hk, rfl, hbw⟩ := hrel
    have HB := toHid hbw
    clear hbw
    by_cases hkl : k < T.length
    · obtain ⟨g1, rfl, hg1, y0⟩ := ncell0 (own_below H1.out HB.out) hkl
      obtain ⟨g2, rfl, hg2, z0⟩ := ncell0 (own_below H2.out HB.out) hkl
      have hk1 : (k : Int) < (T.length : Int) := by omega
      have hk2 : 0 ≤ (k : Int) := by omega
      go_wp2_with fail
      go_quiet (fail)
      go_wp2_with fail
      go_roundw
      case rel => exact ⟨k + 1, by omega, by go_num, HB.out.trans ((below_drewN1 wr _).mono HB.out.size)⟩
      case measure => simp [intOf]; omega
    · obtain rfl : k = T.length := by omega
      go_wp2
      go_ret
      exact ⟨rfl, HB.out⟩
set_option maxRecDepth 100000 in
set_option maxHeartbeats 2000000 in
theorem same24 {w : World} {a b : Option Addr} {c d : Nat} (T : List (Int × Nat)) (h1 : w.ownsRow 0 60 2 (.slice a T.length c) T.length (dCells T)) (h2 : w.ownsRow 0 60 2 (.slice b T.length d) T.length (dCells T)) (hl : T.length ≤ 1000) :
    Calls Try.prog 24 #[.slice a T.length c, .slice b T.length d] w fun e w' => e = .returned (.bool true) ∧ Below w.heap.size w w' := by
  have H1 := toHid h1
  have H2 := toHid h2
  clear h1 h2
  go_enter Try.func24, Try.ntmps24
  go_wp2_with fail
  go_loopw [5] (fun i W => ∃ k : Nat, k ≤ T.length ∧ i = .int .i64 k ∧ Below w.heap.size w W) (fun i _ => T.length - (intOf i).toNat)
  case atStart => exact ⟨0, Nat.zero_le _, rfl, Below.refl _ _⟩
  case round =>
    obtain ⟨k, hk, rfl, hbw⟩ := hrel
    have HB := toHid hbw
    clear hbw
    by_cases hkl : k < T.length
    · obtain ⟨g1, rfl, hg1, y0, y1⟩ := dcell (own_below H1.out HB.out) hkl
      obtain ⟨g2, rfl, hg2, z0, z1⟩ := dcell (own_below H2.out HB.out) hkl
      have hk1 : (k : Int) < (T.length : Int) := by omega
      have hk2 : 0 ≤ (k : Int) := by omega
      go_wp2_with fail
      go_quiet (fail)
      go_wp2_with fail
      go_roundw
      case rel => exact ⟨k + 1, by omega, by go_num, HB.out.trans ((below_drewN1 wr _).mono HB.out.size)⟩
      case measure => simp [intOf]; omega
    · obtain rfl : k = T.length := by omega
      go_wp2
      go_ret
      exact ⟨rfl, HB.out⟩

theorem redo_take {d : List (Int × Nat)} {k : Nat} (hk : k < d.length) : redoL (d.take (k + 1)) = if redoL (d.take k) = 0 ∨ d[k].2 < redoL (d.take k) then d[k].2 else redoL (d.take k) := by
  rw [List.take_succ_eq_append_getElem hk, redo_snoc]
set_option maxRecDepth 100000 in
set_option maxHeartbeats 2000000 in
theorem redo35 {w : World} {vt vn vd : Value} {x : Lf} (h : LfR w 0 vt vn vd x) (hl : x.d.length ≤ 1000) :
    Calls Try.prog 35 #[.agg (rfC vt vn vd)] w fun e w' => e = .returned (.int .u64 (redoL x.d : Int)) ∧ Below w.heap.size w w' := by
  obtain ⟨T, D⟩ := x
  obtain ⟨h1, h2, h3⟩ := h
  dsimp only at h1 h2 h3 hl ⊢
  obtain ⟨ta, tc, rfl⟩ := ownsRow_shape2 h1
  obtain ⟨na, nc, rfl⟩ := ownsRow_shape2 h2
  obtain ⟨da, dc, rfl⟩ := ownsRow_shape2 h3
  have H3 := toHid h3
  clear h1 h2 h3
  generalize T.length = tl at *
  have HB := toHid (show Below w.heap.size w (w.alloc (.cells (rfC (.slice ta tl tc) (.slice na tl nc) (.slice da D.length dc)) 37)) from (Below.refl _ _).alloc (Nat.le_refl _) _)
  have HK := toHid (heap_alloc_new w (.cells (rfC (.slice ta tl tc) (.slice na tl nc) (.slice da D.length dc)) 37))
  go_enter Try.func35, Try.ntmps35
  go_wp2_with fail
  go_loopw [3, 4] (fun le i W => ∃ k : Nat, k ≤ D.length ∧ i = .int .i64 k ∧ le = .int .u64 (redoL (D.take k) : Int) ∧ Below w.heap.size w W ∧ W.heap[w.heap.size]? = some (.cells (rfC (.slice ta tl tc) (.slice na tl nc) (.slice da D.length dc)) 37)) (fun _ i _ => D.length - (intOf i).toNat)
  case atStart => exact ⟨0, Nat.zero_le _, rfl, by simp [redoL], HB.out, HK.out⟩
  case round =>
    obtain ⟨k, hk, rfl, rfl, hbw, hbx⟩ := hrel
    have HBw := toHid hbw
    have HBx := toHid hbx
    obtain ⟨x0, x1, x2, _, _, _⟩ := cellsT hbx
    clear hbw hbx HB HK
    by_cases hkl : k < D.length
    · obtain ⟨g, rfl, hg, y0, y1⟩ := dcell (own_below H3.out HBw.out) hkl
      have hk1 : (k : Int) < (D.length : Int) := by omega
      have hk2 : 0 ≤ (k : Int) := by omega
      have hRT := redo_take hkl
      obtain ⟨R, hR⟩ : ∃ R, redoL (D.take k) = R := ⟨_, rfl⟩
      obtain ⟨q, hq⟩ : ∃ q, D[k] = q := ⟨_, rfl⟩
      rw [hR] at hRT ⊢
      rw [hq] at hRT y0 y1
      have HRT := toHid hRT
      clear hRT hR hq
      by_cases hR0 : R = 0
      · have r0 : ((R : Int) == 0) = true := by simp [hR0]
        rw [if_pos (.inl hR0)] at HRT
        clear hR0
        go_wp2_with fail
        go_roundw
        case rel => exact ⟨k + 1, by omega, by go_num, by rw [HRT.out], HBw.out, HBx.out⟩
        case measure => simp [intOf]; omega
      · have r0 : ((R : Int) == 0) = false := by simp [hR0]
        by_cases hRl : q.2 < R
        · have r1 : (q.2 : Int) < (R : Int) := by omega
          rw [if_pos (.inr hRl)] at HRT
          clear hR0
          go_wp2_with fail
          go_roundw
          case rel => exact ⟨k + 1, by omega, by go_num, by rw [HRT.out], HBw.out, HBx.out⟩
          case measure => simp [intOf]; omega
        · have r1 : ¬ (q.2 : Int) < (R : Int) := by omega
          rw [if_neg (by rintro (h | h) <;> contradiction)] at HRT
          clear hR0
          go_wp2_with fail
          go_roundw
          case rel => exact ⟨k + 1, by omega, by go_num, by rw [HRT.out], HBw.out, HBx.out⟩
          case measure => simp [intOf]; omega
    · obtain rfl : k = D.length := by omega
      rw [List.take_length]
      go_wp2
      go_ret
      exact ⟨rfl, HBw.out⟩

/-- The place of the last checkpoint. -/
def lastC (l : List Rc) : Int → Prop := fun z => (z = -1 ∧ ∀ r, r ∈ l → r.kind ≠ 8) ∨ ∃ i : Nat, z = i ∧ ∃ h : i < l.length, l[i].kind = 8 ∧ ∀ j, (hj : j < l.length) → i < j → l[j].kind ≠ 8
set_option maxRecDepth 100000 in
set_option maxHeartbeats 2000000 in
theorem last31 (a : Option Addr) (c : Nat) (l : List Rc) (w : World) (hL : SlR w a l) (hl : l.length ≤ 1000) :
    Calls Try.prog 31 #[.slice a l.length c] w fun e w' => (∃ z, e = .returned (.int .i64 z) ∧ lastC l z) ∧ Below w.heap.size w w' := by
  have HL := toHid hL
  clear hL
  go_enter Try.func31, Try.ntmps31
  go_wp2_with fail
  go_loopw [3] (fun i W => ∃ k : Nat, k ≤ l.length ∧ i = .int .i64 ((k : Int) - 1) ∧ (∀ j, (hj : j < l.length) → k ≤ j → l[j].kind ≠ 8) ∧ W = w) (fun i _ => (intOf i + 1).toNat)
  case atStart => exact ⟨l.length, Nat.le_refl _, rfl, fun j hj h => by omega, rfl⟩
  case round =>
    obtain ⟨k, hk, rfl, hj, rfl⟩ := hrel
    have HJ := toHid hj
    clear hj
    by_cases h0 : 0 < k
    · obtain ⟨i, rfl⟩ : ∃ i, k = i + 1 := ⟨k - 1, by omega⟩
      have e1 : ((i + 1 : Nat) : Int) - 1 = (i : Int) := by omega
      rw [e1]
      have hi : i < l.length := by omega
      obtain ⟨b, o, rfl, _⟩ := HL.out.there (by omega)
      obtain ⟨pl, h12, _⟩ := HL.out.get i hi
      have d0 := h12.1
      have hi1 : (i : Int) < (l.length : Int) := by omega
      have hi2 : 0 ≤ (i : Int) := by omega
      clear h12 e1
      by_cases k8 : l[i].kind = 8
      · have q8 : (l[i].kind != 8) = false := by simp [k8]
        have HK := toHid k8
        clear k8
        go_wp2
        go_ret
        exact ⟨⟨_, rfl, .inr ⟨i, rfl, hi, HK.out, fun j hj h => HJ.out j hj (by omega)⟩⟩, Below.refl _ _⟩
      · have q8 : (l[i].kind != 8) = true := by simp [k8]
        have HK := toHid k8
        clear k8
        go_wp2_with fail
        go_roundw
        case rel => exact ⟨i, by omega, by go_num, fun j hj h => by
          by_cases e : j = i
          · subst e; exact HK.out
          · exact HJ.out j hj (by omega), trivial⟩
        case measure => simp [intOf]
    · obtain rfl : k = 0 := by omega
      go_wp2
      go_ret
      exact ⟨⟨_, rfl, .inl ⟨rfl, fun r hr => by obtain ⟨j, hj, rfl⟩ := List.getElem_of_mem hr; exact HJ.out j hj (Nat.zero_le _)⟩⟩, Below.refl _ _⟩
end Go.Proofs.Yticnkppnpfgceaa.Mg

