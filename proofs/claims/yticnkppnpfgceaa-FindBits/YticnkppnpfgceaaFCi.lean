/-
  What a record tells to be taken back: the plain mathematics, the walks of next and Next, the document's Next.
-/
import Derived.Test.YticnkppnpfgceaaFCe
import Derived.Test.YticnkppnpfgceaaFCa
import Derived.Test.YticnkppnpfgceaaMGb
namespace Go.Proofs.Yticnkppnpfgceaa.Mg
open Go.RowKit

def nextF (l : List Rc) : Nat → Nat → Nat
  | 0, _ => 0
  | f + 1, at_ => match findL l at_ with
    | none => 0
    | some r => if chg r then tellN r else nextF l f r.prev
/-- What the record with an LSN tells. -/
def nextL (l : List Rc) (at_ : Nat) : Nat := nextF l (at_ + 1) at_
/-- Each record's Prev and Undo are below it. -/
def Down (l : List Rc) : Prop := ∀ r, r ∈ l → 16 ≤ r.lsn ∧ r.prev < r.lsn ∧ r.undo < r.lsn
theorem may_down {r : Rc} (h : mayB r = true) : 16 ≤ r.lsn ∧ r.prev < r.lsn ∧ r.undo < r.lsn := by
  refine ⟨?_, ?_⟩
  · cases e : lsnB r.lsn
    · rw [may_lsn r e] at h; cases h
    · simp [lsnB] at e; omega
  · by_cases e : r.prev < r.lsn ∧ r.undo < r.lsn
    · exact e
    · rw [may_pu r e] at h; cases h
theorem log_down {l : List Rc} (h : logB l = true) : Down l ∧ RisL l := by
  unfold logB at h
  rw [Bool.and_eq_true] at h
  exact ⟨fun r hr => may_down (List.all_eq_true.1 h.1 r hr), (risB_iff l).1 h.2⟩
theorem findL_mem {l : List Rc} {at_ : Nat} {r : Rc} (h : findL l at_ = some r) : r ∈ l ∧ r.lsn = at_ := by
  unfold findL at h
  exact ⟨List.mem_of_find?_eq_some h, by simpa using List.find?_some h⟩
theorem nextF_any {l : List Rc} (hd : Down l) : ∀ f g at_, at_ < f → at_ < g → nextF l f at_ = nextF l g at_ := by
  intro f
  induction f with
  | zero => intro g at_ h; omega
  | succ f ih =>
    intro g at_ h1 h2
    cases g with
    | zero => omega
    | succ g =>
      simp only [nextF]
      cases e : findL l at_ with
      | none => rfl
      | some r =>
        simp only
        have h3 := findL_mem e
        have h4 := (hd r h3.1).2.1
        split
        · rfl
        · exact ih g r.prev (by omega) (by omega)
theorem nextL_none {l : List Rc} {at_ : Nat} (h : findL l at_ = none) : nextL l at_ = 0 := by simp [nextL, nextF, h]
theorem nextL_chg {l : List Rc} {at_ : Nat} {r : Rc} (h : findL l at_ = some r) (hc : chg r = true) : nextL l at_ = tellN r := by simp [nextL, nextF, h, hc]
theorem nextL_prev {l : List Rc} {at_ : Nat} {r : Rc} (hd : Down l) (h : findL l at_ = some r) (hc : chg r = false) : nextL l at_ = nextL l r.prev := by
  have h3 := findL_mem h
  have h4 := (hd r h3.1).2.1
  have : nextL l at_ = nextF l at_ r.prev := by simp [nextL, nextF, h, hc]
  rw [this]
  exact nextF_any hd _ _ _ (by omega) (by omega)
theorem nextL_le {l : List Rc} (hd : Down l) : ∀ f at_, at_ < f → nextF l f at_ ≤ at_ := by
  intro f
  induction f with
  | zero => intro at_ h; omega
  | succ f ih =>
    intro at_ h1
    simp only [nextF]
    cases e : findL l at_ with
    | none => exact Nat.zero_le _
    | some r =>
      simp only
      have h3 := findL_mem e
      have h4 := hd r h3.1
      split
      · unfold tellN; split <;> omega
      · have := ih r.prev (by omega); omega
theorem find_plc {l : List Rc} {at_ k : Nat} (hp : Plc l at_ k) (hk : k < l.length) (he : l[k].lsn = at_) : findL l at_ = some l[k] := by
  unfold findL
  rw [List.find?_eq_some_iff_getElem]
  refine ⟨by simp [he], k, hk, rfl, fun j hj => ?_⟩
  have := hp.low j (by omega) hj
  simp
  omega
theorem find_plc_no {l : List Rc} {at_ k : Nat} (hr : RisL l) (hp : Plc l at_ k) (he : ∀ hk : k < l.length, l[k].lsn ≠ at_) : findL l at_ = none := by
  unfold findL
  rw [List.find?_eq_none]
  intro r hrm
  obtain ⟨j, hj, rfl⟩ := List.getElem_of_mem hrm
  simp
  by_cases h1 : j < k
  · have := hp.low j hj h1; omega
  · have h2 := he (by omega)
    have h3 := hp.high k (by omega) (Nat.le_refl _)
    by_cases h4 : j = k
    · subst h4; exact h2
    · have := ris_mono hr k j hj (by omega); omega

/-- The number in a variable. -/
def cellN (W : World) (b : Nat) : Nat := match W.cell? ⟨b, 0, none⟩ with
  | some (.int _ n) => n.toNat
  | _ => 0
theorem cellN_of {W : World} {b n : Nat} {t : TypeId} (h : W.heap[b]? = some (.cells #[.int .u64 (n : Int)] t)) : cellN W b = n := by
  have := cell_of_one h
  simp [cellN, this]
theorem boxes2 {w W : World} {x y : Obj} (h : Below ((w.alloc x).alloc y).heap.size ((w.alloc x).alloc y) W) : W.heap[w.heap.size]? = some x ∧ W.heap[w.heap.size + 1]? = some y := two_kept' h

set_option maxRecDepth 100000 in
set_option maxHeartbeats 4000000 in
theorem next39 (a : Option Addr) (c : Nat) (l : List Rc) (at_ : Nat) (w0 w : World) (hL : SlR w0 a l) (hb0 : Below w0.heap.size w0 w) (hl : l.length ≤ 1000) (hd : Down l) (hr : RisL l) :
    Calls Try.prog 39 #[.slice a l.length c, .int .u64 (at_ : Int)] w fun e w' => e = .returned (.int .u64 (nextL l at_ : Int)) ∧ Below w.heap.size w w' := by
  have hmf : ∀ (fn : Fn) (first cap : Array Value) (w : World), (Instr.makeFunc fn first cap).run Try.prog w = .ok (.func fn first cap) w := fun _ _ _ _ => rfl
  have HL := toHid (hL.below hb0)
  have HD := toHid hd
  have HR := toHid hr
  have hb : Below w.heap.size w ((w.alloc (.cells #[.slice a l.length c] 22)).alloc (.cells #[.int .u64 (at_ : Int)] 30)) := ((Below.refl _ _).alloc (Nat.le_refl _) _).alloc (by simp) _
  have HB := toHid hb
  have HX0 := toHid (heap_alloc2_old w (.cells #[.slice a l.length c] 22) (.cells #[.int .u64 (at_ : Int)] 30))
  have HX1 := toHid (heap_alloc2_new w (.cells #[.slice a l.length c] 22) (.cells #[.int .u64 (at_ : Int)] 30))
  clear hL hb0 hd hr hb
  go_enter Try.func39, Try.ntmps39
  go_wp2_with fail
  go_loopw [] (fun W => ∃ n : Nat, nextL l n = nextL l at_ ∧ Below w.heap.size w W ∧ W.heap[w.heap.size]? = some (.cells #[.slice a l.length c] 22) ∧ W.heap[w.heap.size + 1]? = some (.cells #[.int .u64 (n : Int)] 30)) (fun W => cellN W (w.heap.size + 1))
  case atStart => exact ⟨at_, rfl, HB.out, HX0.out, HX1.out⟩
  case round =>
    obtain ⟨n, hn, hbw, hx0, hx1⟩ := hrel
    have HN := toHid hn
    have HBw := toHid hbw
    have c0 := cell_of_one hx0
    have c1 := cell_of_one hx1
    have f1 := free_of_one hx1
    have HX0 := toHid hx0
    have HX1 := toHid hx1
    have hM := cellN_of hx1
    have HS := toHid (search49 w.heap.size (w.heap.size + 1) a c l n wr ⟨c0, c1, HL.out.below hbw⟩ (by omega) HR.out)
    clear hn hbw hx0 hx1 HB
    have HM := toHid hM
    clear hM
    go_wp2_with fail
    refine Calls.mono HS.out ?_
    rintro e w2 ⟨k, rfl, hp, m, rfl⟩
    have HP := toHid hp
    have hkl := hp.le
    have d0 : (wr.drewN m).cell? ⟨w.heap.size, 0, none⟩ = some (.slice a l.length c) := c0
    have d1 : (wr.drewN m).cell? ⟨w.heap.size + 1, 0, none⟩ = some (.int .u64 (n : Int)) := c1
    have e1 : (wr.drewN m).frozen? ⟨w.heap.size + 1, 0, none⟩ = false := f1
    have HB2 := toHid (show Below w.heap.size w (wr.drewN m) from HBw.out.trans ((below_drewN1 wr m).mono HBw.out.size))
    have HY0 := toHid (show (wr.drewN m).heap[w.heap.size]? = some (.cells #[.slice a l.length c] 22) from HX0.out)
    have HY1 := toHid (show (wr.drewN m).heap[w.heap.size + 1]? = some (.cells #[.int .u64 (n : Int)] 30) from HX1.out)
    clear hp HS c0 c1 f1 HX0 HX1 HBw
    generalize wr.drewN m = W2 at *
    by_cases hk : k < l.length
    · obtain ⟨b, o, rfl, _⟩ := HL.out.there (by omega)
      obtain ⟨pl, h12, _⟩ := (HL.out.below HB2.out).get k hk
      have H12 := toHid h12
      obtain ⟨h0, h1, h2, h3, h4, h5, h6, h7, h8, h9, h10, h11⟩ := h12
      have hk1 : (k : Int) < (l.length : Int) := by omega
      have hk2 : 0 ≤ (k : Int) := by omega
      have hk3 : ((k : Int) == (l.length : Int)) = false := by simp; omega
      by_cases he : l[k].lsn = n
      · have q1 : ((l[k].lsn : Int) != (n : Int)) = false := by simp [he]
        have hf := find_plc HP.out hk he
        have hmem : l[k] ∈ l := List.getElem_mem hk
        have hdn := HD.out _ hmem
        obtain ⟨r, hrr⟩ : ∃ r, l[k] = r := ⟨_, rfl⟩
        rw [hrr] at h0 h1 h2 h3 h4 h5 h6 h7 h8 h9 h10 h11 q1 hf hdn he H12
        cases hc : chg r
        · have HNx := toHid (nextL_prev HD.out hf hc)
          have hC := changes44 r pl
          rw [hc] at hC
          have HC := toHid hC
          clear hC hc hf hmem hrr
          have hlt : r.prev < n := by omega
          clear he
          go_wp2_with fail
          go_quiet (fail)
          go_wp2_with fail
          refine Calls.mono (HC.out _) ?_
          rintro e w3 ⟨rfl, hb3⟩
          have hb4 : Below W2.heap.size W2 w3 := (below_drewN1 W2 nq).trans hb3
          have hx0 := (hb4.block _ (some_lt HY0.out)).trans HY0.out
          have hx1 := (hb4.block _ (some_lt HY1.out)).trans HY1.out
          have H123 := H12.out.stay (hb4.block _ H12.out.lt)
          have HB3 := toHid (HB2.out.trans (hb4.mono HB2.out.size))
          clear d0 d1 e1 h0 h1 h2 h3 h4 h5 h6 h7 h8 h9 h10 h11 hb3 hb4
          obtain ⟨h0, h1, h2, h3, h4, h5, h6, h7, h8, h9, h10, h11⟩ := H123
          have d0 := cell_of_one hx0
          have d1 := cell_of_one hx1
          have e1 := free_of_one hx1
          have HX0 := toHid hx0
          have HX1 := toHid hx1
          clear hx0 hx1
          go_wp2_with fail
          go_roundw
          case rel => exact ⟨r.prev, by rw [← HNx.out]; exact HN.out, HB3.out.setCell (by simp) _, (Below.heap_setCell _ _ _ _ (by simp)).trans HX0.out, by rw [cells_set HX1.out]; rfl⟩
          case measure =>
            rw [HM.out, cellN_of (n := r.prev) (t := 30) (by rw [cells_set HX1.out]; rfl)]
            exact hlt
        · have HNx := toHid (nextL_chg hf hc)
          have hC := changes44 r pl
          rw [hc] at hC
          have HC := toHid hC
          have HT := toHid (tells54 r pl)
          clear hC hc hf hmem hrr he
          go_wp2_with fail
          go_quiet (fail)
          go_wp2_with fail
          refine Calls.mono (HC.out _) ?_
          rintro e w3 ⟨rfl, hb3⟩
          have hb4 : Below W2.heap.size W2 w3 := (below_drewN1 W2 nq).trans hb3
          have hx0 := (hb4.block _ (some_lt HY0.out)).trans HY0.out
          have hx1 := (hb4.block _ (some_lt HY1.out)).trans HY1.out
          have H123 := H12.out.stay (hb4.block _ H12.out.lt)
          have HB3 := toHid (HB2.out.trans (hb4.mono HB2.out.size))
          clear d0 d1 e1 h0 h1 h2 h3 h4 h5 h6 h7 h8 h9 h10 h11 hb3 hb4
          obtain ⟨h0, h1, h2, h3, h4, h5, h6, h7, h8, h9, h10, h11⟩ := H123
          have d0 := cell_of_one hx0
          have d1 := cell_of_one hx1
          have e1 := free_of_one hx1
          have HX0 := toHid hx0
          have HX1 := toHid hx1
          clear hx0 hx1
          go_wp2_with fail
          refine Calls.mono (HT.out _) ?_
          rintro e w4 ⟨rfl, hb4⟩
          have HB4 := toHid (HB3.out.trans (hb4.mono HB3.out.size))
          clear hb4
          go_wp2
          go_ret
          exact ⟨by rw [← HN.out, HNx.out]; rfl, HB4.out⟩
      · have q1 : ((l[k].lsn : Int) != (n : Int)) = true := by simp; omega
        have HNx := toHid (nextL_none (find_plc_no HR.out HP.out fun _ => he))
        clear he
        go_wp2_with fail
        go_quiet (fail)
        go_wp2
        go_ret
        exact ⟨by rw [← HN.out, HNx.out]; rfl, HB2.out.trans (below_drewN1 W2 _ |>.mono HB2.out.size)⟩
    · obtain rfl : k = l.length := by omega
      have hk3 : ((l.length : Int) == (l.length : Int)) = true := by simp
      have HNx := toHid (nextL_none (find_plc_no HR.out HP.out fun h => absurd h hk))
      go_wp2_with fail
      go_quiet (fail)
      go_wp2
      go_ret
      exact ⟨by rw [← HN.out, HNx.out]; rfl, HB2.out.trans (below_drewN1 W2 _ |>.mono HB2.out.size)⟩
set_option maxHeartbeats 1000000 in
theorem next19 (a : Option Addr) (c : Nat) (l : List Rc) (at_ : Nat) (w0 w : World) (hL : SlR w0 a l) (hb0 : Below w0.heap.size w0 w) (hl : l.length ≤ 1000) (hlim : ∀ r, r ∈ l → Lim r) :
    Calls Try.prog 19 #[.slice a l.length c, .int .u64 (at_ : Int)] w fun e w' => e = .returned (.int .u64 ((if logB l then nextL l at_ else 0 : Nat) : Int)) ∧ Below w.heap.size w w' := by
  have hC := check17 a c l w0 w hL hb0 hl hlim
  cases he : logB l
  · rw [he] at hC
    have HC := toHid hC
    have g0 : ((argE false : Int) != 0) = true := by decide
    clear hC
    go_enter Try.func19, Try.ntmps19
    go_wp2_with fail
    refine Calls.mono HC.out ?_
    rintro e w1 ⟨rfl, hb1⟩
    go_wp2
    go_ret
    exact ⟨rfl, hb1⟩
  · rw [he] at hC
    have HC := toHid hC
    have g0 : ((argE true : Int) != 0) = false := by decide
    have HL := toHid hL
    have HB := toHid hb0
    have HD := toHid (log_down he)
    clear hC hL hb0
    go_enter Try.func19, Try.ntmps19
    go_wp2_with fail
    refine Calls.mono HC.out ?_
    rintro e w1 ⟨rfl, hb1⟩
    have HB1 := toHid hb1
    have HN := toHid (next39 a c l at_ w0 w1 HL.out (HB.out.trans (hb1.mono HB.out.size)) hl HD.out.1 HD.out.2)
    clear hb1
    go_wp2_with fail
    refine Calls.mono HN.out ?_
    rintro e w2 ⟨rfl, hb2⟩
    go_wp2
    go_ret
    exact ⟨rfl, HB1.out.trans (hb2.mono HB1.out.size)⟩

set_option maxRecDepth 100000 in
set_option maxHeartbeats 4000000 in
theorem refnext20 (a : Option Addr) (c : Nat) (l : List Rc) (at_ : Nat) (w0 w : World) (hL : SlR w0 a l) (hb0 : Below w0.heap.size w0 w) (hl : l.length ≤ 1000) (hlim : ∀ r, r ∈ l → Lim r) :
    Calls Try.prog 20 #[.slice a l.length c, .int .u64 (at_ : Int)] w fun e w' => e = .returned (.int .u64 ((if logB l then nextL l at_ else 0 : Nat) : Int)) ∧ Below w.heap.size w w' := by
  have hC := reflog30 a c l w0 w hL hb0 hl hlim
  cases he : logB l
  · rw [he] at hC
    have HC := toHid hC
    clear hC
    go_enter Try.func20, Try.ntmps20
    go_wp2_with fail
    refine Calls.mono HC.out ?_
    rintro e w1 ⟨rfl, hb1⟩
    go_wp2
    go_ret
    exact ⟨rfl, hb1⟩
  · rw [he] at hC
    have HC := toHid hC
    have HL := toHid hL
    have HB := toHid hb0
    have HD := toHid (log_down he)
    clear hC hL hb0 he
    go_enter Try.func20, Try.ntmps20
    go_wp2_with fail
    refine Calls.mono HC.out ?_
    rintro e w1 ⟨rfl, hb1⟩
    have HB1 := toHid hb1
    clear hb1 HC
    go_wp2_with fail
    go_loopw [1] (fun v W => ∃ n : Nat, v = .int .u64 (n : Int) ∧ nextL l n = nextL l at_ ∧ Below w.heap.size w W) (fun v _ => (intOf v).toNat)
    case atStart => exact ⟨at_, rfl, rfl, HB1.out⟩
    case round =>
      obtain ⟨n, rfl, hn, hbw⟩ := hrel
      have HN := toHid hn
      have HBw := toHid hbw
      clear hn hbw
      by_cases h0 : n = 0
      · have q0 : ((n : Int) != 0) = false := by simp [h0]
        have HNx := toHid (show nextL l n = 0 from nextL_none (by
          cases e : findL l n with
          | none => rfl
          | some r => have h1 := findL_mem e; have h2 := (HD.out.1 r h1.1).1; omega))
        go_wp2
        go_ret
        exact ⟨by rw [← HN.out, HNx.out]; rfl, HBw.out⟩
      · have q0 : ((n : Int) != 0) = true := by simp [h0]
        have HF := toHid (find40 a c l n w0 wr HL.out (HB.out.trans (HBw.out.mono HB.out.size)) (by omega))
        clear h0
        go_wp2_with fail
        refine Calls.mono HF.out ?_
        rintro e w2 ⟨hcase, hb2⟩
        have HB2 := toHid (HBw.out.trans (hb2.mono HBw.out.size))
        clear HF hb2
        rcases hcase with ⟨hf, rfl⟩ | ⟨r, p, hf, rfl, hri⟩
        · have HNx := toHid (nextL_none hf)
          clear hf
          go_wp2
          go_ret
          exact ⟨by rw [← HN.out, HNx.out]; rfl, HB2.out.alloc HB2.out.size _⟩
        · have h1 := findL_mem hf
          have h2 := HD.out.1 r h1.1
          have HB3 := toHid (HB2.out.alloc HB2.out.size (.cells (recC r p) 50))
          by_cases k1 : r.kind = 1
          · have q1 : (r.kind == 1) = true := by simp [k1]
            have HNx := toHid ((nextL_chg hf (by simp [chg, k1])).trans (show tellN r = n by simp [tellN, k1]; omega))
            clear hf h1 h2 k1
            go_wp2
            go_ret
            exact ⟨by rw [← HN.out, HNx.out]; rfl, HB3.out⟩
          · have q1 : (r.kind == 1) = false := by simp [k1]
            by_cases k2 : r.kind = 2
            · have q2 : (r.kind == 2) = true := by simp [k2]
              have HNx := toHid ((nextL_chg hf (by simp [chg, k2])).trans (show tellN r = r.undo by simp [tellN, k2]))
              clear hf h1 h2 k1 k2
              go_wp2
              go_ret
              exact ⟨by rw [← HN.out, HNx.out]; rfl, HB3.out⟩
            · have q2 : (r.kind == 2) = false := by simp [k2]
              have HNx := toHid (nextL_prev HD.out.1 hf (by simp [chg, k1, k2]))
              have hlt : r.prev < n := by omega
              clear hf h1 h2 k1 k2
              go_wp2_with fail
              go_roundw
              case rel => exact ⟨r.prev, rfl, by rw [← HNx.out]; exact HN.out, HB3.out⟩
              case measure => simp [intOf]; omega
end Go.Proofs.Yticnkppnpfgceaa.Mg
