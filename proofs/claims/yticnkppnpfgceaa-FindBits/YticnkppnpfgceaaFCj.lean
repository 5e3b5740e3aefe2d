/-
  The walk of All; lives; small.
-/
import Derived.Test.YticnkppnpfgceaaFCi
import Derived.Test.YticnkppnpfgceaaFCh
namespace Go.Proofs.Yticnkppnpfgceaa.Mg
open Go.RowKit Go.Maps

theorem may_txn_ok {r : Rc} (h : mayB r = true) : 0 ≤ r.txn ∧ r.txn ≤ 1073741824 := by
  cases e : mTxn r
  · rw [may_txn r e] at h; cases h
  · unfold mTxn at e
    split at e
    all_goals simp [idB] at e; omega
theorem may_page_ok {r : Rc} (h : mayB r = true) : 0 ≤ r.page ∧ r.page < 16 := by
  cases e : mChg r
  · rw [may_chg r e] at h; cases h
  · unfold mChg at e
    split at e
    all_goals simp [pageB] at e; omega
theorem may_wi {r : Rc} (h : mayB r = true) : Wi r.txn ∧ Wi r.page := by
  have h1 := may_txn_ok h
  have h2 := may_page_ok h
  exact ⟨wi_of (by omega) (by omega), wi_of (by omega) (by omega)⟩
def keysK (l : List Rc) : List Lit := (l.map fun r => Lit.int .i64 r.txn) ++ l.map fun r => Lit.int .i64 r.page
theorem keysK_len (l : List Rc) : (keysK l).length = l.length * 2 := by simp [keysK]; omega
theorem keysK_ok {l : List Rc} (h : logB l = true) : ∀ r, r ∈ l → Wi r.txn ∧ Wi r.page ∧ Lit.int .i64 r.txn ∈ keysK l ∧ Lit.int .i64 r.page ∈ keysK l := fun r hr => by
  unfold logB at h
  rw [Bool.and_eq_true] at h
  have := may_wi (List.all_eq_true.1 h.1 r hr)
  exact ⟨this.1, this.2, by unfold keysK; rw [List.mem_append]; exact .inl (List.mem_map.2 ⟨r, hr, rfl⟩), by unfold keysK; rw [List.mem_append]; exact .inr (List.mem_map.2 ⟨r, hr, rfl⟩)⟩
/-- What All finds. -/
def allX (l : List Rc) : Lf := if logB l then overL Lf.nil l else Lf.nil

theorem results_lf {fn : Func} {x y : Tmp} (h : fn.results = #[.cell x 32, .tmp y]) (tmps : Array Value) {w : World} {a : Nat} {cs : Array Value} {v : Value} (ha : tmps.getD x undef = .pointer (some ⟨a, 0, none⟩)) (hv : tmps.getD y undef = v) (hc : cs.size = 4)
    (h1 : w.heap[a]? = some (.cells cs 32)) : (results fn tmps).run Try.prog w = .ok (.tuple #[.agg cs, v]) w := by
  have e1 := run_loadVar_row (P := Try.prog) w a 32 32 cs (0, 0) _ h1 Try.underlying32 rfl (by rw [hc]; kernel_rfl)
  have e3 : (asAddr (tmps.getD x undef)).run Try.prog w = .ok ⟨a, 0, none⟩ w := by rw [ha]; rfl
  rw [results_cell_tmp h, e3]
  simp only [Result.andThen_ok, e1, hv]
abbrev lfZ : Array Value := #[.slice none 0 0, .slice none 0 0, .slice none 0 0, .int .u64 0]
theorem LfR.put {W : World} {B g : Nat} {x : Lf} {vt vn vd a b c d : Value} (h : LfR W B vt vn vd x) (hg : W.heap[g]? = some (.cells #[a, b, c, d] 32)) (p q r s : Value) : LfR ((((W.setCell ⟨g, 0, none⟩ p).setCell ⟨g, 1, none⟩ q).setCell ⟨g, 2, none⟩ r).setCell ⟨g, 3, none⟩ s) B vt vn vd x := by
  have key : ∀ k cs e, W.heap[k]? = some (Obj.cells cs e) → e ≠ 32 → ((((W.setCell ⟨g, 0, none⟩ p).setCell ⟨g, 1, none⟩ q).setCell ⟨g, 2, none⟩ r).setCell ⟨g, 3, none⟩ s).heap[k]? = W.heap[k]? := fun k cs e hk he => by
    have hne : k ≠ g := kind_block hk hg he
    rw [Below.heap_setCell _ _ _ _ hne, Below.heap_setCell _ _ _ _ hne, Below.heap_setCell _ _ _ _ hne, Below.heap_setCell _ _ _ _ hne]
  exact ⟨own_stay h.t fun k c _ hc => key k c _ hc (by decide), own_stay h.n fun k c _ hc => key k c _ hc (by decide), own_stay h.d fun k c _ hc => key k c _ hc (by decide)⟩
theorem LfR.base {W : World} {B B' : Nat} {x : Lf} {vt vn vd : Value} (h : LfR W B vt vn vd x) (hb : B' ≤ B) : LfR W B' vt vn vd x := ⟨ownsRow_base h.t hb, ownsRow_base h.n hb, ownsRow_base h.d hb⟩

set_option maxRecDepth 100000 in
set_option maxHeartbeats 4000000 in
theorem all12 (a : Option Addr) (c : Nat) (l : List Rc) (w0 w : World) (hL : SlR w0 a l) (hb0 : Below w0.heap.size w0 w) (hl : l.length ≤ 500) (hlim : ∀ r, r ∈ l → Lim r) :
    Calls Try.prog 12 #[.slice a l.length c] w fun e w' => ∃ vt vn vd, e = .returned (.tuple #[.agg #[vt, vn, vd, .int .u64 (redoL (allX l).d : Int)], .int .i64 (argE (logB l))]) ∧ LfR w' w.heap.size vt vn vd (allX l) ∧ Below w.heap.size w w' := by
  have hb1 : Below w.heap.size w (w.alloc (.cells lfZ 32)) := (Below.refl _ _).alloc (Nat.le_refl _) _
  have hx1 : (w.alloc (.cells lfZ 32)).heap[w.heap.size]? = some (.cells lfZ 32) := heap_alloc_new _ _
  have hb01 := hb0.trans (hb1.mono hb0.size)
  have hC := check17 a c l w0 (w.alloc (.cells lfZ 32)) hL hb01 (by omega) hlim
  cases he : logB l
  · rw [he] at hC
    have HC := toHid hC
    have g0 : ((argE false : Int) != 0) = true := by decide
    have HX := toHid (show allX l = Lf.nil by simp [allX, he])
    have HB1 := toHid hb1
    have HX1 := toHid hx1
    clear hC hb1 hx1 hb01 hL hb0 he
    go_enter Try.func12, Try.ntmps12
    go_wp2_with fail
    refine Calls.mono HC.out ?_
    rintro e w1 ⟨rfl, hb2⟩
    have hx2 := (hb2.block _ (some_lt HX1.out)).trans HX1.out
    obtain ⟨v0, v1, v2, v3, vf0, vf1, vf2, vf3⟩ := cellsF hx2
    have HX2 := toHid hx2
    have HB2 := toHid (HB1.out.trans (hb2.mono HB1.out.size))
    clear hb2 hx2
    go_wp2
    refine bodyPost_ret (results_lf Try.results12 _ rfl rfl rfl (put4_same HX2.out _ _ _ _)) rfl ⟨.slice none 0 0, .slice none 0 0, .slice none 0 0, by rw [HX.out]; rfl, by rw [HX.out]; exact LfR.nil _ _, put4_below HB2.out (Nat.le_refl _) _ _ _ _⟩
  · rw [he] at hC
    have HC := toHid hC
    have g0 : ((argE true : Int) != 0) = false := by decide
    have HX := toHid (show allX l = overL Lf.nil l by simp [allX, he])
    have HKo := toHid (keysK_ok he)
    have hkl := keysK_len l
    have HB1 := toHid hb1
    have HX1 := toHid hx1
    have HL := toHid hL
    have HB0 := toHid hb01
    clear hC hb1 hx1 hb01 hL hb0 he
    go_enter Try.func12, Try.ntmps12
    go_wp2_with fail
    refine Calls.mono HC.out ?_
    rintro e w1 ⟨rfl, hb2⟩
    have HX2 := toHid ((hb2.block _ (some_lt HX1.out)).trans HX1.out)
    have HB2 := toHid (HB1.out.trans (hb2.mono HB1.out.size))
    have HB3 := toHid (HB0.out.trans (hb2.mono HB0.out.size))
    have hBg := begin27 none 0 0 (keysK l) (by omega) w1
    have HBg := toHid hBg
    clear hb2 hBg HC
    go_wp2_with fail
    refine Calls.mono HBg.out ?_
    rintro e w2 ⟨rfl, hk2, hb2⟩
    have HX3 := toHid ((hb2.block _ (some_lt HX2.out)).trans HX2.out)
    have HB4 := toHid (HB2.out.trans (hb2.mono HB2.out.size))
    have HB5 := toHid (HB3.out.trans (hb2.mono HB3.out.size))
    obtain ⟨W3, hW3⟩ : ∃ W3, W3 = w2.alloc (.cells (fiC (w1.heap.size + 1) (w1.heap.size + 1 + 1) none 0 0) 67) := ⟨_, rfl⟩
    have hb3 : Below w2.heap.size w2 W3 := hW3 ▸ (Below.refl _ _).alloc (Nat.le_refl _) _
    have HF3 := toHid (show W3.heap[w2.heap.size]? = some (.cells (fiC (w1.heap.size + 1) (w1.heap.size + 1 + 1) none 0 0) 67) from hW3 ▸ heap_alloc_new _ _)
    have HK3 := toHid (hk2.below hb3)
    have HX4 := toHid ((hb3.block _ (some_lt HX3.out)).trans HX3.out)
    have HB6 := toHid (HB4.out.trans (hb3.mono HB4.out.size))
    have HB7 := toHid (HB5.out.trans (hb3.mono HB5.out.size))
    have hs0 := HB3.out.size
    have hs1 := HB2.out.size
    have hs2 := hb2.size
    have hA2 := hk2.t.lt
    have hD2 := hk2.d.lt
    have HO := toHid (over28 HK3.out a c l w0 HL.out HB7.out (by omega) (by omega) (by omega) HKo.out)
    have HW3 := toHid hW3
    clear hk2 hb2 hW3 hb3 HBg
    go_wp2_with fail
    simp only [fiC] at HW3
    rw [← HW3.out]
    refine Calls.mono HO.out ?_
    rintro e w4 ⟨rfl, hk4, ht4⟩
    have hxl := some_lt HX1.out
    simp at hxl
    have hs3 := HB1.out.size
    have HX5 := toHid ((ht4.block _ (some_lt HX4.out) (by simp at hs3; omega)).trans HX4.out)
    have hf5 := (ht4.block _ (some_lt HF3.out) (by omega)).trans HF3.out
    have HB8 := toHid (HB6.out.trans (ht4.below HB6.out.size (by intro i hi; omega)))
    obtain ⟨f0, f1, f2, _, _, _⟩ := cellsT hf5
    have HLe := toHid (left29 hk4)
    clear hk4 ht4 hf5 HO
    go_wp2_with fail
    refine Calls.mono HLe.out ?_
    rintro e w5 ⟨vt, vn, vd, rfl, hR, hb5⟩
    have hx6 := (hb5.block _ (some_lt HX5.out)).trans HX5.out
    obtain ⟨v0, v1, v2, v3, vf0, vf1, vf2, vf3⟩ := cellsF hx6
    have HX6 := toHid hx6
    have HB9 := toHid (HB8.out.trans (hb5.mono HB8.out.size))
    have HRR := toHid (hR.base HB8.out.size)
    obtain ⟨ta, tc, rfl⟩ := ownsRow_shape2 hR.t
    obtain ⟨na, nc, rfl⟩ := ownsRow_shape2 hR.n
    obtain ⟨da, dc, rfl⟩ := ownsRow_shape2 hR.d
    clear hx6 hb5 hR HLe
    rw [← HX.out] at HRR
    go_wp2
    refine bodyPost_ret (results_lf Try.results12 _ rfl rfl rfl (put4_same HX6.out _ _ _ _)) rfl ⟨_, _, _, by rw [HX.out]; rfl, HRR.out.put HX6.out _ _ _ _, put4_below HB9.out (Nat.le_refl _) _ _ _ _⟩
end Go.Proofs.Yticnkppnpfgceaa.Mg
