/-
  The walk of the document's Find.
-/
import Derived.Test.YticnkppnpfgceaaMGa
import Derived.Test.YticnkppnpfgceaaMFc
import Derived.Laws.ResultCell
namespace Go.Proofs.Yticnkppnpfgceaa.Mg
open Go.RowKit

theorem results_rb {fn : Func} {x y : Tmp} (h : fn.results = #[.cell x 50, .tmp y]) (tmps : Array Value) {w : World} {a : Nat} {cs : Array Value} {v : Value} (ha : tmps.getD x undef = .pointer (some ⟨a, 0, none⟩)) (hv : tmps.getD y undef = v) (hc : cs.size = 12)
    (h1 : w.heap[a]? = some (.cells cs 50)) : (results fn tmps).run Try.prog w = .ok (.tuple #[.agg cs, v]) w := by
  have e1 := run_loadVar_row (P := Try.prog) w a 50 50 cs (0, 0) _ h1 Try.underlying50 rfl (by rw [hc]; kernel_rfl)
  have e3 : (asAddr (tmps.getD x undef)).run Try.prog w = .ok ⟨a, 0, none⟩ w := by rw [ha]; rfl
  rw [results_cell_tmp h, e3]
  simp only [Result.andThen_ok, e1, hv]

set_option maxRecDepth 100000 in
set_option maxHeartbeats 8000000 in
theorem find40 (a : Option Addr) (c : Nat) (l : List Rc) (at_ : Nat) (w0 w : World) (hL : SlR w0 a l) (hb0 : Below w0.heap.size w0 w) (hl : l.length ≤ 100000) :
    Calls Try.prog 40 #[.slice a l.length c, .int .u64 (at_ : Int)] w fun e w' => ((findL l at_ = none ∧ e = .returned (.tuple #[.agg zeroR, .bool false])) ∨ ∃ r p, findL l at_ = some r ∧ e = .returned (.tuple #[recV r p, .bool true]) ∧ RI w0 r p) ∧ Below w.heap.size w w' := by
  have HL := toHid hL
  have HBz := toHid hb0
  have HB0 := toHid (show Below w.heap.size w (w.alloc (.cells zeroR 50)) from (Below.refl _ _).alloc (Nat.le_refl _) _)
  have HZ0 := toHid (heap_alloc_new w (.cells zeroR 50))
  clear hL hb0
  go_enter Try.func40, Try.ntmps40
  go_wp2_with fail
  go_loopw [6] (fun k W => ∃ i : Nat, i ≤ l.length ∧ k = .int .i64 i ∧ (∀ j, (hj : j < l.length) → j < i → l[j].lsn ≠ at_) ∧ Below w.heap.size w W ∧ W.heap[w.heap.size]? = some (.cells zeroR 50)) (fun k _ => l.length - (intOf k).toNat)
  case atStart => exact ⟨0, Nat.zero_le _, rfl, fun j _ hj => by omega, HB0.out, HZ0.out⟩
  case round =>
    obtain ⟨i, hi, rfl, hno, hbw, hzw⟩ := hrel
    have HNo := toHid hno
    have HBw := toHid hbw
    have HZw := toHid hzw
    obtain ⟨x0, x1, x2, x3, x4, x5, x6, x7, x8, x9, x10, x11, zf⟩ := cell12 hzw
    clear hno hbw hzw HB0 HZ0
    by_cases hlt : i < l.length
    · obtain ⟨b, o, rfl, hbl⟩ := HL.out.there (by omega)
      obtain ⟨pl, h12, hri⟩ := HL.out.get i hlt
      have HRI := toHid hri
      have h12w := h12.stay (w' := wr) ((HBw.out.block _ (Nat.lt_of_lt_of_le hbl HBz.out.size)).trans (HBz.out.block _ hbl))
      obtain ⟨d0, d1, d2, d3, d4, d5, d6, d7, d8, d9, d10, d11⟩ := h12w
      have hi1 : (i : Int) < (l.length : Int) := by omega
      have hi2 : 0 ≤ (i : Int) := by omega
      clear h12 hri
      by_cases he : l[i].lsn = at_
      · have q1 : ((l[i].lsn : Int) == (at_ : Int)) = true := by simp [he]
        have q2 : (l[i].lsn == at_) = true := by simp [he]
        have HF := toHid (show findL l at_ = some l[i] by
          unfold findL
          rw [List.find?_eq_some_iff_getElem]
          refine ⟨by simp [he], i, hlt, rfl, fun j hj => ?_⟩
          have := HNo.out j (by omega) hj
          simpa using this)
        clear he
        go_wp2
        have hfin := put12_same (.int .i64 l[i].kind) (.int .u64 (l[i].lsn : Int)) (.int .i64 l[i].txn) (.int .u64 (l[i].prev : Int)) (.int .u64 (l[i].undo : Int)) (.int .i64 l[i].page) (.int .i64 l[i].ak) (.string (txt l[i].key)) (.string (txt l[i].old)) (.string (txt l[i].new)) (.slice pl.ta l[i].txns.length pl.tc) (.slice pl.da l[i].dirty.length pl.dc) HZw.out
        refine bodyPost_ret (v := .tuple #[recV l[i] pl, .bool true]) (results_rb Try.results40 _ rfl rfl rfl hfin) rfl ⟨.inr ⟨l[i], pl, HF.out, rfl, HRI.out⟩, put12_below _ _ _ _ _ _ _ _ _ _ _ _ HBw.out (Nat.le_refl _)⟩
      · have q1 : ((l[i].lsn : Int) == (at_ : Int)) = false := by simp; omega
        have q2 : (l[i].lsn == at_) = false := by simp [he]
        have HE := toHid he
        clear he x0 x1 x2 x3 x4 x5 x6 x7 x8 x9 x10 x11 zf
        go_wp2_with fail
        go_roundw
        case rel => exact ⟨i + 1, by omega, by go_num, fun j hj hji => by
          by_cases e : j = i
          · subst e; exact HE.out
          · exact HNo.out j hj (by omega), HBw.out, HZw.out⟩
        case measure => simp [intOf]; omega
    · obtain rfl : i = l.length := by omega
      have HF := toHid (show findL l at_ = none by
        unfold findL
        rw [List.find?_eq_none]
        intro r hr
        obtain ⟨j, hj, rfl⟩ := List.getElem_of_mem hr
        have := HNo.out j hj hj
        simpa using this)
      go_wp2
      have hfin := put12_same (.int .i64 0) (.int .u64 0) (.int .i64 0) (.int .u64 0) (.int .u64 0) (.int .i64 0) (.int .i64 0) (.string ⟨#[]⟩) (.string ⟨#[]⟩) (.string ⟨#[]⟩) (.slice none 0 0) (.slice none 0 0) HZw.out
      refine bodyPost_ret (v := .tuple #[.agg zeroR, .bool false]) (results_rb Try.results40 _ rfl rfl rfl hfin) rfl ⟨.inl ⟨HF.out, rfl⟩, put12_below _ _ _ _ _ _ _ _ _ _ _ _ HBw.out (Nat.le_refl _)⟩

end Go.Proofs.Yticnkppnpfgceaa.Mg
