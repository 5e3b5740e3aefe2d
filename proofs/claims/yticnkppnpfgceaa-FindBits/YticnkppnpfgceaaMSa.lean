/-
  When two changes, two rows, two records are the same: the document's Same.
-/
import Derived.Test.YticnkppnpfgceaaMRd
import Derived.Laws.StructEq
namespace Go.Proofs.Yticnkppnpfgceaa.Mg
open Go.RowKit

theorem txt_toList (l : List UInt8) : (txt l).toList = l := by simp [txt]
abbrev actV (ak : Int) (key old new : List UInt8) : Value := .agg #[.int .i64 ak, .string (txt key), .string (txt old), .string (txt new)]
theorem Try.held42 : Try.prog.stoodInHeld 48 = false := by kernel_rfl
theorem Try.held65 : Try.prog.stoodInHeld 57 = false := by kernel_rfl
theorem Try.held67 : Try.prog.stoodInHeld 60 = false := by kernel_rfl
theorem Try.struct42 : Try.prog.underlying 48 = some (.struct (Try.prog.fieldsOf 48)) := by kernel_rfl
theorem Try.struct65 : Try.prog.underlying 57 = some (.struct (Try.prog.fieldsOf 57)) := by kernel_rfl
theorem Try.struct67 : Try.prog.underlying 60 = some (.struct (Try.prog.fieldsOf 60)) := by kernel_rfl
theorem Try.guard42 : Try.prog.eqGuardType Try.prog.depth 48 = false := by kernel_rfl
theorem Try.guard65 : Try.prog.eqGuardType Try.prog.depth 57 = false := by kernel_rfl
theorem Try.guard67 : Try.prog.eqGuardType Try.prog.depth 60 = false := by kernel_rfl

theorem act_eq (ak bk : Int) (k o n k' o' n' : ByteArray) (w : World) :
    (Op.equalIn 10000 48 (.agg #[.int .i64 ak, .string k, .string o, .string n]) (.agg #[.int .i64 bk, .string k', .string o', .string n'])).run Try.prog w = .ok ((ak == bk) && ((k.toList == k'.toList) && ((o.toList == o'.toList) && (n.toList == n'.toList)))) w := by
  rw [show (10000 : Nat) = 9999 + 1 from rfl, run_equalIn_struct w 9999 48 _ _ Try.struct42 Try.held42]
  simp [Program.fieldsOf, Try.underlying48, Op.eqFields, go_sem]
  repeat' split
  all_goals simp_all

theorem tx_eq (a b c a' b' c' : Int) (w : World) :
    (Op.equalIn 10000 57 (.agg #[.int .i64 a, .int .i64 b, .int .u64 c]) (.agg #[.int .i64 a', .int .i64 b', .int .u64 c'])).run Try.prog w = .ok ((a == a') && ((b == b') && (c == c'))) w := by
  rw [show (10000 : Nat) = 9999 + 1 from rfl, run_equalIn_struct w 9999 57 _ _ Try.struct65 Try.held65]
  simp [Program.fieldsOf, Try.underlying57, Op.eqFields, go_sem]
  repeat' split
  all_goals simp_all

theorem di_eq (a c a' c' : Int) (w : World) :
    (Op.equalIn 10000 60 (.agg #[.int .i64 a, .int .u64 c]) (.agg #[.int .i64 a', .int .u64 c'])).run Try.prog w = .ok ((a == a') && (c == c')) w := by
  rw [show (10000 : Nat) = 9999 + 1 from rfl, run_equalIn_struct w 9999 60 _ _ Try.struct67 Try.held67]
  simp [Program.fieldsOf, Try.underlying60, Op.eqFields, go_sem]
  repeat' split
  all_goals simp_all

theorem act_same (ak bk : Int) (k o n k' o' n' : List UInt8) (w : World) :
    (Op.equalIn 10000 48 (actV ak k o n) (actV bk k' o' n')).run Try.prog w = .ok (decide (ak = bk ∧ k = k' ∧ o = o' ∧ n = n')) w := by
  rw [act_eq]
  congr 1
  simp only [txt_toList]
  rw [Bool.eq_iff_iff]
  simp
theorem tx_same (t u : Tx) (w : World) :
    (Op.equalIn 10000 57 (.agg #[.int .i64 t.id, .int .i64 t.st, .int .u64 (t.last : Nat)]) (.agg #[.int .i64 u.id, .int .i64 u.st, .int .u64 (u.last : Nat)])).run Try.prog w = .ok (decide (t = u)) w := by
  rw [tx_eq]
  congr 1
  obtain ⟨a, b, c⟩ := t
  obtain ⟨a', b', c'⟩ := u
  rw [Bool.eq_iff_iff]
  simp
  omega
theorem di_same (t u : Di) (w : World) :
    (Op.equalIn 10000 60 (.agg #[.int .i64 t.page, .int .u64 (t.lsn : Nat)]) (.agg #[.int .i64 u.page, .int .u64 (u.lsn : Nat)])).run Try.prog w = .ok (decide (t = u)) w := by
  rw [di_eq]
  congr 1
  obtain ⟨a, b⟩ := t
  obtain ⟨a', b'⟩ := u
  rw [Bool.eq_iff_iff]
  simp
  omega


structure RJ (w : World) (r : Rc) (ta da : Option Addr) : Prop where
  t : SlT w ta r.txns
  d : SlD w da r.dirty
  lt : r.txns.length ≤ maxLen
  ld : r.dirty.length ≤ maxLen
theorem RJ.below {w w' : World} {r : Rc} {ta da : Option Addr} (h : RJ w r ta da) (hb : Below w.heap.size w w') : RJ w' r ta da := ⟨h.t.below hb, h.d.below hb, h.lt, h.ld⟩
theorem lt_of_block {w : World} {b : Nat} {o : Obj} (h : w.heap[b]? = some o) : b < w.heap.size := (Array.getElem?_eq_some_iff.1 h).1
theorem two_kept {w w' : World} {A B : Obj} (hb : Below (w.heap.size + 2) ((w.alloc A).alloc B) w') : w'.heap[w.heap.size]? = some A ∧ w'.heap[w.heap.size + 1]? = some B := by
  refine ⟨?_, ?_⟩
  · rw [hb.block _ (by omega)]
    exact heap_alloc2_old _ _ _
  · rw [hb.block _ (by omega)]
    exact heap_alloc2_new _ _ _
theorem boxes {w W : World} {a b : Rc} {p q : Pl} (h : Below (w.heap.size + 2) ((w.alloc (.cells (recC a p) 50)).alloc (.cells (recC b q) 50)) W) :
    W.heap[w.heap.size]? = some (.cells (recC a p) 50) ∧ W.heap[w.heap.size + 1]? = some (.cells (recC b q) 50) := two_kept h
theorem box2_below {w W : World} {A B : Obj} (h : Below (w.heap.size + 2) ((w.alloc A).alloc B) W) : Below w.heap.size w W :=
  (((Below.refl _ _).alloc (Nat.le_refl _) _).alloc (by simp) _).trans (h.mono (by omega))
theorem below_drewN' {B : Nat} {w w' : World} (h : Below B w w') (n : Nat) : Below B w (w'.drewN n) := ⟨h.os, h.tape, h.output, h.size, h.block⟩
theorem take_eq_succ {α : Type} (l m : List α) (k : Nat) (hl : k < l.length) (hm : k < m.length) (h : l.take k = m.take k) (e : l[k] = m[k]) : l.take (k + 1) = m.take (k + 1) := by
  rw [List.take_succ_eq_append_getElem hl, List.take_succ_eq_append_getElem hm, h, e]

set_option maxRecDepth 20000 in
set_option maxHeartbeats 4000000 in
theorem refsame_any (a b : Rc) (ta : Option Addr) (tc : Nat) (da : Option Addr) (dc : Nat) (ta2 : Option Addr) (tc2 : Nat) (da2 : Option Addr) (dc2 : Nat) (w : World) (ha : RJ w a ta da) (hb : RJ w b ta2 da2) :
    Calls Try.prog 38 #[recV a ⟨ta, tc, da, dc⟩, recV b ⟨ta2, tc2, da2, dc2⟩] w fun e w' => e = .returned (.bool (decide (a = b))) ∧ Below w.heap.size w w' := by
  have HB : Hid (Below w.heap.size w ((w.alloc (.cells (recC a ⟨ta, tc, da, dc⟩) 50)).alloc (.cells (recC b ⟨ta2, tc2, da2, dc2⟩) 50))) := ((Below.refl _ _).alloc (Nat.le_refl _) _).alloc (by simp) _
  have HA := toHid (ha)
  have HBB := toHid (hb)
  have h3a := ha.lt
  have h4a := ha.ld
  have h3b := hb.lt
  have h4b := hb.ld
  unfold maxLen at h3a h4a h3b h4b
  have hact := act_same a.ak b.ak a.key a.old a.new b.key b.old b.new
  have hgd := Try.guard42
  clear ha hb
  by_cases h0 : a.kind = b.kind
  rotate_left
  · have HQ : Hid (decide (a = b) = false) := by show _ = _; exact decide_eq_false (fun e => h0 (by rw [e]))
    have f0 : (a.kind != b.kind) = true := by simp [h0]
    have H0 := toHid (h0)
    clear h0
    clear hact
    go_enter Try.func38, Try.ntmps38
    go_wp2
    go_ret
    exact ⟨by rw [HQ.out]; rfl, HB.out⟩
  have f0 : (a.kind != b.kind) = false := by simp [h0]
  have H0 := toHid (h0)
  clear h0
  by_cases h1 : a.lsn = b.lsn
  rotate_left
  · have HQ : Hid (decide (a = b) = false) := by show _ = _; exact decide_eq_false (fun e => h1 (by rw [e]))
    have f1 : (a.lsn != b.lsn) = true := by simp [h1]
    have g1 : ((a.lsn : Int) != (b.lsn : Int)) = true := by simp; omega
    have H1 := toHid (h1)
    clear h1
    clear hact
    go_enter Try.func38, Try.ntmps38
    go_wp2
    go_ret
    exact ⟨by rw [HQ.out]; rfl, HB.out⟩
  have f1 : (a.lsn != b.lsn) = false := by simp [h1]
  have g1 : ((a.lsn : Int) != (b.lsn : Int)) = false := by simp; omega
  have H1 := toHid (h1)
  clear h1
  by_cases h2 : a.txn = b.txn
  rotate_left
  · have HQ : Hid (decide (a = b) = false) := by show _ = _; exact decide_eq_false (fun e => h2 (by rw [e]))
    have f2 : (a.txn != b.txn) = true := by simp [h2]
    have H2 := toHid (h2)
    clear h2
    clear hact
    go_enter Try.func38, Try.ntmps38
    go_wp2
    go_ret
    exact ⟨by rw [HQ.out]; rfl, HB.out⟩
  have f2 : (a.txn != b.txn) = false := by simp [h2]
  have H2 := toHid (h2)
  clear h2
  by_cases h3 : a.prev = b.prev
  rotate_left
  · have HQ : Hid (decide (a = b) = false) := by show _ = _; exact decide_eq_false (fun e => h3 (by rw [e]))
    have f3 : (a.prev != b.prev) = true := by simp [h3]
    have g3 : ((a.prev : Int) != (b.prev : Int)) = true := by simp; omega
    have H3 := toHid (h3)
    clear h3
    clear hact
    go_enter Try.func38, Try.ntmps38
    go_wp2
    go_ret
    exact ⟨by rw [HQ.out]; rfl, HB.out⟩
  have f3 : (a.prev != b.prev) = false := by simp [h3]
  have g3 : ((a.prev : Int) != (b.prev : Int)) = false := by simp; omega
  have H3 := toHid (h3)
  clear h3
  by_cases h4 : a.undo = b.undo
  rotate_left
  · have HQ : Hid (decide (a = b) = false) := by show _ = _; exact decide_eq_false (fun e => h4 (by rw [e]))
    have f4 : (a.undo != b.undo) = true := by simp [h4]
    have g4 : ((a.undo : Int) != (b.undo : Int)) = true := by simp; omega
    have H4 := toHid (h4)
    clear h4
    clear hact
    go_enter Try.func38, Try.ntmps38
    go_wp2
    go_ret
    exact ⟨by rw [HQ.out]; rfl, HB.out⟩
  have f4 : (a.undo != b.undo) = false := by simp [h4]
  have g4 : ((a.undo : Int) != (b.undo : Int)) = false := by simp; omega
  have H4 := toHid (h4)
  clear h4
  by_cases h5 : a.page = b.page
  rotate_left
  · have HQ : Hid (decide (a = b) = false) := by show _ = _; exact decide_eq_false (fun e => h5 (by rw [e]))
    have f5 : (a.page != b.page) = true := by simp [h5]
    have H5 := toHid (h5)
    clear h5
    clear hact
    go_enter Try.func38, Try.ntmps38
    go_wp2
    go_ret
    exact ⟨by rw [HQ.out]; rfl, HB.out⟩
  have f5 : (a.page != b.page) = false := by simp [h5]
  have H5 := toHid (h5)
  clear h5
  by_cases h6 : a.ak = b.ak ∧ a.key = b.key ∧ a.old = b.old ∧ a.new = b.new
  rotate_left
  · have HQ : Hid (decide (a = b) = false) := by show _ = _; exact decide_eq_false (fun e => h6 (by rw [e]; exact ⟨rfl, rfl, rfl, rfl⟩))
    rw [decide_eq_false h6] at hact
    clear h6
    go_enter Try.func38, Try.ntmps38
    go_wp2
    go_ret
    exact ⟨by rw [HQ.out]; rfl, HB.out⟩
  rw [decide_eq_true h6] at hact
  have H6 := toHid (h6)
  clear h6
  by_cases h7 : a.txns.length = b.txns.length
  rotate_left
  · have HQ : Hid (decide (a = b) = false) := by show _ = _; exact decide_eq_false (fun e => h7 (by rw [e]))
    have f7 : ((a.txns.length : Int) != (b.txns.length : Int)) = true := by simp; omega
    have f7' : (a.txns.length != b.txns.length) = true := by simp [h7]
    clear h7
    go_enter Try.func38, Try.ntmps38
    go_wp2
    go_ret
    exact ⟨by rw [HQ.out]; rfl, HB.out⟩
  have f7 : ((a.txns.length : Int) != (b.txns.length : Int)) = false := by simp; omega
  have f7' : (a.txns.length != b.txns.length) = false := by simp [h7]
  have HNt := toHid (h7)
  clear h7
  by_cases h8 : a.dirty.length = b.dirty.length
  rotate_left
  · have HQ : Hid (decide (a = b) = false) := by show _ = _; exact decide_eq_false (fun e => h8 (by rw [e]))
    have f8 : ((a.dirty.length : Int) != (b.dirty.length : Int)) = true := by simp; omega
    have f8' : (a.dirty.length != b.dirty.length) = true := by simp [h8]
    clear h8
    go_enter Try.func38, Try.ntmps38
    go_wp2
    go_ret
    exact ⟨by rw [HQ.out]; rfl, HB.out⟩
  have f8 : ((a.dirty.length : Int) != (b.dirty.length : Int)) = false := by simp; omega
  have f8' : (a.dirty.length != b.dirty.length) = false := by simp [h8]
  have HNd := toHid (h8)
  clear h8
  have HK : Hid (Below (w.heap.size + 2) ((w.alloc (.cells (recC a ⟨ta, tc, da, dc⟩) 50)).alloc (.cells (recC b ⟨ta2, tc2, da2, dc2⟩) 50)) ((w.alloc (.cells (recC a ⟨ta, tc, da, dc⟩) 50)).alloc (.cells (recC b ⟨ta2, tc2, da2, dc2⟩) 50))) := Below.refl _ _
  go_enter Try.func38, Try.ntmps38
  go_wp2_with fail
  clear hact f0 f1 g1 f2 f3 g3 f4 g4 f5 f7 f7' f8 f8'
  go_loopw [5] (fun i wr => ∃ k : Nat, k ≤ a.txns.length ∧ i = .int .i64 k ∧ a.txns.take k = b.txns.take k ∧ Below (w.heap.size + 2) ((w.alloc (.cells (recC a ⟨ta, tc, da, dc⟩) 50)).alloc (.cells (recC b ⟨ta2, tc2, da2, dc2⟩) 50)) wr) (fun i _ => a.txns.length - (intOf i).toNat)
  case atStart => exact ⟨0, Nat.zero_le _, rfl, rfl, HK.out⟩
  case round =>
    obtain ⟨k, hk, rfl, htk, hKr⟩ := hrel
    have HTk := toHid (htk)
    clear htk HK
    have HK := toHid (hKr)
    clear hKr
    obtain ⟨ka, kb⟩ := boxes HK.out
    obtain ⟨x0, x1, x2, x3, x4, x5, x6, x7, x8, x9, x10, x11, _⟩ := cell12 ka
    obtain ⟨y0, y1, y2, y3, y4, y5, y6, y7, y8, y9, y10, y11, _⟩ := cell12 kb
    have hza := lt_of_block ka
    have hzb := lt_of_block kb
    clear ka kb
    by_cases hlt : k < a.txns.length
    · have hlt2 : k < b.txns.length := by have := HNt.out; omega
      obtain ⟨ba, oa, hea, hba, c0, c1, c2⟩ := (HA.out.below (box2_below HK.out)).t.at k hlt
      obtain ⟨bb, ob, heb, hbb, d0, d1, d2⟩ := (HBB.out.below (box2_below HK.out)).t.at k hlt2
      subst hea
      subst heb
      have hE := tx_same a.txns[k] b.txns[k]
      have hge := Try.guard65
      by_cases heq : a.txns[k] = b.txns[k]
      · rw [decide_eq_true heq] at hE
        have HQ := toHid (take_eq_succ a.txns b.txns k hlt hlt2 HTk.out heq)
        clear heq
        go_wp2_with fail
        go_quiet (fail)
        go_wp2
        go_roundw
        case rel => exact ⟨k + 1, by omega, by go_num, HQ.out, below_drewN' HK.out _⟩
        case measure => simp [intOf]; omega
      · rw [decide_eq_false heq] at hE
        have HQ : Hid (decide (a = b) = false) := by
          show _ = _
          exact decide_eq_false (fun e => heq (by subst e; rfl))
        clear heq
        go_wp2_with fail
        go_quiet (fail)
        go_wp2
        go_ret
        exact ⟨by rw [HQ.out]; rfl, box2_below (below_drewN' HK.out _)⟩
    · obtain rfl : k = a.txns.length := by omega
      have HL5 : Hid (a.txns = b.txns) := by
        show _ = _
        have h1 := HTk.out
        rw [List.take_length, HNt.out, List.take_length] at h1
        exact h1
      clear HTk hlt hk
      go_wp2_with fail
      clear x0 x1 x2 x3 x4 x5 x6 x7 x8 x9 x10 x11 y0 y1 y2 y3 y4 y5 y6 y7 y8 y9 y10 y11
      go_loopw [6] (fun i wr => ∃ k : Nat, k ≤ a.dirty.length ∧ i = .int .i64 k ∧ a.dirty.take k = b.dirty.take k ∧ Below (w.heap.size + 2) ((w.alloc (.cells (recC a ⟨ta, tc, da, dc⟩) 50)).alloc (.cells (recC b ⟨ta2, tc2, da2, dc2⟩) 50)) wr) (fun i _ => a.dirty.length - (intOf i).toNat)
      case atStart => exact ⟨0, Nat.zero_le _, rfl, rfl, HK.out⟩
      case round =>
        obtain ⟨k, hk, rfl, htk, hKr⟩ := hrel
        have HTk := toHid (htk)
        clear htk HK
        have HK := toHid (hKr)
        clear hKr
        obtain ⟨ka, kb⟩ := boxes HK.out
        obtain ⟨x0, x1, x2, x3, x4, x5, x6, x7, x8, x9, x10, x11, _⟩ := cell12 ka
        obtain ⟨y0, y1, y2, y3, y4, y5, y6, y7, y8, y9, y10, y11, _⟩ := cell12 kb
        have hza := lt_of_block ka
        have hzb := lt_of_block kb
        clear ka kb
        by_cases hlt : k < a.dirty.length
        · have hlt2 : k < b.dirty.length := by have := HNd.out; omega
          obtain ⟨ba, oa, hea, hba, c0, c1⟩ := (HA.out.below (box2_below HK.out)).d.at k hlt
          obtain ⟨bb, ob, heb, hbb, d0, d1⟩ := (HBB.out.below (box2_below HK.out)).d.at k hlt2
          subst hea
          subst heb
          have hE := di_same a.dirty[k] b.dirty[k]
          have hge := Try.guard67
          by_cases heq : a.dirty[k] = b.dirty[k]
          · rw [decide_eq_true heq] at hE
            have HQ := toHid (take_eq_succ a.dirty b.dirty k hlt hlt2 HTk.out heq)
            clear heq
            go_wp2_with fail
            go_quiet (fail)
            go_wp2
            go_roundw
            case rel => exact ⟨k + 1, by omega, by go_num, HQ.out, below_drewN' HK.out _⟩
            case measure => simp [intOf]; omega
          · rw [decide_eq_false heq] at hE
            have HQ : Hid (decide (a = b) = false) := by
              show _ = _
              exact decide_eq_false (fun e => heq (by subst e; rfl))
            clear heq
            go_wp2_with fail
            go_quiet (fail)
            go_wp2
            go_ret
            exact ⟨by rw [HQ.out]; rfl, box2_below (below_drewN' HK.out _)⟩
        · obtain rfl : k = a.dirty.length := by omega
          have HL6 : Hid (a.dirty = b.dirty) := by
            show _ = _
            have h1 := HTk.out
            rw [List.take_length, HNd.out, List.take_length] at h1
            exact h1
          clear HTk hlt hk
          have HQ : Hid (decide (a = b) = true) := by
            show _ = _
            have e0 := H0.out
            have e1 := H1.out
            have e2 := H2.out
            have e3 := H3.out
            have e4 := H4.out
            have e5 := H5.out
            obtain ⟨e6, e7, e8, e9⟩ := H6.out
            have e10 := HL5.out
            have e11 := HL6.out
            apply decide_eq_true
            cases a
            cases b
            simp_all
          go_wp2
          go_ret
          exact ⟨by rw [HQ.out]; rfl, box2_below HK.out⟩

end Go.Proofs.Yticnkppnpfgceaa.Mg
