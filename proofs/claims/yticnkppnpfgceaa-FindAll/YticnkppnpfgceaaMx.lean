/-
  The walks of mustBeTxns and mustBeDirty.
-/
import Derived.Test.YticnkppnpfgceaaMu
import Derived.Test.YticnkppnpfgceaaQt
namespace Go.Proofs.Yticnkppnpfgceaa
open Go.RowKit

/-- A slice of rows of transactions. -/
structure SlT (w : World) (a : Option Addr) (l : List Tx) : Prop where
  nonil : a = none → l = []
  cells : ∀ x, a = some x → ∀ i t, l[i]? = some t → x.spot = none ∧ w.cell? ⟨x.block, x.off + i * 3, none⟩ = some (.int .i64 t.id) ∧ w.cell? ⟨x.block, x.off + i * 3 + 1, none⟩ = some (.int .i64 t.st) ∧ w.cell? ⟨x.block, x.off + i * 3 + 2, none⟩ = some (.int .u64 (t.last : Nat))
/-- A slice of rows of dirty pages. -/
structure SlD (w : World) (a : Option Addr) (l : List Di) : Prop where
  nonil : a = none → l = []
  cells : ∀ x, a = some x → ∀ i t, l[i]? = some t → x.spot = none ∧ w.cell? ⟨x.block, x.off + i * 2, none⟩ = some (.int .i64 t.page) ∧ w.cell? ⟨x.block, x.off + i * 2 + 1, none⟩ = some (.int .u64 (t.lsn : Nat))

theorem SlT.below {w w' : World} {a : Option Addr} {l : List Tx} (h : SlT w a l) (hb : Below w.heap.size w w') : SlT w' a l :=
  ⟨h.nonil, fun x hx i t ht => by
    obtain ⟨h0, h1, h2, h3⟩ := h.cells x hx i t ht
    have hlt := World.block_lt_of_cell? _ _ h1
    exact ⟨h0, by rw [hb.cell (by exact hlt)]; exact h1, by rw [hb.cell (by exact hlt)]; exact h2, by rw [hb.cell (by exact hlt)]; exact h3⟩⟩
theorem SlD.below {w w' : World} {a : Option Addr} {l : List Di} (h : SlD w a l) (hb : Below w.heap.size w w') : SlD w' a l :=
  ⟨h.nonil, fun x hx i t ht => by
    obtain ⟨h0, h1, h2⟩ := h.cells x hx i t ht
    have hlt := World.block_lt_of_cell? _ _ h1
    exact ⟨h0, by rw [hb.cell (by exact hlt)]; exact h1, by rw [hb.cell (by exact hlt)]; exact h2⟩⟩

theorem SlT.at {w : World} {a : Option Addr} {l : List Tx} (h : SlT w a l) (i : Nat) (hi : i < l.length) : ∃ b o, a = some ⟨b, o, none⟩ ∧ b < w.heap.size ∧
    w.cell? ⟨b, o + i * 3, none⟩ = some (.int .i64 l[i].id) ∧ w.cell? ⟨b, o + i * 3 + 1, none⟩ = some (.int .i64 l[i].st) ∧ w.cell? ⟨b, o + i * 3 + 2, none⟩ = some (.int .u64 (l[i].last : Nat)) := by
  cases a with
  | none => have := h.nonil rfl; subst this; simp at hi
  | some x =>
    obtain ⟨b, o, sp⟩ := x
    obtain ⟨h0, h1, h2, h3⟩ := h.cells _ rfl i _ (List.getElem?_eq_getElem hi)
    simp only at h0 h1 h2 h3
    subst h0
    exact ⟨b, o, rfl, World.block_lt_of_cell? _ _ h1, h1, h2, h3⟩
theorem SlD.at {w : World} {a : Option Addr} {l : List Di} (h : SlD w a l) (i : Nat) (hi : i < l.length) : ∃ b o, a = some ⟨b, o, none⟩ ∧ b < w.heap.size ∧
    w.cell? ⟨b, o + i * 2, none⟩ = some (.int .i64 l[i].page) ∧ w.cell? ⟨b, o + i * 2 + 1, none⟩ = some (.int .u64 (l[i].lsn : Nat)) := by
  cases a with
  | none => have := h.nonil rfl; subst this; simp at hi
  | some x =>
    obtain ⟨b, o, sp⟩ := x
    obtain ⟨h0, h1, h2⟩ := h.cells _ rfl i _ (List.getElem?_eq_getElem hi)
    simp only at h0 h1 h2
    subst h0
    exact ⟨b, o, rfl, World.block_lt_of_cell? _ _ h1, h1, h2⟩

theorem SlT.here {w : World} {b o : Nat} {l : List Tx} (h : SlT w (some ⟨b, o, none⟩) l) (i : Nat) (hi : i < l.length) : b < w.heap.size ∧
    w.cell? ⟨b, o + i * 3, none⟩ = some (.int .i64 l[i].id) ∧ w.cell? ⟨b, o + i * 3 + 1, none⟩ = some (.int .i64 l[i].st) ∧ w.cell? ⟨b, o + i * 3 + 2, none⟩ = some (.int .u64 (l[i].last : Nat)) := by
  obtain ⟨b', o', e, h1⟩ := h.at i hi
  simp at e
  obtain ⟨rfl, rfl⟩ := e
  exact h1
theorem SlD.here {w : World} {b o : Nat} {l : List Di} (h : SlD w (some ⟨b, o, none⟩) l) (i : Nat) (hi : i < l.length) : b < w.heap.size ∧
    w.cell? ⟨b, o + i * 2, none⟩ = some (.int .i64 l[i].page) ∧ w.cell? ⟨b, o + i * 2 + 1, none⟩ = some (.int .u64 (l[i].lsn : Nat)) := by
  obtain ⟨b', o', e, h1⟩ := h.at i hi
  simp at e
  obtain ⟨rfl, rfl⟩ := e
  exact h1

theorem txAt_zero (l : List Tx) (h : 0 < l.length) : txAt l 0 = txB l[0] := by
  simp [txAt, List.getElem?_eq_getElem h]
theorem txAt_succ (l : List Tx) (k : Nat) (h : k + 1 < l.length) : txAt l (k + 1) = (decide (l[k].id < l[k + 1].id) && txB l[k + 1]) := by
  simp [txAt, List.getElem?_eq_getElem h, List.getElem?_eq_getElem (show k < l.length by omega)]
theorem diAt_zero (l : List Di) (h : 0 < l.length) : diAt l 0 = diB l[0] := by
  simp [diAt, List.getElem?_eq_getElem h]
theorem diAt_succ (l : List Di) (k : Nat) (h : k + 1 < l.length) : diAt l (k + 1) = (decide (l[k].page < l[k + 1].page) && diB l[k + 1]) := by
  simp [diAt, List.getElem?_eq_getElem h, List.getElem?_eq_getElem (show k < l.length by omega)]

theorem txnsB_no (l : List Tx) (i : Nat) (hi : i < l.length) (h : txAt l i = false) : txnsB l = false := by
  unfold txnsB
  rw [txUpto_no l _ i hi h, Bool.and_false]
theorem dirtyB_no (l : List Di) (i : Nat) (hi : i < l.length) (h : diAt l i = false) : dirtyB l = false := by
  unfold dirtyB
  rw [diUpto_no l _ i hi h, Bool.and_false]

theorem below_drewN' {B : Nat} {w W : World} (h : Below B w W) (n : Nat) : Below B w (W.drewN n) := by
  induction n with
  | zero => exact h
  | succ n ih => exact ih.drew

theorem Try.mixed : Try.prog.follows .mixedOrders = true := by kernel_rfl

set_option maxHeartbeats 1000000 in
theorem txns_any (a : Option Addr) (c : Nat) (l : List Tx) (w : World) (h : SlT w a l) (hl : l.length ≤ maxLen) :
    Calls Try.prog 76 #[.slice a l.length c] w fun e w' => e = endM (txnsB l) ∧ Below w.heap.size w w' := by
  unfold maxLen at hl
  go_enter Try.func76, Try.ntmps76
  go_wp2_with fail
  refine parts (must_any _ _) (fun hb w' hw => ?_) (fun hb w' hw => ?_)
  · subst hw
    go_wp2
    have e : ¬ l.length ≤ 64 := by have := hb.out; simp at this; omega
    exact ⟨rfl, by simp [endM, txnsB, e], Below.refl _ _⟩
  have hl64 : l.length ≤ 64 := by have := hb.out; simp at this; omega
  subst hw
  clear hb hl
  go_wp2_with fail
  go_loopw [10] (fun i wr => ∃ k : Nat, k ≤ l.length ∧ i = .int .i64 k ∧ txUpto l k = true ∧ Below w'.heap.size w' wr) (fun i _ => l.length - (intOf i).toNat)
  case atStart => exact ⟨0, Nat.zero_le _, rfl, rfl, Below.refl _ _⟩
  case round =>
    obtain ⟨k, hk, rfl, hup, hB⟩ := hrel
    have HU : Hid (txUpto l k = true) := hup
    clear hup
    have hsl := h.below hB
    by_cases hlt : k < l.length
    · obtain ⟨b, o, rfl, hbl, c0, c1, c2⟩ := hsl.at k hlt
      have HBA := hB.alloc hB.size (.cells #[.int .i64 l[k].id, .int .i64 l[k].st, .int .u64 (l[k].last : Nat)] 57)
      have HS : Hid (txUpto l (k + 1) = txAt l k) := by
        show _ = _
        rw [txUpto, HU.out, Bool.true_and]
      by_cases hk0 : k = 0
      have hz : ((k : Int) == 0) = true := by simp [hk0]
      have HT : Hid (txAt l k = txB l[k]) := by
        show _ = _
        subst hk0
        exact txAt_zero l hlt
      clear hk0
      go_wp2_with fail
      refine wp_region_quiet_tail 13 Try.mixed (by kernel_rfl) ?_
      simp only [List.take_succ_cons, List.take_zero, List.drop_succ_cons, List.drop_zero]
      repeat (go_big_quiet_step (fail))
      refine wpQuiet_nil ?_
      go_wp2_with fail
      refine (must_yes _).mono ?_
      rintro e w1 ⟨rfl, rfl⟩
      rotate_left
      have hz : ((k : Int) == 0) = false := by simp [hk0]
      obtain ⟨m, HM⟩ : ∃ m, Hid (k = m + 1) := ⟨k - 1, by show _ = _; omega⟩
      have hmk : (k : Int) - 1 = (m : Int) := by have := HM.out; omega
      have hml : m < l.length := by have := HM.out; omega
      obtain ⟨_, p0, _, _⟩ := hsl.here m hml
      have HT0 : Hid (txAt l k = (decide (l[m].id < l[k].id) && txB l[k])) := by
        show _ = _
        have := HM.out
        subst this
        exact txAt_succ l m hlt
      clear hk0
      have hm0 : (0 : Int) ≤ (m : Int) := by omega
      have hm1 : (m : Int) < (l.length : Int) := by omega
      go_wp2_with fail
      refine wp_region_quiet_tail 13 Try.mixed (by kernel_rfl) ?_
      simp only [List.take_succ_cons, List.take_zero, List.drop_succ_cons, List.drop_zero]
      repeat (go_big_quiet_step (fail))
      refine wpQuiet_nil ?_
      go_wp2_with fail
      refine parts (must_any _ _) (fun hb1 w1 hw1 => ?_) (fun hb1 w1 hw1 => ?_)
      · subst hw1
        go_wp2
        exact ⟨rfl, by rw [txnsB_no l k hlt (by rw [HT0.out, hb1.out]; rfl)]; rfl, HBA.drew⟩
      subst hw1
      have HT : Hid (txAt l k = txB l[k]) := by show _ = _; rw [HT0.out, hb1.out, Bool.true_and]
      clear HT0 hb1 hmk HM
      rotate_left
      all_goals
        clear hz c0 c1 c2 hbl
        go_wp2_with fail
        refine parts (id_any _ _) (fun hb2 w2 hw2 => ?_) (fun hb2 w2 hw2 => ?_)
        · subst hw2
          go_wp2
          exact ⟨rfl, by rw [txnsB_no l k hlt (by rw [HT.out]; simp [txB, hb2.out])]; rfl, HBA.drew⟩
        subst hw2
        have e3 : Hid (decide (0 ≤ l[k].st ∧ l[k].st < 3) = (decide (0 ≤ l[k].st) && decide (l[k].st < 3))) := by show _ = _; rw [Bool.decide_and]
        obtain ⟨g1, hg1⟩ := letter (decide (0 ≤ l[k].st))
        cases g1
        · go_wp2_with fail
          refine (must_no _).mono ?_
          rintro e w3 ⟨rfl, rfl⟩
          go_wp2
          exact ⟨rfl, by rw [txnsB_no l k hlt (by rw [HT.out]; simp only [txB]; rw [e3.out, hg1]; simp)]; rfl, HBA.drew⟩
        go_wp2_with fail
        refine parts (must_any _ _) (fun hb3 w3 hw3 => ?_) (fun hb3 w3 hw3 => ?_)
        · subst hw3
          go_wp2
          exact ⟨rfl, by rw [txnsB_no l k hlt (by rw [HT.out]; simp only [txB]; rw [e3.out, hb3.out]; simp)]; rfl, HBA.drew⟩
        subst hw3
        have Hst : Hid (decide (0 ≤ l[k].st ∧ l[k].st < 3) = true) := by show _ = _; rw [e3.out, hg1, hb3.out]; rfl
        clear hg1 e3
        go_wp2_with fail
        refine parts (lsn_any _ _) (fun hb4 w4 hw4 => ?_) (fun hb4 w4 hw4 => ?_)
        · subst hw4
          go_wp2
          exact ⟨rfl, by rw [txnsB_no l k hlt (by rw [HT.out]; simp [txB, hb4.out])]; rfl, HBA.drew⟩
        subst hw4
        go_wp2
        go_roundw
        case rel => exact ⟨k + 1, by omega, by go_num, by rw [HS.out, HT.out]; simp [txB, hb2.out, of_decide_eq_true Hst.out, hb4.out], HBA.drew⟩
        case measure => simp [intOf]; omega
    · obtain rfl : k = l.length := by omega
      go_wp2
      go_end0
      exact ⟨by simp [endM, txnsB, HU.out, hl64], hB⟩

set_option maxHeartbeats 1000000 in
theorem dirty_any (a : Option Addr) (c : Nat) (l : List Di) (w : World) (h : SlD w a l) (hl : l.length ≤ maxLen) :
    Calls Try.prog 77 #[.slice a l.length c] w fun e w' => e = endM (dirtyB l) ∧ Below w.heap.size w w' := by
  unfold maxLen at hl
  go_enter Try.func77, Try.ntmps77
  go_wp2_with fail
  refine parts (must_any _ _) (fun hb w' hw => ?_) (fun hb w' hw => ?_)
  · subst hw
    go_wp2
    have e : ¬ l.length ≤ 16 := by have := hb.out; simp at this; omega
    exact ⟨rfl, by simp [endM, dirtyB, e], Below.refl _ _⟩
  have hl64 : l.length ≤ 16 := by have := hb.out; simp at this; omega
  subst hw
  clear hb hl
  go_wp2_with fail
  go_loopw [10] (fun i wr => ∃ k : Nat, k ≤ l.length ∧ i = .int .i64 k ∧ diUpto l k = true ∧ Below w'.heap.size w' wr) (fun i _ => l.length - (intOf i).toNat)
  case atStart => exact ⟨0, Nat.zero_le _, rfl, rfl, Below.refl _ _⟩
  case round =>
    obtain ⟨k, hk, rfl, hup, hB⟩ := hrel
    have HU : Hid (diUpto l k = true) := hup
    clear hup
    have hsl := h.below hB
    by_cases hlt : k < l.length
    · obtain ⟨b, o, rfl, hbl, c0, c1⟩ := hsl.at k hlt
      have HBA := hB.alloc hB.size (.cells #[.int .i64 l[k].page, .int .u64 (l[k].lsn : Nat)] 60)
      have HS : Hid (diUpto l (k + 1) = diAt l k) := by
        show _ = _
        rw [diUpto, HU.out, Bool.true_and]
      by_cases hk0 : k = 0
      have hz : ((k : Int) == 0) = true := by simp [hk0]
      have HT : Hid (diAt l k = diB l[k]) := by
        show _ = _
        subst hk0
        exact diAt_zero l hlt
      clear hk0
      go_wp2_with fail
      refine wp_region_quiet_tail 13 Try.mixed (by kernel_rfl) ?_
      simp only [List.take_succ_cons, List.take_zero, List.drop_succ_cons, List.drop_zero]
      repeat (go_big_quiet_step (fail))
      refine wpQuiet_nil ?_
      go_wp2_with fail
      refine (must_yes _).mono ?_
      rintro e w1 ⟨rfl, rfl⟩
      rotate_left
      have hz : ((k : Int) == 0) = false := by simp [hk0]
      obtain ⟨m, HM⟩ : ∃ m, Hid (k = m + 1) := ⟨k - 1, by show _ = _; omega⟩
      have hmk : (k : Int) - 1 = (m : Int) := by have := HM.out; omega
      have hml : m < l.length := by have := HM.out; omega
      obtain ⟨_, p0, _⟩ := hsl.here m hml
      have HT0 : Hid (diAt l k = (decide (l[m].page < l[k].page) && diB l[k])) := by
        show _ = _
        have := HM.out
        subst this
        exact diAt_succ l m hlt
      clear hk0
      have hm0 : (0 : Int) ≤ (m : Int) := by omega
      have hm1 : (m : Int) < (l.length : Int) := by omega
      go_wp2_with fail
      refine wp_region_quiet_tail 13 Try.mixed (by kernel_rfl) ?_
      simp only [List.take_succ_cons, List.take_zero, List.drop_succ_cons, List.drop_zero]
      repeat (go_big_quiet_step (fail))
      refine wpQuiet_nil ?_
      go_wp2_with fail
      refine parts (must_any _ _) (fun hb1 w1 hw1 => ?_) (fun hb1 w1 hw1 => ?_)
      · subst hw1
        go_wp2
        exact ⟨rfl, by rw [dirtyB_no l k hlt (by rw [HT0.out, hb1.out]; rfl)]; rfl, HBA.drew⟩
      subst hw1
      have HT : Hid (diAt l k = diB l[k]) := by show _ = _; rw [HT0.out, hb1.out, Bool.true_and]
      clear HT0 hb1 hmk HM
      rotate_left
      all_goals
        clear hz c0 c1 hbl
        go_wp2_with fail
        refine parts (page_any _ _) (fun hb2 w2 hw2 => ?_) (fun hb2 w2 hw2 => ?_)
        · subst hw2
          go_wp2
          exact ⟨rfl, by rw [dirtyB_no l k hlt (by rw [HT.out]; simp [diB, hb2.out])]; rfl, HBA.drew⟩
        subst hw2
        go_wp2_with fail
        refine parts (lsn_any _ _) (fun hb4 w4 hw4 => ?_) (fun hb4 w4 hw4 => ?_)
        · subst hw4
          go_wp2
          exact ⟨rfl, by rw [dirtyB_no l k hlt (by rw [HT.out]; simp [diB, hb4.out])]; rfl, HBA.drew⟩
        subst hw4
        go_wp2
        go_roundw
        case rel => exact ⟨k + 1, by omega, by go_num, by rw [HS.out, HT.out]; simp [diB, hb2.out, hb4.out], HBA.drew⟩
        case measure => simp [intOf]; omega
    · obtain rfl : k = l.length := by omega
      go_wp2
      go_end0
      exact ⟨by simp [endM, dirtyB, HU.out, hl64], hB⟩

end Go.Proofs.Yticnkppnpfgceaa
