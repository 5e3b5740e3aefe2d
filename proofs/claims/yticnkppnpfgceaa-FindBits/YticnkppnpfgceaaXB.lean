/-
  Texts put together: FRt FRo FRm.
-/
import Derived.Test.YticnkppnpfgceaaXA
namespace Go.Proofs.Yticnkppnpfgceaa.Mg
open Go.RowKit Go.Maps

/-- A checkpoint's rows, for what the records ahead of it left. -/
def trT (a : List Rc) (t : List (Int × Gt)) (x : Tx) : List (Int × Gt) := if x.st = 1 then t else putL t x.id ⟨x.st, x.last, nextL a x.last⟩
def trD (d : List (Int × Nat)) (y : Di) : List (Int × Nat) := soilL d y.page y.lsn
def trustL (a : List Rc) (x : Lf) (r : Rc) : Lf := ⟨r.txns.foldl (trT a) x.t, r.dirty.foldl trD x.d⟩
theorem fold_take {α β : Type} (f : β → α → β) (b : β) (l : List α) {i : Nat} (hi : i < l.length) : (l.take (i + 1)).foldl f b = f ((l.take i).foldl f b) l[i] := by
  rw [List.take_succ_eq_append_getElem hi, List.foldl_append]; rfl

/-- What trust holds. -/
structure Tw (w W : World) (A D : Nat) (K : List Lit) (X : Lf) (a : Option Addr) (n c : Nat) (r : Rc) (p : Pl) : Prop where
  wk : Wk W A D K X
  tn : Turn (fun i => i = A ∨ i = D) w W
  b0 : W.heap[w.heap.size]? = some (.cells (fiC A D a n c) 67)
  b1 : W.heap[w.heap.size + 1]? = some (.cells (recC r p) 50)
theorem Tw.below {w W W' : World} {A D : Nat} {K : List Lit} {X : Lf} {a : Option Addr} {n c : Nat} {r : Rc} {p : Pl} (h : Tw w W A D K X a n c r p) (hb : Below W.heap.size W W') : Tw w W' A D K X a n c r p :=
  ⟨h.wk.below hb, h.tn.trans (Turn.of_below hb _) fun _ h => .inl h, (hb.block _ (some_lt h.b0)).trans h.b0, (hb.block _ (some_lt h.b1)).trans h.b1⟩
theorem Tw.turned {w W W' : World} {A D : Nat} {K : List Lit} {X Y : Lf} {a : Option Addr} {n c : Nat} {r : Rc} {p : Pl} (h : Tw w W A D K X a n c r p) (hA : A < w.heap.size) (hD : D < w.heap.size) (hk : Wk W' A D K Y) (ht : Turn (fun i => i = A ∨ i = D) W W') : Tw w W' A D K Y a n c r p :=
  ⟨hk, h.tn.trans ht fun _ h => .inl h, (ht.block _ (some_lt h.b0) (by omega)).trans h.b0, (ht.block _ (some_lt h.b1) (by omega)).trans h.b1⟩
theorem cells3f {w : World} {g : Nat} {a b c : Value} {t : TypeId} (h : w.heap[g]? = some (.cells #[a, b, c] t)) : w.cell? ⟨g, 0, none⟩ = some a ∧ w.cell? ⟨g, 1, none⟩ = some b ∧ w.cell? ⟨g, 2, none⟩ = some c := by
  refine ⟨?_, ?_, ?_⟩ <;> simp [World.cell?, h]

set_option maxRecDepth 100000 in
set_option maxHeartbeats 4000000 in
theorem trust32 {w : World} {A D : Nat} {K : List Lit} {x : Lf} (h : Wk w A D K x) (a : Option Addr) (c : Nat) (l : List Rc) (w0 : World) (hL : SlR w0 a l) (hb0 : Below w0.heap.size w0 w) (hA : w0.heap.size ≤ A) (hD : w0.heap.size ≤ D) (hl : l.length ≤ 1000) (hdn : Down l) (hrs : RisL l)
    (r : Rc) (p : Pl) (hri : RI w0 r p) (hlr : Lim r) (hk1 : ∀ t, t ∈ r.txns → Wi t.id ∧ Lit.int .i64 t.id ∈ K) (hk2 : ∀ d, d ∈ r.dirty → Wi d.page ∧ Lit.int .i64 d.page ∈ K) :
    Calls Try.prog 32 #[.agg (fiC A D a l.length c), recV r p] w fun e w' => e = .returned (.tuple #[]) ∧ Wk w' A D K (trustL l x r) ∧ Turn (fun i => i = A ∨ i = D) w w' := by
  have hAl := h.t.lt
  have hDl := h.d.lt
  have HRI := toHid hri
  have HB0 := toHid hb0
  have HNx := toHid (fun (W : World) (m : Nat) (hb : Below w0.heap.size w0 W) => next39 a c l m w0 W hL hb hl hdn hrs)
  have HK1 := toHid hk1
  have HK2 := toHid hk2
  have hn1 := hlr.1
  have hn2 := hlr.2
  have hb : Below w.heap.size w ((w.alloc (.cells (fiC A D a l.length c) 67)).alloc (.cells (recC r p) 50)) := ((Below.refl _ _).alloc (Nat.le_refl _) _).alloc (by simp) _
  have HT0 := toHid (show Tw w ((w.alloc (.cells (fiC A D a l.length c) 67)).alloc (.cells (recC r p) 50)) A D K x a l.length c r p from ⟨h.below hb, Turn.of_below hb _, heap_alloc2_old _ _ _, heap_alloc2_new _ _ _⟩)
  have hw0 := hb0.size
  clear h hL hb0 hdn hrs hri hlr hk1 hk2 hb
  go_enter Try.func32, Try.ntmps32
  go_wp2_with fail
  go_loopw [11] (fun k W => ∃ i : Nat, i ≤ r.txns.length ∧ k = .int .i64 i ∧ Tw w W A D K ⟨(r.txns.take i).foldl (trT l) x.t, x.d⟩ a l.length c r p) (fun k _ => r.txns.length - (intOf k).toNat)
  case atStart => exact ⟨0, Nat.zero_le _, rfl, HT0.out⟩
  case round =>
    obtain ⟨i, hi, rfl, htw⟩ := hrel
    have HT := toHid htw
    clear htw HT0
    have hBw := toHid (HB0.out.trans (HT.out.tn.below hw0 fun i hi => by omega) : Below w0.heap.size w0 wr)
    by_cases hlt : i < r.txns.length
    · obtain ⟨b, o, hpa, hbl, y0, y1, y2⟩ := (HRI.out.t.below hBw.out).at i hlt
      rw [hpa]
      have HPA := toHid hpa
      have hi1 : (i : Int) < (r.txns.length : Int) := by omega
      have hi2 : 0 ≤ (i : Int) := by omega
      obtain ⟨k1, k2⟩ := HK1.out _ (List.getElem_mem hlt)
      have HSt := toHid (fold_take (trT l) x.t r.txns hlt)
      obtain ⟨X, hX⟩ : ∃ X, (r.txns.take i).foldl (trT l) x.t = X := ⟨_, rfl⟩
      obtain ⟨t, ht⟩ : ∃ t, r.txns[i] = t := ⟨_, rfl⟩
      rw [hX] at HT HSt
      rw [ht] at y0 y1 y2 k1 k2 HSt
      have HY1 := toHid k1
      have HY2 := toHid k2
      obtain ⟨W1, hW1⟩ : ∃ W1, W1 = wr.alloc (.cells #[.int .i64 t.id, .int .i64 t.st, .int .u64 (t.last : Int)] 57) := ⟨_, rfl⟩
      have hb1 : Below wr.heap.size wr W1 := hW1 ▸ (Below.refl _ _).alloc (Nat.le_refl _) _
      have HT1 := toHid (HT.out.below hb1)
      have hq1 : W1.heap[wr.heap.size]? = some (.cells #[.int .i64 t.id, .int .i64 t.st, .int .u64 (t.last : Int)] 57) := hW1 ▸ heap_alloc_new _ _
      have HQ1 := toHid hq1
      have HW1 := toHid hW1
      clear hX ht k1 k2 hb1 hW1 hq1
      by_cases hst : t.st = 1
      · have q1 : (t.st != 1) = false := by simp [hst]
        have HE := toHid (show trT l X t = X by simp [trT, hst])
        clear hst
        go_wp2_with fail
        rw [← HW1.out]
        go_roundw
        case rel => exact ⟨i + 1, by omega, by go_num, by rw [HSt.out, HE.out]; exact HT1.out⟩
        case measure => simp [intOf]; omega
      · have q1 : (t.st != 1) = true := by simp [hst]
        have HE := toHid (show trT l X t = putL X t.id ⟨t.st, t.last, nextL l t.last⟩ by simp [trT, hst])
        clear hst
        have HS := toHid (show ∀ W, Below W1.heap.size W1 W → W.cell? ⟨w.heap.size, 0, none⟩ = some (.map (some A)) ∧ W.cell? ⟨w.heap.size, 1, none⟩ = some (.map (some D)) ∧ W.cell? ⟨w.heap.size, 2, none⟩ = some (.slice a l.length c) ∧ W.cell? ⟨wr.heap.size, 0, none⟩ = some (.int .i64 t.id) ∧ W.cell? ⟨wr.heap.size, 1, none⟩ = some (.int .i64 t.st) ∧ W.cell? ⟨wr.heap.size, 2, none⟩ = some (.int .u64 (t.last : Int)) from fun W hb => by
          have e0 := (hb.block _ (some_lt HT1.out.b0)).trans HT1.out.b0
          have e1 := (hb.block _ (some_lt HQ1.out)).trans HQ1.out
          obtain ⟨c0, c1, c2⟩ := cells3f e0
          obtain ⟨d0, d1, d2⟩ := cells3f e1
          exact ⟨c0, c1, c2, d0, d1, d2⟩)
        have HU := toHid (show ∀ W, Below W1.heap.size W1 W → ∃ w9, (Instr.mapUpdate 62 (.map (some A)) (.int .i64 t.id) (gtV ⟨t.st, t.last, nextL l t.last⟩)).run Try.prog W = .ok () w9 ∧ Tw w w9 A D K ⟨trT l X t, x.d⟩ a l.length c r p ∧ (w9.cell? ⟨w.heap.size, 0, none⟩ = some (.map (some A)) ∧ w9.cell? ⟨w.heap.size, 1, none⟩ = some (.map (some D)) ∧ w9.cell? ⟨w.heap.size, 2, none⟩ = some (.slice a l.length c) ∧ w9.cell? ⟨wr.heap.size, 0, none⟩ = some (.int .i64 t.id) ∧ w9.cell? ⟨wr.heap.size, 1, none⟩ = some (.int .i64 t.st) ∧ w9.cell? ⟨wr.heap.size, 2, none⟩ = some (.int .u64 (t.last : Int))) from fun W hb => by
          obtain ⟨w9, a1, a2, a3⟩ := (HT1.out.below hb).wk.putT HY1.out HY2.out ⟨t.st, t.last, nextL l t.last⟩
          have a4 : Turn (fun i => i = A ∨ i = D) W w9 := a3.mono fun _ h => .inl (.inl h)
          have e0 := (hb.block _ (some_lt HQ1.out)).trans HQ1.out
          have hwz := HT.out.tn.size
          have e1 := (a4.block _ (some_lt e0) (by omega)).trans e0
          have ht9 := (HT1.out.below hb).turned (Y := ⟨trT l X t, x.d⟩) hAl hDl (by rw [HE.out]; exact a2) a4
          obtain ⟨c0, c1, c2⟩ := cells3f ht9.b0
          obtain ⟨d0, d1, d2⟩ := cells3f e1
          exact ⟨w9, a1, ht9, c0, c1, c2, d0, d1, d2⟩)
        have HN := toHid (show ∀ W, Below W1.heap.size W1 W → Calls Try.prog 39 #[.slice a l.length c, .int .u64 (t.last : Int)] W fun e w' => e = .returned (.int .u64 (nextL l t.last : Int)) ∧ Below W.heap.size W w' from fun W hb => HNx.out W t.last (HB0.out.trans ((HT1.out.below hb).tn.below hw0 fun i hi => by omega)))
        go_wp2_with fail
        rw [← HW1.out]
        have hS0 := HS.out W1.drew ⟨rfl, rfl, rfl, Nat.le_refl _, fun _ _ => rfl⟩
        go_region_held3 (fun W => W.cell? ⟨w.heap.size, 0, none⟩ = some (.map (some A)) ∧ W.cell? ⟨w.heap.size, 1, none⟩ = some (.map (some D)) ∧ W.cell? ⟨w.heap.size, 2, none⟩ = some (.slice a l.length c) ∧ W.cell? ⟨wr.heap.size, 0, none⟩ = some (.int .i64 t.id) ∧ W.cell? ⟨wr.heap.size, 1, none⟩ = some (.int .i64 t.st) ∧ W.cell? ⟨wr.heap.size, 2, none⟩ = some (.int .u64 (t.last : Int))) (assumption) (first | (go_at_call 39; refine Calls.mono (HN.out _ ⟨rfl, rfl, rfl, Nat.le_refl _, fun _ _ => rfl⟩) ?_; rintro e w1 ⟨rfl, hb1⟩; have hb2 : Below W1.heap.size W1 w1 := Below.trans (⟨rfl, rfl, rfl, Nat.le_refl _, fun _ _ => rfl⟩ : Below W1.heap.size W1 W1.drew) hb1; have hS1 := HS.out w1 hb2; obtain ⟨w9, hu1, hu2, hS9⟩ := HU.out w1 hb2; have HU2 := toHid hu2; clear hb1 hb2 hu2))
        all_goals
          go_wp2_with fail
          go_roundw
          case rel => exact ⟨i + 1, by omega, by go_num, by rw [HSt.out]; exact HU2.out⟩
          case measure => simp [intOf]; omega
    · obtain rfl : i = r.txns.length := by omega
      rw [List.take_length] at HT
      obtain ⟨X, hX⟩ : ∃ X, r.txns.foldl (trT l) x.t = X := ⟨_, rfl⟩
      rw [hX] at HT
      have HXt := toHid hX
      clear hX
      obtain ⟨b0, b1, b2, b3, b4, b5, b6, b7, b8, b9, b10, b11, _⟩ := cell12 HT.out.b1
      go_wp2_with fail
      clear b0 b1 b2 b3 b4 b5 b6 b7 b8 b9 b10 b11
      go_loopw [37] (fun k W => ∃ i : Nat, i ≤ r.dirty.length ∧ k = .int .i64 i ∧ Tw w W A D K ⟨X, (r.dirty.take i).foldl trD x.d⟩ a l.length c r p) (fun k _ => r.dirty.length - (intOf k).toNat)
      case atStart => exact ⟨0, Nat.zero_le _, rfl, HT.out⟩
      case round =>
        clear HT hBw hlt hi
        obtain ⟨i, hi, rfl, htw⟩ := hrel
        have HT := toHid htw
        clear htw
        have hBw := toHid (HB0.out.trans (HT.out.tn.below hw0 fun i hi => by omega) : Below w0.heap.size w0 wr)
        by_cases hlt : i < r.dirty.length
        · obtain ⟨b, o, hpa, hbl, y0, y1⟩ := (HRI.out.d.below hBw.out).at i hlt
          rw [hpa]
          have hi1 : (i : Int) < (r.dirty.length : Int) := by omega
          have hi2 : 0 ≤ (i : Int) := by omega
          obtain ⟨k1, k2⟩ := HK2.out _ (List.getElem_mem hlt)
          have HSt := toHid (fold_take trD x.d r.dirty hlt)
          obtain ⟨Y, hY⟩ : ∃ Y, (r.dirty.take i).foldl trD x.d = Y := ⟨_, rfl⟩
          obtain ⟨t, ht⟩ : ∃ t, r.dirty[i] = t := ⟨_, rfl⟩
          rw [hY] at HT HSt
          rw [ht] at y0 y1 k1 k2 HSt
          have HY1 := toHid k1
          have HY2 := toHid k2
          obtain ⟨W1, hW1⟩ : ∃ W1, W1 = wr.alloc (.cells #[.int .i64 t.page, .int .u64 (t.lsn : Int)] 60) := ⟨_, rfl⟩
          have hb1 : Below wr.heap.size wr W1 := hW1 ▸ (Below.refl _ _).alloc (Nat.le_refl _) _
          have HT1 := toHid (HT.out.below hb1)
          have HW1 := toHid hW1
          obtain ⟨x0, x1, x2⟩ := cells3f HT.out.b0
          have hz0 := some_lt HT.out.b0
          clear hY ht k1 k2 hb1 hW1
          go_wp2_with fail
          rw [← HW1.out]
          refine Calls.mono (soil45 HT1.out.wk HY1.out HY2.out t.lsn) ?_
          rintro e w4 ⟨rfl, hk4, ht4⟩
          have HT4 := toHid (HT1.out.turned (Y := ⟨X, trD Y t⟩) hAl hDl hk4 (ht4.mono fun _ h => .inl (.inr h)))
          clear hk4 ht4
          go_wp2_with fail
          go_roundw
          case rel => exact ⟨i + 1, by omega, by go_num, by rw [HSt.out]; exact HT4.out⟩
          case measure => simp [intOf]; omega
        · obtain rfl : i = r.dirty.length := by omega
          rw [List.take_length] at HT
          go_wp2
          go_end0
          exact ⟨rfl, by unfold trustL; rw [HXt.out]; exact HT.out.wk, HT.out.tn⟩
end Go.Proofs.Yticnkppnpfgceaa.Mg

namespace Go.Proofs.Yticnkppnpfgceaa.Mg
open Go.RowKit Go.Maps

/-- What the first records leave, begun anew at each checkpoint. -/
def shS (l : List Rc) : Nat → Lf
  | 0 => Lf.nil
  | k + 1 => match l[k]? with
    | none => shS l k
    | some r => if r.kind = 8 then trustL (l.take k) Lf.nil r else stepL (shS l k) r
def shortX (l : List Rc) : Lf := if logB l then shS l l.length else Lf.nil
def shZ (l : List Rc) (z : Int) : Lf := if z < 0 then overL Lf.nil l else match l[z.toNat]? with
  | none => Lf.nil
  | some r => overL (trustL (l.take z.toNat) Lf.nil r) (l.drop (z.toNat + 1))
theorem shS_plain {l : List Rc} (h : ∀ r, r ∈ l → r.kind ≠ 8) : ∀ k, k ≤ l.length → shS l k = overL Lf.nil (l.take k) := by
  intro k
  induction k with
  | zero => intro _; simp [shS, overL]
  | succ k ih =>
    intro hk
    have hk' : k < l.length := by omega
    rw [shS, List.getElem?_eq_getElem hk']
    simp only
    rw [if_neg (h _ (List.getElem_mem hk')), ih (by omega), List.take_succ_eq_append_getElem hk', overL_snoc]
theorem shS_from {l : List Rc} {i : Nat} (hi : i < l.length) (h8 : l[i].kind = 8) (h : ∀ j, (hj : j < l.length) → i < j → l[j].kind ≠ 8) : ∀ k, i + 1 + k ≤ l.length → shS l (i + 1 + k) = overL (trustL (l.take i) Lf.nil l[i]) ((l.drop (i + 1)).take k) := by
  intro k
  induction k with
  | zero =>
    intro _
    rw [Nat.add_zero, shS, List.getElem?_eq_getElem hi]
    simp only
    rw [if_pos h8]
    simp [overL]
  | succ k ih =>
    intro hk
    have hk' : i + 1 + k < l.length := by omega
    rw [← Nat.add_assoc, shS, List.getElem?_eq_getElem hk']
    simp only
    have hkd : k < (l.drop (i + 1)).length := by simp; omega
    rw [if_neg (h _ hk' (by omega)), ih (by omega), List.take_succ_eq_append_getElem hkd, overL_snoc]
    simp
theorem shZ_nat {l : List Rc} {i : Nat} (hi : i < l.length) : shZ l (i : Int) = overL (trustL (l.take i) Lf.nil l[i]) (l.drop (i + 1)) := by
  have e : ¬ (i : Int) < 0 := by omega
  unfold shZ
  rw [if_neg e]
  show (match l[(i : Int).toNat]? with | none => Lf.nil | some r => overL (trustL (l.take (i : Int).toNat) Lf.nil r) (l.drop ((i : Int).toNat + 1))) = _
  rw [Int.toNat_natCast, List.getElem?_eq_getElem hi]
theorem shZ_eq {l : List Rc} {z : Int} (h : lastC l z) : shZ l z = shS l l.length := by
  rcases h with ⟨rfl, h⟩ | ⟨i, rfl, hi, h8, h⟩
  · rw [shS_plain h _ (Nat.le_refl _), List.take_length]; rfl
  · have := shS_from hi h8 h (l.length - (i + 1)) (by omega)
    rw [show i + 1 + (l.length - (i + 1)) = l.length by omega] at this
    rw [this, shZ_nat hi]
    congr 1
    rw [List.take_of_length_le (l := l.drop (i + 1)) (by simp)]

theorem tx_wi {l : List Tx} : ∀ k, txUpto l k = true → ∀ i, i < k → ∀ t, l[i]? = some t → Wi t.id := by
  intro k
  induction k with
  | zero => intro _ i hi; omega
  | succ k ih =>
    intro h i hi t ht
    rw [txUpto, Bool.and_eq_true] at h
    by_cases e : i = k
    · subst e
      have h2 := h.2
      unfold txAt at h2
      rw [ht] at h2
      simp [txB, idB] at h2
      exact wi_of (by omega) (by omega)
    · exact ih h.1 i (by omega) t ht
theorem di_wi {l : List Di} : ∀ k, diUpto l k = true → ∀ i, i < k → ∀ t, l[i]? = some t → Wi t.page := by
  intro k
  induction k with
  | zero => intro _ i hi; omega
  | succ k ih =>
    intro h i hi t ht
    rw [diUpto, Bool.and_eq_true] at h
    by_cases e : i = k
    · subst e
      have h2 := h.2
      unfold diAt at h2
      rw [ht] at h2
      simp [diB, pageB] at h2
      exact wi_of (by omega) (by omega)
    · exact ih h.1 i (by omega) t ht
theorem may_rows {r : Rc} (h : mayB r = true) : r.txns.length ≤ 64 ∧ r.dirty.length ≤ 16 ∧ (∀ t, t ∈ r.txns → Wi t.id) ∧ ∀ d, d ∈ r.dirty → Wi d.page := by
  cases e : mTab r
  · rw [may_tab r e] at h; cases h
  · unfold mTab at e
    split at e
    · rw [Bool.and_eq_true] at e
      obtain ⟨e1, e2⟩ := e
      unfold txnsB at e1
      unfold dirtyB at e2
      rw [Bool.and_eq_true] at e1 e2
      refine ⟨by simpa using e1.1, by simpa using e2.1, fun t ht => ?_, fun d hd => ?_⟩
      · obtain ⟨i, hi, rfl⟩ := List.getElem_of_mem ht
        exact tx_wi _ e1.2 i hi _ (List.getElem?_eq_getElem hi)
      · obtain ⟨i, hi, rfl⟩ := List.getElem_of_mem hd
        exact di_wi _ e2.2 i hi _ (List.getElem?_eq_getElem hi)
    · have e' := of_decide_eq_true e
      have h1 : r.txns = [] := List.eq_nil_of_length_eq_zero e'.1
      have h2 : r.dirty = [] := List.eq_nil_of_length_eq_zero e'.2
      rw [h1, h2]
      simp
theorem log_all {l : List Rc} (h : logB l = true) : ∀ r, r ∈ l → mayB r = true := by
  unfold logB at h
  rw [Bool.and_eq_true] at h
  exact fun r hr => List.all_eq_true.1 h.1 r hr
def keysR (r : Rc) : List Lit := (r.txns.map fun t => Lit.int .i64 t.id) ++ r.dirty.map fun d => Lit.int .i64 d.page
theorem keysR_len (r : Rc) : (keysR r).length = r.txns.length + r.dirty.length := by simp [keysR]
theorem SlR.take' {w : World} {a : Option Addr} {l : List Rc} (h : SlR w a l) (i : Nat) : SlR w a (l.take i) :=
  ⟨fun e => (by rw [h.nonil e]; simp), fun x hx j r hr => h.place x hx j r (by rw [List.getElem?_take] at hr; split at hr; exact hr; cases hr)⟩
theorem SlR.drop' {w : World} {b o : Nat} {l : List Rc} (h : SlR w (some ⟨b, o, none⟩) l) (i : Nat) : SlR w (some ⟨b, o + i * 12, none⟩) (l.drop i) :=
  ⟨fun e => (by cases e), fun x hx j r hr => by
    injection hx with hx
    subst hx
    rw [List.getElem?_drop] at hr
    obtain ⟨_, p, h1, h2⟩ := h.place _ rfl (i + j) r hr
    exact ⟨rfl, p, by simpa [Nat.add_mul, Nat.add_assoc] using h1, h2⟩⟩

/-- What Short holds. -/
structure Fw (w W : World) (F A D : Nat) (K : List Lit) (X : Lf) (a : Option Addr) (n c : Nat) : Prop where
  low : Below w.heap.size w W
  res : W.heap[w.heap.size]? = some (.cells lfZ 32)
  fb : W.heap[F]? = some (.cells (fiC A D a n c) 67)
  wk : Wk W A D K X
  hA : w.heap.size < A
  hD : w.heap.size < D
  hFA : F ≠ A
  hFD : F ≠ D
theorem Fw.below {w W W' : World} {F A D : Nat} {K : List Lit} {X : Lf} {a : Option Addr} {n c : Nat} (h : Fw w W F A D K X a n c) (hb : Below W.heap.size W W') : Fw w W' F A D K X a n c :=
  ⟨h.low.trans (hb.mono h.low.size), (hb.block _ (some_lt h.res)).trans h.res, (hb.block _ (some_lt h.fb)).trans h.fb, h.wk.below hb, h.hA, h.hD, h.hFA, h.hFD⟩
theorem Fw.turned {w W W' : World} {F A D : Nat} {K : List Lit} {X Y : Lf} {a : Option Addr} {n c : Nat} (h : Fw w W F A D K X a n c) (hk : Wk W' A D K Y) (ht : Turn (fun i => i = A ∨ i = D) W W') : Fw w W' F A D K Y a n c := by
  have h1 := h.hA
  have h2 := h.hD
  have h3 := h.hFA
  have h4 := h.hFD
  exact ⟨h.low.trans (ht.below h.low.size fun i hi => by omega), (ht.block _ (some_lt h.res) (by omega)).trans h.res, (ht.block _ (some_lt h.fb) (by omega)).trans h.fb, hk, h.hA, h.hD, h.hFA, h.hFD⟩

set_option maxRecDepth 100000 in
set_option maxHeartbeats 4000000 in
theorem short14 (a : Option Addr) (c : Nat) (l : List Rc) (w0 w : World) (hL : SlR w0 a l) (hb0 : Below w0.heap.size w0 w) (hl : l.length ≤ 300) (hlim : ∀ r, r ∈ l → Lim r) (hcap : l.length ≤ c) :
    Calls Try.prog 14 #[.slice a l.length c] w fun e w' => ∃ vt vn vd, e = .returned (.tuple #[.agg #[vt, vn, vd, .int .u64 (redoL (shortX l).d : Int)], .int .i64 (argE (logB l))]) ∧ LfR w' w.heap.size vt vn vd (shortX l) ∧ Below w.heap.size w w' := by
  have hb1 : Below w.heap.size w (w.alloc (.cells lfZ 32)) := (Below.refl _ _).alloc (Nat.le_refl _) _
  have hx1 : (w.alloc (.cells lfZ 32)).heap[w.heap.size]? = some (.cells lfZ 32) := heap_alloc_new _ _
  have hb01 := hb0.trans (hb1.mono hb0.size)
  have hC := check17 a c l w0 (w.alloc (.cells lfZ 32)) hL hb01 (by omega) hlim
  cases he : logB l
  · rw [he] at hC
    have HC := toHid hC
    have g0 : ((argE false : Int) != 0) = true := by decide
    have HX := toHid (show shortX l = Lf.nil by simp [shortX, he])
    have HB1 := toHid hb1
    have HX1 := toHid hx1
    clear hC hb1 hx1 hb01 hL hb0 he
    go_enter Try.func14, Try.ntmps14
    go_wp2_with fail
    refine Calls.mono HC.out ?_
    rintro e w1 ⟨rfl, hb2⟩
    have hx2 := (hb2.block _ (some_lt HX1.out)).trans HX1.out
    obtain ⟨v0, v1, v2, v3, vf0, vf1, vf2, vf3⟩ := cellsF hx2
    have HX2 := toHid hx2
    have HB2 := toHid (HB1.out.trans (hb2.mono HB1.out.size))
    clear hb2 hx2
    go_wp2
    refine bodyPost_ret (results_lf Try.results14 _ rfl rfl rfl (put4_same HX2.out _ _ _ _)) rfl ⟨.slice none 0 0, .slice none 0 0, .slice none 0 0, by rw [HX.out]; rfl, by rw [HX.out]; exact LfR.nil _ _, put4_below HB2.out (Nat.le_refl _) _ _ _ _⟩
  rw [he] at hC
  have HC := toHid hC
  have g0 : ((argE true : Int) != 0) = false := by decide
  have HX := toHid (show shortX l = shS l l.length by simp [shortX, he])
  have HKo := toHid (keysK_ok he)
  have hkl := keysK_len l
  have HDn := toHid (log_down he)
  have HAl := toHid (log_all he)
  have HB1 := toHid hb1
  have HX1 := toHid hx1
  have HL := toHid hL
  have HB0 := toHid hb0
  have hws := hb0.size
  have HLim := toHid hlim
  clear hC hb1 hx1 hb01 hL hb0 he hlim
  go_enter Try.func14, Try.ntmps14
  go_wp2_with fail
  refine Calls.mono HC.out ?_
  rintro e w1 ⟨rfl, hb2⟩
  have HX2 := toHid ((hb2.block _ (some_lt HX1.out)).trans HX1.out)
  have HB2 := toHid (HB1.out.trans (hb2.mono HB1.out.size))
  have hs1 := some_lt HX2.out
  have HBg := toHid (begin27 none 0 0 (keysK l) (by omega) w1)
  clear hb2 HC
  go_wp2_with fail
  refine Calls.mono HBg.out ?_
  rintro e w2 ⟨rfl, hk2, hb2⟩
  obtain ⟨W3, hW3⟩ : ∃ W3, W3 = w2.alloc (.cells (fiC (w1.heap.size + 1) (w1.heap.size + 1 + 1) none 0 0) 67) := ⟨_, rfl⟩
  have hb3 : Below w2.heap.size w2 W3 := hW3 ▸ (Below.refl _ _).alloc (Nat.le_refl _) _
  have hA2 := hk2.t.lt
  have hD2 := hk2.d.lt
  have HF3 := toHid (show Fw w W3 w2.heap.size (w1.heap.size + 1) (w1.heap.size + 1 + 1) (keysK l) Lf.nil none 0 0 from ⟨HB2.out.trans ((hb2.trans (hb3.mono hb2.size)).mono HB2.out.size), (hb3.block _ (by have := hb2.size; omega)).trans ((hb2.block _ hs1).trans HX2.out), hW3 ▸ heap_alloc_new _ _, hk2.below hb3, by omega, by omega, by omega, by omega⟩)
  have HLa := toHid (last31 a c l W3 (HL.out.below (HB0.out.trans (HF3.out.low.mono HB0.out.size))) (by omega))
  have HW3 := toHid hW3
  have hs2 := hb2.size
  clear hk2 hb2 hW3 hb3 HBg hA2 hD2
  generalize hF : w2.heap.size = F at *
  go_wp2_with fail
  try simp only [fiC] at HW3
  rw [← HW3.out]
  refine Calls.mono HLa.out ?_
  rintro e w4 ⟨⟨z, rfl, hz⟩, hb4⟩
  have HF4 := toHid (HF3.out.below hb4)
  have HQz := toHid (shZ_eq hz)
  clear hb4 HLa HF3 hF HW3 HB2 HX2 HX1 HB1
  rcases hz with ⟨rfl, hz⟩ | ⟨i, rfl, hi, h8, h9⟩
  · have HQ := toHid (show overL Lf.nil l = shortX l by rw [HX.out, ← HQz.out]; rfl)
    have HF := HF4
    clear HF4 hz HQz
    have HO := toHid (over28 HF.out.wk a c l w0 HL.out (HB0.out.trans (HF.out.low.mono HB0.out.size)) (by have := HF.out.hA; omega) (by have := HF.out.hD; omega) (by omega) HKo.out)
    obtain ⟨f0, f1, f2⟩ := cells3f HF.out.fb
    go_wp2_with fail
    refine Calls.mono HO.out ?_
    rintro e w8 ⟨rfl, hk8, ht8⟩
    have HF8 := toHid (HF.out.turned hk8 ht8)
    have HLe := toHid (left29 hk8)
    clear hk8 ht8 HO f0 f1 f2
    obtain ⟨f0, f1, f2⟩ := cells3f HF8.out.fb
    go_wp2_with fail
    refine Calls.mono HLe.out ?_
    rintro e w9 ⟨vt, vn, vd, rfl, hR, hb9⟩
    have HF9 := toHid (HF8.out.below hb9)
    have hx9 := HF9.out.res
    obtain ⟨v0, v1, v2, v3, vf0, vf1, vf2, vf3⟩ := cellsF hx9
    have HX9 := toHid hx9
    have HRR := toHid (hR.base HF8.out.low.size)
    obtain ⟨ta, tc, rfl⟩ := ownsRow_shape2 hR.t
    obtain ⟨na, nc, rfl⟩ := ownsRow_shape2 hR.n
    obtain ⟨da, dc, rfl⟩ := ownsRow_shape2 hR.d
    clear hx9 hb9 hR HLe
    rw [HQ.out] at HRR
    go_wp2
    refine bodyPost_ret (results_lf Try.results14 _ rfl rfl rfl (put4_same HX9.out _ _ _ _)) rfl ⟨_, _, _, by rw [← HQ.out]; rfl, HRR.out.put HX9.out _ _ _ _, put4_below HF9.out.low (Nat.le_refl _) _ _ _ _⟩
  · have HQ := toHid (show overL (trustL (l.take i) Lf.nil l[i]) (l.drop (i + 1)) = shortX l by
      rw [HX.out, ← HQz.out, shZ_nat hi])
    clear HQz h8 h9
    have hz1 : (0 : Int) ≤ (i : Int) := by omega
    have hz2 : (i : Int) < (l.length : Int) := by omega
    have hz3 : (i : Int) ≤ (c : Int) := by omega
    have hz4 : (i : Int) ≤ (l.length : Int) := by omega
    obtain ⟨b, o, rfl, hbl⟩ := HL.out.there (by omega)
    obtain ⟨p, h12, hri⟩ := HL.out.get i hi
    obtain ⟨r1, r2, r3, r4⟩ := may_rows (HAl.out _ (List.getElem_mem hi))
    have hli := HLim.out _ (List.getElem_mem hi)
    obtain ⟨r, hr⟩ : ∃ r, l[i] = r := ⟨_, rfl⟩
    rw [hr] at h12 hri r1 r2 r3 r4 hli HQ
    have hkr := keysR_len r
    have HBg := toHid (begin27 (some ⟨b, o, none⟩) i c (keysK l ++ keysR r) (by rw [List.length_append]; omega) w4)
    obtain ⟨f0, f1, f2, ff0, ff1, ff2⟩ := cellsT HF4.out.fb
    clear hr
    go_wp2_with fail
    refine Calls.mono HBg.out ?_
    rintro e w5 ⟨rfl, hk5, hb5⟩
    have h5 := HF4.out.below hb5
    have hF4 := some_lt HF4.out.fb
    have hl4 := HF4.out.low.size
    obtain ⟨W6, hW6⟩ : ∃ W6, W6 = ((w5.setCell ⟨F, 0, none⟩ (.map (some (w4.heap.size + 1)))).setCell ⟨F, 1, none⟩ (.map (some (w4.heap.size + 1 + 1)))).setCell ⟨F, 2, none⟩ (.slice (some ⟨b, o, none⟩) i c) := ⟨_, rfl⟩
    have hFw : w.heap.size < F := by have := hs2; omega
    have hst : ∀ k, k ≠ F → W6.heap[k]? = w5.heap[k]? := fun k hk => by rw [hW6, Below.heap_setCell _ _ _ _ hk, Below.heap_setCell _ _ _ _ hk, Below.heap_setCell _ _ _ _ hk]
    have hF6 : Fw w W6 F (w4.heap.size + 1) (w4.heap.size + 1 + 1) (keysK l ++ keysR r) Lf.nil (some ⟨b, o, none⟩) i c :=
      ⟨hW6 ▸ put3_below h5.low (Nat.le_of_lt hFw) _ _ _, (hst _ (by omega)).trans h5.res, hW6 ▸ put3_same h5.fb _ _ _, hk5.at (hst _ (by omega)) (hst _ (by omega)), by omega, by omega, by omega, by omega⟩
    have HF6 := toHid hF6
    have HW6 := toHid hW6
    obtain ⟨f0, f1, f2, ff0, ff1, ff2⟩ := cellsT h5.fb
    have HTk := toHid (show (l.take i).length = i by simp; omega)
    have HTr := toHid (show ∀ W, Below W6.heap.size W6 W → Calls Try.prog 32 #[.agg (fiC (w4.heap.size + 1) (w4.heap.size + 1 + 1) (some ⟨b, o, none⟩) i c), recV r p] W fun e w' => e = .returned (.tuple #[]) ∧ Fw w w' F (w4.heap.size + 1) (w4.heap.size + 1 + 1) (keysK l ++ keysR r) (trustL (l.take i) Lf.nil r) (some ⟨b, o, none⟩) i c from fun W hb => by
      have hF7 := HF6.out.below hb
      have := trust32 hF7.wk (some ⟨b, o, none⟩) c (l.take i) w0 (HL.out.take' i) (HB0.out.trans (hF7.low.mono HB0.out.size)) (by have := hF7.hA; omega) (by have := hF7.hD; omega) (by rw [HTk.out]; omega) (fun q hq => HDn.out.1 q (List.mem_of_mem_take hq)) (fun j hj => by
        have hj' : j + 1 < l.length := by simp at hj; omega
        have := HDn.out.2 j hj'
        simpa using this) r p hri hli (fun t ht => ⟨r3 t ht, List.mem_append.2 (.inr (List.mem_append.2 (.inl (List.mem_map.2 ⟨t, ht, rfl⟩))))⟩) (fun t ht => ⟨r4 t ht, List.mem_append.2 (.inr (List.mem_append.2 (.inr (List.mem_map.2 ⟨t, ht, rfl⟩))))⟩)
      rw [HTk.out] at this
      exact this.mono fun e w' ⟨q1, q2, q3⟩ => ⟨q1, hF7.turned q2 q3⟩)
    have HS := toHid (show ∀ W Y, Fw w W F (w4.heap.size + 1) (w4.heap.size + 1 + 1) (keysK l ++ keysR r) Y (some ⟨b, o, none⟩) i c → (W.cell? ⟨F, 0, none⟩ = some (.map (some (w4.heap.size + 1))) ∧ W.cell? ⟨F, 1, none⟩ = some (.map (some (w4.heap.size + 1 + 1))) ∧ W.cell? ⟨F, 2, none⟩ = some (.slice (some ⟨b, o, none⟩) i c) ∧ W.cell? ⟨b, o + i * 12, none⟩ = some (.int .i64 r.kind) ∧ W.cell? ⟨b, o + i * 12 + 1, none⟩ = some (.int .u64 (r.lsn : Int)) ∧ W.cell? ⟨b, o + i * 12 + 2, none⟩ = some (.int .i64 r.txn) ∧ W.cell? ⟨b, o + i * 12 + 3, none⟩ = some (.int .u64 (r.prev : Int)) ∧ W.cell? ⟨b, o + i * 12 + 4, none⟩ = some (.int .u64 (r.undo : Int)) ∧ W.cell? ⟨b, o + i * 12 + 5, none⟩ = some (.int .i64 r.page) ∧ W.cell? ⟨b, o + i * 12 + 6, none⟩ = some (.int .i64 r.ak) ∧ W.cell? ⟨b, o + i * 12 + 7, none⟩ = some (.string (txt r.key)) ∧ W.cell? ⟨b, o + i * 12 + 8, none⟩ = some (.string (txt r.old)) ∧ W.cell? ⟨b, o + i * 12 + 9, none⟩ = some (.string (txt r.new)) ∧ W.cell? ⟨b, o + i * 12 + 10, none⟩ = some (.slice p.ta r.txns.length p.tc) ∧ W.cell? ⟨b, o + i * 12 + 11, none⟩ = some (.slice p.da r.dirty.length p.dc)) from fun W Y hF7 => by
      obtain ⟨c0, c1, c2⟩ := cells3f hF7.fb
      exact ⟨c0, c1, c2, h12.stay ((hF7.low.block _ (by omega)).trans (HB0.out.block _ hbl))⟩)
    have HKo2 := HKo
    clear HKo
    have HKo := toHid (show ∀ r', r' ∈ l.drop (i + 1) → Wi r'.txn ∧ Wi r'.page ∧ Lit.int .i64 r'.txn ∈ keysK l ++ keysR r ∧ Lit.int .i64 r'.page ∈ keysK l ++ keysR r from fun r' hr' => by
      obtain ⟨q1, q2, q3, q4⟩ := HKo2.out r' (List.mem_of_mem_drop hr')
      exact ⟨q1, q2, List.mem_append.2 (.inl q3), List.mem_append.2 (.inl q4)⟩)
    have HSd := toHid (HL.out.drop' (i + 1))
    clear hk5 hb5 h5 HBg hst hF6 hW6 HF4 h12 hri r3 r4 HKo2 HDn HAl HLim HX
    go_wp2_with fail
    rw [← HW6.out]
    have hS0 := HS.out W6.drew _ (HF6.out.below ⟨rfl, rfl, rfl, Nat.le_refl _, fun _ _ => rfl⟩)
    clear HW6
    go_region_held3 (fun W => W.cell? ⟨F, 0, none⟩ = some (.map (some (w4.heap.size + 1))) ∧ W.cell? ⟨F, 1, none⟩ = some (.map (some (w4.heap.size + 1 + 1))) ∧ W.cell? ⟨F, 2, none⟩ = some (.slice (some ⟨b, o, none⟩) i c) ∧ W.cell? ⟨b, o + i * 12, none⟩ = some (.int .i64 r.kind) ∧ W.cell? ⟨b, o + i * 12 + 1, none⟩ = some (.int .u64 (r.lsn : Int)) ∧ W.cell? ⟨b, o + i * 12 + 2, none⟩ = some (.int .i64 r.txn) ∧ W.cell? ⟨b, o + i * 12 + 3, none⟩ = some (.int .u64 (r.prev : Int)) ∧ W.cell? ⟨b, o + i * 12 + 4, none⟩ = some (.int .u64 (r.undo : Int)) ∧ W.cell? ⟨b, o + i * 12 + 5, none⟩ = some (.int .i64 r.page) ∧ W.cell? ⟨b, o + i * 12 + 6, none⟩ = some (.int .i64 r.ak) ∧ W.cell? ⟨b, o + i * 12 + 7, none⟩ = some (.string (txt r.key)) ∧ W.cell? ⟨b, o + i * 12 + 8, none⟩ = some (.string (txt r.old)) ∧ W.cell? ⟨b, o + i * 12 + 9, none⟩ = some (.string (txt r.new)) ∧ W.cell? ⟨b, o + i * 12 + 10, none⟩ = some (.slice p.ta r.txns.length p.tc) ∧ W.cell? ⟨b, o + i * 12 + 11, none⟩ = some (.slice p.da r.dirty.length p.dc)) (assumption) (first | (go_at_call 32; refine Calls.mono (HTr.out _ ⟨rfl, rfl, rfl, Nat.le_refl _, fun _ _ => rfl⟩) ?_; rintro e w7 ⟨rfl, hF7⟩; have HF := toHid hF7; have hS7 := HS.out _ _ hF7; clear hF7))
    all_goals
      clear hS0
      obtain ⟨Q, hQ⟩ : ∃ Q, i + 1 = Q := ⟨_, rfl⟩
      have hwr : IntKind.i64.wrap ((i : Int) + 1) = (Q : Int) := by rw [IntKind.wrap_i64]; omega
      have hQi : (Q : Int) ≤ (l.length : Int) := by omega
      have hQ0 : 0 ≤ (Q : Int) := by omega
      have hq3 : (Q : Int) ≤ (c : Int) := by omega
      by_cases hcq : c = Q
      · have hd : l.drop (i + 1) = [] := List.drop_eq_nil_of_le (by omega)
        rw [hd] at HKo HQ
        have HO := toHid (over28 HF.out.wk (some ⟨b, o, none⟩) 0 [] w0 (SlR.nil _ _ fun y hy => by injection hy with hy; subst hy; rfl) (HB0.out.trans (HF.out.low.mono HB0.out.size)) (by have := HF.out.hA; omega) (by have := HF.out.hD; omega) (by simp) HKo.out)
        rw [List.length_nil] at HO
        clear hQ hd hS7
        subst hcq
        obtain ⟨f0, f1, f2⟩ := cells3f HF.out.fb
        go_wp2_with fail
        refine Calls.mono HO.out ?_
        rintro e w8 ⟨rfl, hk8, ht8⟩
        have HF8 := toHid (HF.out.turned hk8 ht8)
        have HLe := toHid (left29 hk8)
        clear hk8 ht8 HO f0 f1 f2
        obtain ⟨f0, f1, f2⟩ := cells3f HF8.out.fb
        go_wp2_with fail
        refine Calls.mono HLe.out ?_
        rintro e w9 ⟨vt, vn, vd, rfl, hR, hb9⟩
        have HF9 := toHid (HF8.out.below hb9)
        have hx9 := HF9.out.res
        obtain ⟨v0, v1, v2, v3, vf0, vf1, vf2, vf3⟩ := cellsF hx9
        have HX9 := toHid hx9
        have HRR := toHid (hR.base HF8.out.low.size)
        obtain ⟨ta, tc, rfl⟩ := ownsRow_shape2 hR.t
        obtain ⟨na, nc, rfl⟩ := ownsRow_shape2 hR.n
        obtain ⟨da, dc, rfl⟩ := ownsRow_shape2 hR.d
        clear hx9 hb9 hR HLe
        rw [HQ.out] at HRR
        go_wp2
        refine bodyPost_ret (results_lf Try.results14 _ rfl rfl rfl (put4_same HX9.out _ _ _ _)) rfl ⟨_, _, _, by rw [← HQ.out]; rfl, HRR.out.put HX9.out _ _ _ _, put4_below HF9.out.low (Nat.le_refl _) _ _ _ _⟩
      · have hdl : (l.drop Q).length = l.length - Q := by simp
        have hsl : SlR w0 (some ⟨b, o + Q * 12, none⟩) (l.drop Q) := by rw [← hQ]; exact HSd.out
        rw [hQ] at HKo HQ
        have HO := toHid (over28 HF.out.wk (some ⟨b, o + Q * 12, none⟩) (c - Q) (l.drop Q) w0 hsl (HB0.out.trans (HF.out.low.mono HB0.out.size)) (by have := HF.out.hA; omega) (by have := HF.out.hD; omega) (by rw [hdl]; omega) HKo.out)
        rw [hdl] at HO
        clear hsl hQ hdl hS7
        obtain ⟨f0, f1, f2⟩ := cells3f HF.out.fb
        go_wp2_with fail
        refine Calls.mono HO.out ?_
        rintro e w8 ⟨rfl, hk8, ht8⟩
        have HF8 := toHid (HF.out.turned hk8 ht8)
        have HLe := toHid (left29 hk8)
        clear hk8 ht8 HO f0 f1 f2
        obtain ⟨f0, f1, f2⟩ := cells3f HF8.out.fb
        go_wp2_with fail
        refine Calls.mono HLe.out ?_
        rintro e w9 ⟨vt, vn, vd, rfl, hR, hb9⟩
        have HF9 := toHid (HF8.out.below hb9)
        have hx9 := HF9.out.res
        obtain ⟨v0, v1, v2, v3, vf0, vf1, vf2, vf3⟩ := cellsF hx9
        have HX9 := toHid hx9
        have HRR := toHid (hR.base HF8.out.low.size)
        obtain ⟨ta, tc, rfl⟩ := ownsRow_shape2 hR.t
        obtain ⟨na, nc, rfl⟩ := ownsRow_shape2 hR.n
        obtain ⟨da, dc, rfl⟩ := ownsRow_shape2 hR.d
        clear hx9 hb9 hR HLe
        rw [HQ.out] at HRR
        go_wp2
        refine bodyPost_ret (results_lf Try.results14 _ rfl rfl rfl (put4_same HX9.out _ _ _ _)) rfl ⟨_, _, _, by rw [← HQ.out]; rfl, HRR.out.put HX9.out _ _ _ _, put4_below HF9.out.low (Nat.le_refl _) _ _ _ _⟩
end Go.Proofs.Yticnkppnpfgceaa.Mg

namespace Go.Proofs.Yticnkppnpfgceaa.Mg
open Go.RowKit

theorem results_rf {fn : Func} {x y : Tmp} (h : fn.results = #[.cell x 37, .tmp y]) (tmps : Array Value) {w : World} {a : Nat} {cs : Array Value} {v : Value} (ha : tmps.getD x undef = .pointer (some ⟨a, 0, none⟩)) (hv : tmps.getD y undef = v) (hc : cs.size = 3)
    (h1 : w.heap[a]? = some (.cells cs 37)) : (results fn tmps).run Try.prog w = .ok (.tuple #[.agg cs, v]) w := by
  have e1 := run_loadVar_row (P := Try.prog) w a 37 37 cs (0, 0) _ h1 Try.underlying37 rfl (by rw [hc]; kernel_rfl)
  have e3 : (asAddr (tmps.getD x undef)).run Try.prog w = .ok ⟨a, 0, none⟩ w := by rw [ha]; rfl
  rw [results_cell_tmp h, e3]
  simp only [Result.andThen_ok, e1, hv]
abbrev rfZ : Array Value := #[.slice none 0 0, .slice none 0 0, .slice none 0 0]
/-- What the document's All and Short hold. -/
structure Ax (w W : World) (vt vn vd : Value) (X : Lf) : Prop where
  low : Below w.heap.size w W
  res : W.heap[w.heap.size]? = some (.cells rfZ 37)
  var : W.heap[w.heap.size + 1]? = some (.cells (rfC vt vn vd) 37)
  row : LfR W 0 vt vn vd X
theorem Ax.below {w W W' : World} {vt vn vd : Value} {X : Lf} (h : Ax w W vt vn vd X) (hb : Below W.heap.size W W') : Ax w W' vt vn vd X :=
  ⟨h.low.trans (hb.mono h.low.size), (hb.block _ (some_lt h.res)).trans h.res, (hb.block _ (some_lt h.var)).trans h.var, h.row.below hb⟩
theorem Ax.put {w W : World} {vt vn vd ut un ud : Value} {X Y : Lf} (h : Ax w W vt vn vd X) (hr : LfR W 0 ut un ud Y) : Ax w (((W.setCell ⟨w.heap.size + 1, 0, none⟩ ut).setCell ⟨w.heap.size + 1, 1, none⟩ un).setCell ⟨w.heap.size + 1, 2, none⟩ ud) ut un ud Y := by
  refine ⟨put3_below h.low (by omega) _ _ _, ?_, put3_same h.var _ _ _, hr.put37 h.var _ _ _⟩
  rw [Below.heap_setCell _ _ _ _ (by simp), Below.heap_setCell _ _ _ _ (by simp), Below.heap_setCell _ _ _ _ (by simp)]
  exact h.res
theorem Ax.shape {w W : World} {vt vn vd : Value} {X : Lf} (h : Ax w W vt vn vd X) : ∃ ta tc na nc da dc, vt = .slice ta X.t.length tc ∧ vn = .slice na X.t.length nc ∧ vd = .slice da X.d.length dc := by
  obtain ⟨ta, tc, rfl⟩ := ownsRow_shape2 h.row.t
  obtain ⟨na, nc, rfl⟩ := ownsRow_shape2 h.row.n
  obtain ⟨da, dc, rfl⟩ := ownsRow_shape2 h.row.d
  exact ⟨_, _, _, _, _, _, rfl, rfl, rfl⟩

set_option maxRecDepth 100000 in
set_option maxHeartbeats 2000000 in
theorem refall13 (a : Option Addr) (c : Nat) (l : List Rc) (w0 w : World) (hL : SlR w0 a l) (hb0 : Below w0.heap.size w0 w) (hl : l.length ≤ 300) (hlim : ∀ r, r ∈ l → Lim r) :
    Calls Try.prog 13 #[.slice a l.length c] w fun e w' => ∃ vt vn vd, e = .returned (.tuple #[.agg (rfC vt vn vd), .bool (logB l)]) ∧ LfR w' 0 vt vn vd (allX l) ∧ Below w.heap.size w w' := by
  have hb1 : Below w.heap.size w ((w.alloc (.cells rfZ 37)).alloc (.cells rfZ 37)) := ((Below.refl _ _).alloc (Nat.le_refl _) _).alloc (by simp) _
  have hA0 : Ax w ((w.alloc (.cells rfZ 37)).alloc (.cells rfZ 37)) (.slice none 0 0) (.slice none 0 0) (.slice none 0 0) Lf.nil := ⟨hb1, heap_alloc2_old _ _ _, heap_alloc2_new _ _ _, LfR.nil _ _⟩
  have hC := reflog30 a c l w0 ((w.alloc (.cells rfZ 37)).alloc (.cells rfZ 37)) hL (hb0.trans (hb1.mono hb0.size)) (by omega) hlim
  have HA0 := toHid hA0
  cases he : logB l
  · rw [he] at hC
    have HC := toHid hC
    have HX := toHid (show allX l = Lf.nil by simp [allX, he])
    clear hC hb1 hA0 hL hb0 he
    go_enter Try.func13, Try.ntmps13
    go_wp2_with fail
    refine Calls.mono HC.out ?_
    rintro e w1 ⟨rfl, hb2⟩
    have hA1 := HA0.out.below hb2
    obtain ⟨v0, v1, v2, _, _, _⟩ := cellsT hA1.var
    obtain ⟨c0, c1, c2, cf0, cf1, cf2⟩ := cellsT hA1.res
    have HA1 := toHid hA1
    clear hb2 hA1
    go_wp2
    refine bodyPost_ret (results_rf Try.results13 _ rfl rfl rfl (put3_same HA1.out.res _ _ _)) rfl ⟨.slice none 0 0, .slice none 0 0, .slice none 0 0, rfl, by rw [HX.out]; exact LfR.nil _ _, put3_below HA1.out.low (Nat.le_refl _) _ _ _⟩
  rw [he] at hC
  have HC := toHid hC
  have HX := toHid (show allX l = overL Lf.nil l by simp [allX, he])
  have HL := toHid hL
  have HB0 := toHid hb0
  clear hC hb1 hA0 hL hb0 he
  go_enter Try.func13, Try.ntmps13
  go_wp2_with fail
  refine Calls.mono HC.out ?_
  rintro e w1 ⟨rfl, hb2⟩
  have HA1 := toHid (HA0.out.below hb2)
  clear hb2 HC HA0
  go_wp2_with fail
  go_loopw [5] (fun k W => ∃ i : Nat, i ≤ l.length ∧ k = .int .i64 i ∧ ∃ vt vn vd, Ax w W vt vn vd (overL Lf.nil (l.take i))) (fun k _ => l.length - (intOf k).toNat)
  case atStart => exact ⟨0, Nat.zero_le _, rfl, _, _, _, HA1.out⟩
  case round =>
    obtain ⟨i, hi, rfl, vt, vn, vd, ha⟩ := hrel
    obtain ⟨ta, tc, na, nc, da, dc, rfl, rfl, rfl⟩ := ha.shape
    have HA := toHid ha
    obtain ⟨x0, x1, x2, _, _, _⟩ := cellsT ha.var
    clear HA1
    by_cases hlt : i < l.length
    · obtain ⟨b, o, rfl, hbl⟩ := HL.out.there (by omega)
      obtain ⟨p, h12, _⟩ := (HL.out.below (HB0.out.trans (ha.low.mono HB0.out.size))).get i hlt
      obtain ⟨d0, d1, d2, d3, d4, d5, d6, d7, d8, d9, d10, d11⟩ := h12
      have hi1 : (i : Int) < (l.length : Int) := by omega
      have hi2 : 0 ≤ (i : Int) := by omega
      have HSt := toHid (show overL Lf.nil (l.take (i + 1)) = stepL (overL Lf.nil (l.take i)) l[i] by rw [List.take_succ_eq_append_getElem hlt, overL_snoc])
      have hln := over_len Lf.nil (l.take i)
      have hok := Lf.Ok.nil.over (l.take i)
      have hn1 : Lf.nil.t.length = 0 := rfl
      have hn2 : Lf.nil.d.length = 0 := rfl
      have hn3 : (l.take i).length ≤ i := List.length_take_le _ _
      have hX1 : (overL Lf.nil (l.take i)).t.length ≤ 1000 := by omega
      have hX2 : (overL Lf.nil (l.take i)).d.length ≤ 1000 := by omega
      obtain ⟨X, hX⟩ : ∃ X, overL Lf.nil (l.take i) = X := ⟨_, rfl⟩
      obtain ⟨r, hr⟩ : ∃ r, l[i] = r := ⟨_, rfl⟩
      rw [hX] at HSt HA hok hX1 hX2 x0 x1 x2
      rw [hr] at HSt d0 d1 d2 d3 d4 d5 d6 d7 d8 d9 d10 d11
      have HSp := toHid (show ∀ W, Below wr.heap.size wr W → Calls Try.prog 26 #[.agg (rfC (.slice ta X.t.length tc) (.slice na X.t.length nc) (.slice da X.d.length dc)), .agg (recC r p)] W fun e w' => ∃ vt' vn' vd', e = .returned (.agg (rfC vt' vn' vd')) ∧ LfR w' 0 vt' vn' vd' (stepL X r) ∧ Below W.heap.size W w' from fun W hb => step26 (HA.out.below hb).row hok hX1 hX2 r p)
      clear ha hX hr hln hok hX1 hX2 hn1 hn2 hn3
      go_wp2_with fail
      refine wp_region_quiet_tail 5 Try.mixed (by kernel_rfl) ?_
      simp only [List.take_succ_cons, List.take_zero, List.drop_succ_cons, List.drop_zero]
      repeat (first | go_big_quiet_step (fail))
      refine wpQuiet_nil ?_
      go_wp2_with fail
      refine Calls.mono (HSp.out _ (Below.refl _ _).drew) ?_
      rintro e w2 ⟨ut, un, ud, rfl, hr2, hb2⟩
      have hA2 := (HA.out.below (Below.refl _ _).drew).below hb2
      obtain ⟨ea, ec, rfl⟩ := ownsRow_shape2 hr2.t
      obtain ⟨ga, gc, rfl⟩ := ownsRow_shape2 hr2.n
      obtain ⟨fa, fc, rfl⟩ := ownsRow_shape2 hr2.d
      clear x0 x1 x2
      obtain ⟨x0, x1, x2, xf0, xf1, xf2⟩ := cellsT hA2.var
      have HA3 := toHid (hA2.put hr2)
      clear hA2 hr2 hb2
      go_wp2_with fail
      go_roundw
      case rel => exact ⟨i + 1, by omega, by go_num, _, _, _, by rw [HSt.out]; exact HA3.out⟩
      case measure => simp [intOf]; omega
    · obtain rfl : i = l.length := by omega
      obtain ⟨c0, c1, c2, cf0, cf1, cf2⟩ := cellsT ha.res
      clear ha
      rw [List.take_length] at HA x0 x1 x2
      rw [← HX.out] at HA x0 x1 x2
      go_wp2
      refine bodyPost_ret (results_rf Try.results13 _ rfl rfl rfl (put3_same HA.out.res _ _ _)) rfl ⟨_, _, _, rfl, HA.out.row.put37 HA.out.res _ _ _, put3_below HA.out.low (Nat.le_refl _) _ _ _⟩
end Go.Proofs.Yticnkppnpfgceaa.Mg

