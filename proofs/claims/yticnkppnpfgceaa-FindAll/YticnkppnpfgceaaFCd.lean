/-
  The walks of begin, over and Check; the document's Log.
-/
import Derived.Test.YticnkppnpfgceaaFCc
namespace Go.Proofs.Yticnkppnpfgceaa.Mg
open Go.RowKit Go.Maps

/-- A finding's cells. -/
abbrev fiC (A D : Nat) (a : Option Addr) (n c : Nat) : Array Value := #[.map (some A), .map (some D), .slice a n c]
theorem gF_nil : ∀ y, (none : Option Value) = gF [] y := fun y => by
  cases y <;> try rfl
  rename_i kd u
  cases kd <;> rfl
theorem dF_nil : ∀ y, (none : Option Value) = dF [] y := fun y => by
  cases y <;> try rfl
  rename_i kd u
  cases kd <;> rfl
theorem begin27 (a : Option Addr) (n c : Nat) (K : List Lit) (hK : K.length ≤ 1000) (w : World) : Calls Try.prog 27 #[.slice a n c] w fun e w' => e = .returned (.agg (fiC (w.heap.size + 1) (w.heap.size + 1 + 1) a n c)) ∧ Wk w' (w.heap.size + 1) (w.heap.size + 1 + 1) K Lf.nil ∧ Below w.heap.size w w' := by
  obtain ⟨o, ho⟩ : ∃ o, o = Obj.cells (fiC (w.heap.size + 1) (w.heap.size + 1 + 1) a n c) 67 := ⟨_, rfl⟩
  have hA : MapV Try.prog 3 (((w.alloc o).alloc (.map #[] 0)).alloc (.map #[] 0)) (w.heap.size + 1) K fun _ => none := by
    have h1 := MapV.made (P := Try.prog) (k := 3) (K := K) (w.alloc o)
    rw [show (w.alloc o).heap.size = w.heap.size + 1 by simp] at h1
    exact h1.at (heap_alloc_old h1.lt)
  have hD : MapV Try.prog 3 (((w.alloc o).alloc (.map #[] 0)).alloc (.map #[] 0)) (w.heap.size + 1 + 1) K fun _ => none := by
    have h1 := MapV.made (P := Try.prog) (k := 3) (K := K) ((w.alloc o).alloc (.map #[] 0))
    rw [show ((w.alloc o).alloc (.map #[] 0)).heap.size = w.heap.size + 1 + 1 by simp] at h1
    exact h1
  have HWk := toHid (show Wk (((w.alloc o).alloc (.map #[] 0)).alloc (.map #[] 0)) (w.heap.size + 1) (w.heap.size + 1 + 1) K Lf.nil from ⟨hA.congr gF_nil, hD.congr dF_nil, by omega, hK, Lf.Ok.nil⟩)
  have HKe := toHid (kept3 (w := w) (a := o) (b := .map #[] 0) (c := .map #[] 0) (Below.refl _ _)).1
  subst ho
  clear hA hD
  have hmk := @run_makeMap Try.prog
  go_enter Try.func27, Try.ntmps27
  go_wp2
  refine bodyPost_ret (results_cell_row (P := Try.prog) Try.results27 _ _ w.heap.size 67 _ (0, 0) _ rfl HKe.out Try.underlying67 rfl (by kernel_rfl)) rfl ⟨rfl, HWk.out, below3⟩

set_option maxRecDepth 100000 in
set_option maxHeartbeats 4000000 in
theorem over28 {w : World} {A D : Nat} {K : List Lit} {x : Lf} (h : Wk w A D K x) (a : Option Addr) (c : Nat) (l : List Rc) (w0 : World) (hL : SlR w0 a l) (hb0 : Below w0.heap.size w0 w) (hA : w0.heap.size ≤ A) (hD : w0.heap.size ≤ D) (hl : l.length ≤ 1000)
    (hk : ∀ r, r ∈ l → Wi r.txn ∧ Wi r.page ∧ Lit.int .i64 r.txn ∈ K ∧ Lit.int .i64 r.page ∈ K) :
    Calls Try.prog 28 #[wkV A D, .slice a l.length c] w fun e w' => e = .returned (.tuple #[]) ∧ Wk w' A D K (overL x l) ∧ Turn (fun i => i = A ∨ i = D) w w' := by
  have HL := toHid hL
  have HB0 := toHid hb0
  have HK := toHid hk
  have HH := toHid (h.below (show Below w.heap.size w (w.alloc (.cells (wkC A D) 65)) from (Below.refl _ _).alloc (Nat.le_refl _) _))
  have HT := toHid (Turn.alloc (fun i => i = A ∨ i = D) w (.cells (wkC A D) 65))
  have HX := toHid (heap_alloc_new w (.cells (wkC A D) 65))
  have hAl := h.t.lt
  have hDl := h.d.lt
  clear hL hb0 hk h
  go_enter Try.func28, Try.ntmps28
  go_wp2_with fail
  go_loopw [8] (fun k W => ∃ i : Nat, i ≤ l.length ∧ k = .int .i64 i ∧ Wk W A D K (overL x (l.take i)) ∧ Turn (fun i => i = A ∨ i = D) w W ∧ W.heap[w.heap.size]? = some (.cells (wkC A D) 65)) (fun k _ => l.length - (intOf k).toNat)
  case atStart => exact ⟨0, Nat.zero_le _, rfl, HH.out, HT.out, HX.out⟩
  case round =>
    obtain ⟨i, hi, rfl, hwk, htn, hx⟩ := hrel
    have HW := toHid hwk
    have HTN := toHid htn
    have HX := toHid hx
    clear hwk htn HH HT
    by_cases hlt : i < l.length
    · obtain ⟨b, o, rfl, hbl⟩ := HL.out.there (by omega)
      obtain ⟨pl, h12, _⟩ := HL.out.get i hlt
      have hbw : b < w.heap.size := Nat.lt_of_lt_of_le hbl HB0.out.size
      have h12w := h12.stay (w' := wr) ((HTN.out.block _ hbw (by omega)).trans (HB0.out.block _ hbl))
      obtain ⟨d0, d1, d2, d3, d4, d5, d6, d7, d8, d9, d10, d11⟩ := h12w
      have hi1 : (i : Int) < (l.length : Int) := by omega
      have hi2 : 0 ≤ (i : Int) := by omega
      obtain ⟨k1, k2, k3, k4⟩ := HK.out _ (List.getElem_mem hlt)
      have HSt := toHid (show overL x (l.take (i + 1)) = stepL (overL x (l.take i)) l[i] by rw [List.take_succ_eq_append_getElem hlt, overL_snoc])
      obtain ⟨r, hr⟩ : ∃ r, l[i] = r := ⟨_, rfl⟩
      rw [hr] at d0 d1 d2 d3 d4 d5 d6 d7 d8 d9 d10 d11 k1 k2 k3 k4 HSt
      have hwz := HTN.out.size
      have hsx := some_lt hx
      obtain ⟨X, hX⟩ : ∃ X, overL x (l.take i) = X := ⟨_, rfl⟩
      rw [hX] at HW HSt
      have HC1 := toHid (fun W (hW : Wk W A D K X) => note43 hW r pl k1 k3)
      have HC2 := toHid (changes44 r pl)
      have HC3 := toHid (fun (Y : Lf) W (hW : Wk W A D K Y) => soil45 hW k2 k4 r.lsn)
      have x0 : wr.cell? ⟨w.heap.size, 0, none⟩ = some (.map (some A)) := by simp [World.cell?, hx]
      have x1 : wr.cell? ⟨w.heap.size, 1, none⟩ = some (.map (some D)) := by simp [World.cell?, hx]
      clear h12 hr hX k1 k2 k3 k4 hx
      obtain ⟨W1, hW1⟩ : ∃ W1, W1 = wr.alloc (.cells (recC r pl) 50) := ⟨_, rfl⟩
      have hb1 : Below wr.heap.size wr W1 := hW1 ▸ (Below.refl _ _).alloc (Nat.le_refl _) _
      have HWk1 := toHid (HW.out.below hb1)
      have HT1 := toHid (HTN.out.trans (Turn.of_below hb1 _) fun _ h => .inl h)
      have hx1 := (hb1.block _ hsx).trans HX.out
      have hy1 : W1.heap[wr.heap.size]? = some (.cells (recC r pl) 50) := hW1 ▸ heap_alloc_new _ _
      have HW1 := toHid hW1
      have HX1 := toHid hx1
      have HY1 := toHid hy1
      clear hb1 hW1 hx1 hy1
      go_wp2_with fail
      rw [← HW1.out]
      clear d0 d1 d2 d3 d4 d5 d6 d7 d8 d9 d10 d11 x0 x1
      refine Calls.mono (HC1.out W1 HWk1.out) ?_
      rintro e w2 ⟨rfl, hk2, ht2⟩
      have HK2 := toHid hk2
      have hx2 := (ht2.block _ (some_lt HX1.out) (by omega)).trans HX1.out
      have hy2 := (ht2.block _ (some_lt HY1.out) (by omega)).trans HY1.out
      have HT2 := toHid (HT1.out.trans ht2 fun i h => .inl (.inl h))
      have HX2 := toHid hx2
      have HY2 := toHid hy2
      obtain ⟨b0, b1, b2, b3, b4, b5, b6, b7, b8, b9, b10, b11, bf⟩ := cell12 hy2
      clear hk2 ht2 hx2 hy2
      go_wp2_with fail
      refine Calls.mono (HC2.out w2) ?_
      rintro e w3 ⟨rfl, hb3⟩
      have hx3 := (hb3.block _ (some_lt HX2.out)).trans HX2.out
      have hy3 := (hb3.block _ (some_lt HY2.out)).trans HY2.out
      have HK3 := toHid (HK2.out.below hb3)
      have HT3 := toHid (HT2.out.trans (Turn.of_below hb3 _) fun _ h => .inl h)
      have HX3 := toHid hx3
      have x0 : w3.cell? ⟨w.heap.size, 0, none⟩ = some (.map (some A)) := by simp [World.cell?, hx3]
      have x1 : w3.cell? ⟨w.heap.size, 1, none⟩ = some (.map (some D)) := by simp [World.cell?, hx3]
      clear b0 b1 b2 b3 b4 b5 b6 b7 b8 b9 b10 b11 bf
      obtain ⟨b0, b1, b2, b3, b4, b5, b6, b7, b8, b9, b10, b11, bf⟩ := cell12 hy3
      clear hb3 hx3 hy3
      cases hc : chg r
      · have HE := toHid (show stepL X r = ⟨noteL X.t r, X.d⟩ by simp [stepL, hc])
        clear hc
        go_wp2_with fail
        go_roundw
        case rel => exact ⟨i + 1, by omega, by go_num, by rw [HSt.out, HE.out]; exact HK3.out, HT3.out, HX3.out⟩
        case measure => simp [intOf]; omega
      · have HE := toHid (show stepL X r = ⟨noteL X.t r, soilL X.d r.page r.lsn⟩ by simp [stepL, hc])
        clear hc
        go_wp2_with fail
        refine Calls.mono (HC3.out _ w3 HK3.out) ?_
        rintro e w4 ⟨rfl, hk4, ht4⟩
        have HK4 := toHid hk4
        have HT4 := toHid (HT3.out.trans ht4 fun i h => .inl (.inr h))
        have HX4 := toHid ((ht4.block _ (some_lt HX3.out) (by omega)).trans HX3.out)
        clear hk4 ht4
        go_wp2_with fail
        go_roundw
        case rel => exact ⟨i + 1, by omega, by go_num, by rw [HSt.out, HE.out]; exact HK4.out, HT4.out, HX4.out⟩
        case measure => simp [intOf]; omega
    · obtain rfl : i = l.length := by omega
      rw [List.take_length] at HW
      go_wp2
      go_end0
      exact ⟨rfl, HW.out, HTN.out⟩
end Go.Proofs.Yticnkppnpfgceaa.Mg
