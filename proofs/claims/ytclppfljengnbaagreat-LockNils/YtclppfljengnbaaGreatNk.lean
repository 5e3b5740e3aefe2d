/-
  LockNils: the walk.
-/
import Derived.Test.YtclppfljengnbaaGreatNj
import Derived.Test.YtclppfljengnbaaGreatHb
import Derived.Deep.RegionHeld3
namespace Go.Proofs.YtclppfljengnbaaGreat
open Go.RowKit Go.Maps Go.Sort Go.Shelf

theorem ask_two {KT KN : List Lit} {w W : World} {T : Nat} {σ : Sg} {Q : Name → List Nat} {t : Int} {n : Name} {md : Int} (h : Stp KT KN w T W σ Q) (ht : (Lit.int .i64 t).wf = true) (hKT : Lit.int .i64 t ∈ KT) (hKN : Lit.string n ∈ KN) :
    Calls Tryz.prog 21 #[.pointer (some ⟨T, 0, none⟩), .int .i64 t, .agg #[nmV n, .int .i64 md]] W fun e w' => (e = .returned (.tuple #[.bool false, .int .i64 1]) ∧ Below W.heap.size W w') ∨ (e = .returned (.tuple #[.bool false, .int .i64 10]) ∧ Below W.heap.size W w') ∨ ∃ g, e = .returned (.tuple #[.bool g, .int .i64 0]) ∧ Below w.heap.size w w' := by
  have hT := h.top
  subst hT
  by_cases hbad : t < 1 ∨ n.length < 1 ∨ 16 < n.length ∨ md < 1 ∨ 5 < md
  · refine (ask_bad (some σ.T) W n md t (.inr hbad)).mono ?_
    rintro e w' ⟨rfl, hb⟩
    exact .inl ⟨rfl, hb⟩
  · obtain ⟨m, rfl⟩ : ∃ m : Nat, md = m := ⟨md.toNat, by omega⟩
    cases hw : σ.pw t with
    | some z =>
      refine (ask_waits (n := n) (m := m) h.mem h.good ht (by omega) (by omega) (by omega) (by omega) (by omega) (by rw [hw]; simp)).mono ?_
      rintro e w' ⟨rfl, hb⟩
      exact .inr (.inl ⟨rfl, hb⟩)
    | none =>
      refine (ask_ok (n := n) (m := m) h.mem h.good ht (by omega) hKT (by omega) (by omega) hKN (by omega) (by omega) hw).mono ?_
      rintro e w' ⟨g, rfl, σ', Q', h1, h2, h3, h4⟩
      exact .inr (.inr ⟨g, rfl, (h.next h1 h3 h2).bel⟩)

theorem row_bel {W W' : World} {B e s n : Nat} {v : Value} {xs : List Value} (h : W.ownsRow B e s v n xs) (hb : Below W.heap.size W W') : W'.ownsRow B e s v n xs := by
  refine ⟨h.1, ?_⟩
  rcases h.2 with h2 | ⟨g, cap, cur, hv, hg, hh, r⟩
  · exact .inl h2
  · exact .inr ⟨g, cap, cur, hv, hg, (hb.block g (Array.getElem?_eq_some_iff.1 hh).1).trans hh, r⟩
def IsE (σ : Sg) (Q : Name → List Nat) (E : List (Int × Int)) : Prop := E.length ≤ 7000000 ∧ E.Pairwise ltE ∧ ∀ x, x ∈ E ↔ σ.pb x.1 ≠ none ∧ For σ Q x.1 x.2
def IsT (σ : Sg) (ts : List Int) : Prop := ts.length ≤ 1000 ∧ ts.Pairwise (· < ·) ∧ ∀ t, t ∈ ts ↔ σ.pb t ≠ none
def IsH (σ : Sg) (t : Int) (ks : List Name) : Prop := ks.length ≤ 1000 ∧ ks.Pairwise (· < ·) ∧ ∀ k, k ∈ ks ↔ σ.ph t k ≠ 0
theorem IsE.eq {σ : Sg} {Q : Name → List Nat} {E F : List (Int × Int)} (h : IsE σ Q E) (g : IsE σ Q F) : E = F :=
  pw_uniq (r := ltE) (fun a h => by unfold ltE at h; omega) (fun a b h g => by unfold ltE at h g; omega) h.2.1 g.2.1 fun x => (h.2.2 x).trans (g.2.2 x).symm
theorem IsT.eq {σ : Sg} {E F : List Int} (h : IsT σ E) (g : IsT σ F) : E = F :=
  pw_uniq (r := (· < ·)) (fun a h => by omega) (fun a b h g => by omega) h.2.1 g.2.1 fun x => (h.2.2 x).trans (g.2.2 x).symm
theorem IsH.eq {σ : Sg} {t : Int} {E F : List Name} (h : IsH σ t E) (g : IsH σ t F) : E = F :=
  pw_uniq (r := (· < ·)) (fun a h => List.lt_irrefl a h) (fun _ _ h g => List.lt_asymm h g) h.2.1 g.2.1 fun x => (h.2.2 x).trans (g.2.2 x).symm
theorem ed_any {KT KN : List Lit} {w W : World} {T : Nat} {σ : Sg} {Q : Name → List Nat} (h : Stp KT KN w T W σ Q) : Calls Tryz.prog 12 #[.pointer (some ⟨T, 0, none⟩)] W fun e w' => ∃ va c E, e = .returned (.slice va (List.length E) c) ∧ IsE σ Q E ∧ w'.ownsRow W.heap.size 78 2 (.slice va (List.length E) c) (List.length E) (ecells E) ∧ Below W.heap.size W w' := by
  have hT := h.top
  subst hT
  refine (edges16 h.mem h.good).mono ?_
  rintro e w' ⟨va, c, E, rfl, r, b, l, p, m⟩
  exact ⟨va, c, E, rfl, ⟨l, p, fun x => m x.1 x.2⟩, r, b⟩
theorem tx_any {KT KN : List Lit} {w W : World} {T : Nat} {σ : Sg} {Q : Name → List Nat} (h : Stp KT KN w T W σ Q) : Calls Tryz.prog 15 #[.pointer (some ⟨T, 0, none⟩)] W fun e w' => ∃ va c ts, e = .returned (.slice va (List.length ts) c) ∧ IsT σ ts ∧ w'.ownsRow W.heap.size 3 1 (.slice va (List.length ts) c) (List.length ts) (ts.map (Value.int .i64)) ∧ Below W.heap.size W w' := by
  have hT := h.top
  subst hT
  refine (txns7 h.mem).mono ?_
  rintro e w' ⟨v, ts, rfl, r, p, m, l, b⟩
  obtain ⟨va, c, rfl⟩ := ownsRow_shape r
  exact ⟨va, c, ts, rfl, ⟨l, p, m⟩, r, b⟩
theorem he_any {KT KN : List Lit} {w W : World} {T : Nat} {σ : Sg} {Q : Name → List Nat} (h : Stp KT KN w T W σ Q) {t : Int} (ht : (Lit.int .i64 t).wf = true) : Calls Tryz.prog 23 #[.pointer (some ⟨T, 0, none⟩), .int .i64 t] W fun e w' => ∃ va c ks, e = .returned (.slice va (List.length ks) c) ∧ IsH σ t ks ∧ w'.ownsRow W.heap.size 106 2 (.slice va (List.length ks) c) (List.length ks) (hcells ks (σ.ph t)) ∧ Below W.heap.size W w' := by
  have hT := h.top
  subst hT
  refine (held8 h.mem h.good ht).mono ?_
  rintro e w' ⟨v, ks, rfl, r, p, m, l, b⟩
  obtain ⟨va, c, rfl⟩ := ownsRow_shape r
  exact ⟨va, c, ks, rfl, ⟨l, p, m⟩, r, b⟩

set_option maxRecDepth 100000 in
set_option maxHeartbeats 4000000 in
theorem nils_walk {w : World} {a : Option Addr} {c : Nat} {l : List OpL} {o : OpL} (h1 : SlO w a l) (hl : l.length ≤ maxLen) (ho : o.Wf) :
    Calls Tryz.prog 5 #[.slice a l.length c, .agg #[.int .i64 o.kind, .int .i64 o.txn, nmV o.name, .int .i64 o.mode]] w fun e w' => e = .returned (.bool true) ∧ Below w.heap.size w w' := by
  obtain ⟨w0, hw0⟩ : ∃ w0, w.alloc (.cells #[.int .i64 o.kind, .int .i64 o.txn, nmV o.name, .int .i64 o.mode] 33) = w0 := ⟨_, rfl⟩
  have HW0 := toHid hw0
  have HB0 := toHid (show Below w.heap.size w w0 from by rw [← hw0]; exact (Below.refl _ _).alloc (Nat.le_refl _) _)
  obtain ⟨KT, hKT⟩ : ∃ KT, KT = (l.take 60).map (fun o => Lit.int .i64 o.txn) ++ [.int .i64 o.txn] := ⟨_, rfl⟩
  obtain ⟨KN, hKN⟩ : ∃ KN, KN = (l.take 60).map (fun o => Lit.string o.name) ++ [.string o.name] := ⟨_, rfl⟩
  have HLed : Hid (∀ W, Below w0.heap.size w0 W → Calls Tryz.prog 14 #[.slice a l.length c] W fun e w' => ∃ σ Q, e = .returned (.pointer (some ⟨σ.T, 0, none⟩)) ∧ Stp KT KN W σ.T w' σ Q) := fun W hW => by
    have HB := HB0.out.trans (hW.mono HB0.out.size)
    refine Calls.mono (led6 (KT := KT) (KN := KN) (c := c) (w := W) (a := a) (l := l) ⟨fun j hj => by
      obtain ⟨b', o', e, k0, k1, k2, k3⟩ := h1.at_ j hj
      have hlt : b' < w.heap.size := cell_lt k0
      exact ⟨b', o', e, (HB.cell (p := ⟨b', _, none⟩) hlt).trans k0, (HB.cell (p := ⟨b', _, none⟩) hlt).trans k1, (HB.cell (p := ⟨b', _, none⟩) hlt).trans k2, (HB.cell (p := ⟨b', _, none⟩) hlt).trans k3⟩, h1.wf⟩ hl (by rw [hKT]; simp; omega) (by rw [hKN]; simp; omega) (fun i hi h6 => by
      have hm : l[i] ∈ l.take 60 := by rw [List.mem_take_iff_getElem]; exact ⟨i, by omega, rfl⟩
      exact ⟨by rw [hKT]; exact List.mem_append_left _ (List.mem_map.2 ⟨_, hm, rfl⟩), by rw [hKN]; exact List.mem_append_left _ (List.mem_map.2 ⟨_, hm, rfl⟩)⟩)) ?_
    rintro e w1 ⟨σ, Q, rfl, m1, g1, b1, o1⟩
    exact ⟨σ, Q, rfl, m1, g1, b1, o1, rfl⟩
  have HKT := toHid (show Lit.int .i64 o.txn ∈ KT from by rw [hKT]; simp)
  have HKN := toHid (show Lit.string o.name ∈ KN from by rw [hKN]; simp)
  have HO := toHid ho
  have HLv := toHid lives12
  have HSh := toHid (fun W => short13 o W)
  obtain ⟨k4, k5, k6, k7⟩ := o
  simp only at *
  clear hKT hKN h1 hl ho
  have HC := toHid (show ∀ W, Below w0.heap.size w0 W → W.cell? ⟨w.heap.size, 0, none⟩ = some (.int .i64 k4) ∧ W.cell? ⟨w.heap.size, 1, none⟩ = some (.int .i64 k5) ∧ W.cell? ⟨w.heap.size, 2, none⟩ = some (nmV k6) ∧ W.cell? ⟨w.heap.size, 3, none⟩ = some (.int .i64 k7) from fun W hW => by
    have hk : w0.heap[w.heap.size]? = some (.cells #[.int .i64 k4, .int .i64 k5, nmV k6, .int .i64 k7] 33) := by rw [← hw0]; exact heap_alloc_new w _
    have h2 : W.heap[w.heap.size]? = _ := (hW.block _ (lt_of_heap hk)).trans hk
    exact ⟨by simp [World.cell?, h2], by simp [World.cell?, h2], by simp [World.cell?, h2], by simp [World.cell?, h2]⟩)
  clear hw0
  have HA1 : Hid (∀ W, Calls Tryz.prog 21 #[.pointer none, .int .i64 1, .agg #[.string ⟨#[97]⟩, .int .i64 3]] W fun e w' => e = .returned (.tuple #[.bool false, .int .i64 1]) ∧ Below W.heap.size W w') := fun W => ask_bad none W [97] 3 1 (.inl rfl)
  have HN1 := toHid (waits_nil 1)
  have HN2 := toHid (victim_nil 1 (by decide))
  have HN3 := toHid (free_nil 1)
  have HN4 := toHid (cancel_nil 1)
  have HN5 := toHid (held_nil 1)
  have HN6 := toHid edges_nil
  have HN7 := toHid txns_nil
  go_enter Tryz.func5, Tryz.ntmps5
  go_wp2_with fail
  rw [HW0.out]
  refine Calls.mono (HA1.out _) ?_
  rintro e wa ⟨rfl, ba⟩
  have BA := toHid ba
  clear ba
  go_wp2_with fail
  refine Calls.mono (HN1.out _) ?_
  rintro e wb ⟨⟨s1, n1, rfl⟩, bb⟩
  replace BA := toHid (BA.out.trans (bb.mono BA.out.size))
  clear bb
  go_wp2_with fail
  refine Calls.mono (HN2.out _) ?_
  rintro e wc ⟨rfl, bc⟩
  replace BA := toHid ((BA.out.alloc BA.out.size (.cells #[.string s1, .int .i64 n1] 31)).trans (bc.mono (by simp; exact Nat.le_trans BA.out.size (by omega))))
  clear bc
  go_wp2_with fail
  refine Calls.mono (HN3.out _) ?_
  rintro e wd ⟨rfl, hwd⟩
  obtain rfl := hwd.symm
  clear hwd
  go_wp2_with fail
  refine Calls.mono (HN4.out _) ?_
  rintro e wd ⟨rfl, hwd⟩
  obtain rfl := hwd.symm
  clear hwd
  go_wp2_with fail
  refine Calls.mono (HN5.out _) ?_
  rintro e wd ⟨rfl, hwd⟩
  obtain rfl := hwd.symm
  clear hwd
  go_wp2_with fail
  refine Calls.mono (HN6.out _) ?_
  rintro e wd ⟨rfl, hwd⟩
  obtain rfl := hwd.symm
  clear hwd
  go_wp2_with fail
  refine Calls.mono (HN7.out _) ?_
  rintro e wd ⟨rfl, hwd⟩
  obtain rfl := hwd.symm
  clear hwd
  clear HA1 HN1 HN2 HN3 HN4 HN5 HN6 HN7
  go_wp2_with fail
  refine Calls.mono (HLed.out _ BA.out) ?_
  rintro e we ⟨σ, Q, rfl, st⟩
  have ST1 := toHid st
  clear st
  have HF := toHid (fun W h => HB0.out.trans ((BA.out.trans (Below.mono h BA.out.size)).mono HB0.out.size) : ∀ W, Below _ _ W → _)
  replace HC := toHid (fun W h => HC.out W (BA.out.trans (Below.mono h BA.out.size)) : ∀ W, Below _ _ W → _)
  obtain ⟨d0, d1, d2, d3⟩ := HC.out _ ST1.out.bel
  obtain ⟨T, hT⟩ : ∃ T, σ.T = T := ⟨_, rfl⟩
  rw [hT] at ST1 ⊢
  clear hT BA HB0 HW0
  go_wp2_with fail
  refine Calls.mono (HSh.out _) ?_
  rintro e wf ⟨rfl, bf⟩
  have ST2 := toHid (ST1.out.quiet bf)
  clear bf ST1 d0 d1 d2 d3 HSh
  by_cases hsk : k6.length ≤ 1000
  · rw [show decide (k6.length ≤ 1000) = true from by simp [hsk]]
    clear hsk
    have STd := toHid (ST2.out.quiet (Below.refl _ _).drew)
    have d1 : wf.cell? ⟨w.heap.size, 1, none⟩ = some (.int .i64 k5) := (HC.out _ ST2.out.bel).2.1
    have d1' : wf.drew.cell? ⟨w.heap.size, 1, none⟩ = some (.int .i64 k5) := (HC.out _ STd.out.bel).2.1
    go_wp2_with fail
    go_region_held3 (fun W => W.cell? ⟨w.heap.size, 1, none⟩ = some (.int .i64 k5)) (with_reducible assumption) ((first
      | (go_at_call 12; refine Calls.mono (ed_any STd.out) ?_; rintro e wg ⟨va1, c1, E, rfl, e1, r1, b1⟩; have E1 := toHid e1; have R1 := toHid r1; have ST3 := toHid (STd.out.quiet b1); have d2 : wg.cell? ⟨w.heap.size, 1, none⟩ = some (.int .i64 k5) := (HC.out _ ST3.out.bel).2.1; clear e1 r1 b1 d1 d1')
      | (go_at_call 15; refine Calls.mono (tx_any ST3.out) ?_; rintro e wh ⟨va2, c2, ts, rfl, e2, r2, b2⟩; have E2 := toHid e2; have R2 := toHid r2; have ST4 := toHid (ST3.out.quiet b2); replace R1 := toHid (row_bel R1.out b2); have d3 : wh.cell? ⟨w.heap.size, 1, none⟩ = some (.int .i64 k5) := (HC.out _ ST4.out.bel).2.1; clear e2 r2 b2 d2)
      | (go_at_call 23; refine Calls.mono (he_any ST4.out HO.out.1) ?_; rintro e wi ⟨va3, c3, ks, rfl, e3, r3, b3⟩; have E3 := toHid e3; have R3 := toHid r3; have ST5 := toHid (ST4.out.quiet b3); replace R1 := toHid (row_bel R1.out b3); replace R2 := toHid (row_bel R2.out b3); have d4 : wi.cell? ⟨w.heap.size, 1, none⟩ = some (.int .i64 k5) := (HC.out _ ST5.out.bel).2.1; clear e3 r3 b3 d3)))
    obtain ⟨_, f1, f2, f3⟩ := HC.out _ ST5.out.bel
    clear d4 STd ST2 ST3 ST4
    go_wp2_with fail
    refine Calls.mono (ask_two ST5.out HO.out.1 HKT.out HKN.out) ?_
    clear HKT HKN
    have HEnd : Hid (∀ W, Below wi.heap.size wi W → W.cell? ⟨w.heap.size, 1, none⟩ = some (.int .i64 k5) ∧ Stp KT KN _ T W σ Q ∧ W.ownsRow _ 78 2 (.slice va1 (List.length E) c1) (List.length E) (ecells E) ∧ W.ownsRow _ 3 1 (.slice va2 (List.length ts) c2) (List.length ts) (ts.map (Value.int .i64)) ∧ W.ownsRow _ 106 2 (.slice va3 (List.length ks) c3) (List.length ks) (hcells ks (σ.ph k5))) := fun W hW => ⟨(HC.out _ (ST5.out.quiet hW).bel).2.1, ST5.out.quiet hW, row_bel R1.out hW, row_bel R2.out hW, row_bel R3.out hW⟩
    clear f1 f2 f3 R1 R2 R3
    rintro e wj (⟨rfl, bj⟩ | ⟨rfl, bj⟩ | ⟨g, rfl, bj⟩)
    case' inl => have HJ := toHid bj
    case' inr.inl => have HJ := toHid bj
    case inr.inr =>
      have HJ := toHid bj
      clear bj
      go_wp2_with fail
      refine Calls.mono (HLv.out _) ?_
      rintro e wk ⟨rfl, bk⟩
      have HK := toHid (HJ.out.trans (bk.mono HJ.out.size))
      clear bk
      go_wp2
      go_ret
      exact ⟨rfl, HF.out _ HK.out⟩
    all_goals
      clear bj
      have d1 := (HEnd.out _ HJ.out).1
      go_wp2_with fail
      refine Calls.mono (ed_any (HEnd.out _ HJ.out).2.1) ?_
      rintro e wk ⟨va4, c4, E', rfl, e4, r4, b4⟩
      obtain rfl := IsE.eq e4 E1.out
      replace HJ := toHid (HJ.out.trans (b4.mono HJ.out.size))
      have R4 := toHid r4
      clear e4 r4 b4 d1
      go_wp2_with fail
      refine Calls.mono (same_edges _ _ _ _ _ _ _ _ R4.out (HEnd.out _ HJ.out).2.2.1 (Nat.le_trans E1.out.1 (by omega))) ?_
      rintro e wl ⟨rfl, b5⟩
      replace HJ := toHid (HJ.out.trans (b5.mono HJ.out.size))
      clear b5 R4
      go_wp2_with fail
      refine Calls.mono (tx_any (HEnd.out _ HJ.out).2.1) ?_
      rintro e wm ⟨va5, c5, ts', rfl, e4, r4, b4⟩
      obtain rfl := IsT.eq e4 E2.out
      replace HJ := toHid (HJ.out.trans (b4.mono HJ.out.size))
      have R4 := toHid r4
      clear e4 r4 b4
      go_wp2_with fail
      refine Calls.mono (same_ints _ _ _ _ _ _ _ _ R4.out (HEnd.out _ HJ.out).2.2.2.1 (Nat.le_trans E2.out.1 (by omega))) ?_
      rintro e wn ⟨rfl, b5⟩
      replace HJ := toHid (HJ.out.trans (b5.mono HJ.out.size))
      clear b5 R4
      have d1 := (HEnd.out _ HJ.out).1
      go_wp2_with fail
      refine Calls.mono (he_any (HEnd.out _ HJ.out).2.1 HO.out.1) ?_
      rintro e wo ⟨va6, c6, ks', rfl, e4, r4, b4⟩
      obtain rfl := IsH.eq e4 E3.out
      replace HJ := toHid (HJ.out.trans (b4.mono HJ.out.size))
      have R4 := toHid r4
      clear e4 r4 b4 d1
      go_wp2_with fail
      refine Calls.mono (same_held _ _ _ _ _ _ _ _ _ R4.out (HEnd.out _ HJ.out).2.2.2.2 (Nat.le_trans E3.out.1 (by omega))) ?_
      rintro e wp ⟨rfl, b5⟩
      replace HJ := toHid (HJ.out.trans (b5.mono HJ.out.size))
      clear b5 R4
      go_wp2_with fail
      refine Calls.mono (HLv.out _) ?_
      rintro e wq ⟨rfl, b5⟩
      replace HJ := toHid (HJ.out.trans (b5.mono HJ.out.size))
      clear b5
      go_wp2
      go_ret
      exact ⟨rfl, HF.out _ (HEnd.out _ HJ.out).2.1.bel⟩
  · rw [show decide (k6.length ≤ 1000) = false from by simp [hsk]]
    clear hsk
    go_wp2_with fail
    refine Calls.mono (HLv.out _) ?_
    rintro e wg ⟨rfl, bg⟩
    have ST3 := toHid (ST2.out.quiet bg)
    clear bg
    go_wp2
    go_ret
    exact ⟨rfl, HF.out _ ST3.out.bel⟩
end Go.Proofs.YtclppfljengnbaaGreat
