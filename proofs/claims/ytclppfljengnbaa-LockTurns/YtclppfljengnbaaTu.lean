/-
  LockTurns: the walk.
-/
import Derived.Test.YtclppfljengnbaaEd
import Derived.Test.YtclppfljengnbaaHb
namespace Go.Proofs.Ytclppfljengnbaa
open Go.RowKit Go.Maps Go.Sort Go.Shelf

theorem turns_for {σ σ' : Sg} {Q Q' : Name → List Nat} {t s : Int} {n : Name} {m z : Nat} (G : Good σ Q (fun _ => False) (fun _ => False)) (hA : AskR σ Q σ' Q' t n m false) (h0 : σ.ph t n = 0) (hs : σ.pw s = some z) (hz : (σ.nd z).n = n) : For σ' Q' t s := by
  obtain ⟨_, _, y, q1, q2, h1, h2, h3, h4, h5, h6, h7⟩ := hA.no rfl
  obtain ⟨hzQ, hzt⟩ := G.wait s z hs
  rw [hz] at hzQ
  refine ⟨y, by rw [h4, upd_same], .inr ⟨q1, q2, z, ?_, ?_, ?_⟩⟩
  · rw [h5, h3]
    exact upd_same _ _ _
  · rw [h1, h2 h0, List.append_nil] at hzQ
    exact hzQ
  · rw [h6 n z hzQ]
    exact hzt
theorem turns_got {σ σ' : Sg} {Q Q' : Name → List Nat} {t s : Int} {n : Name} {m z : Nat} (G : Good σ Q (fun _ => False) (fun _ => False)) (hA : AskR σ Q σ' Q' t n m true) (h0 : σ.ph t n = 0) (hs : σ.pw s = some z) (hz : (σ.nd z).n = n) : False := by
  obtain ⟨_, h1, _⟩ := hA.yes rfl
  obtain ⟨hzQ, hzt⟩ := G.wait s z hs
  rw [hz] at hzQ
  rcases h1 with h1 | h1
  · exact h1 h0
  · rw [h1] at hzQ; cases hzQ
theorem want_name (σ : Sg) (t : Int) : ∃ wn, ∃ wm : Nat, ∃ wb, wantV σ t = (.agg #[nmV wn, .int .i64 ((wm : Nat) : Int)], wb) ∧ Hid (wb = true → ∃ z, σ.pw t = some z ∧ (σ.nd z).n = wn) := by
  unfold wantV
  cases h : σ.pw t with
  | none => exact ⟨[], 0, false, rfl, toHid (fun e => by cases e)⟩
  | some z => exact ⟨_, _, true, rfl, toHid (fun _ => ⟨z, rfl, rfl⟩)⟩
theorem ecells_at : ∀ (l : List (Int × Int)) (i : Nat) (hi : i < l.length), (ecells l)[2 * i]? = some (.int .i64 l[i].1) ∧ (ecells l)[2 * i + 1]? = some (.int .i64 l[i].2)
  | e :: l, 0, _ => by simp [ecells]
  | e :: l, i + 1, hi => by
    have := ecells_at l i (by simpa using hi)
    have e1 : 2 * (i + 1) = 2 * i + 1 + 1 := by omega
    rw [e1]
    simpa [ecells] using this
theorem sle_of {W : World} {B c : Nat} {a : Option Addr} {E : List (Int × Int)} (h : W.ownsRow B 50 2 (.slice a E.length c) E.length (ecells E)) : SlE W a E :=
  ⟨fun j hj => by
    rcases h.2 with ⟨_, e⟩ | ⟨g, cap, cur, hv, hg, hh, _⟩
    · omega
    · injection hv with e1 e2 e3
      subst e1
      obtain ⟨h1, h2⟩ := ecells_at E j hj
      have c1 := h.cells (g := g) rfl _ _ h1
      have c2 := h.cells (g := g) rfl _ _ h2
      rw [addr_add] at c1 c2
      have e4 : 0 + j * 2 = 2 * j := by omega
      have e5 : 0 + j * 2 + 1 = 2 * j + 1 := by omega
      refine ⟨g, 0, rfl, ?_, ?_⟩
      · rw [e4]; exact c1
      · rw [e5]; exact c2⟩

theorem cell_one2 (w : World) (o : Obj) (v : Value) (t : TypeId) : ∀ j u, [v][j]? = some u → ((w.alloc o).alloc (.cells #[v] t)).cell? ((⟨w.heap.size + 1, 0, none⟩ : Addr).add j) = some u := by
  have h := cell_one (w.alloc o) v t
  rw [show (w.alloc o).heap.size = w.heap.size + 1 from by simp] at h
  exact h
structure AhI (w3 : World) (σ : Sg) (n : Name) (i : Nat) (va : Option Addr) (c : Nat) (L : List Int) (W : World) : Prop where
  row : W.ownsRow w3.heap.size 3 1 (.slice va L.length c) L.length (L.map (Value.int .i64))
  bel : Below w3.heap.size w3 W
  few : L.length ≤ i
  mem : ∀ s, s ∈ L → ∃ z, σ.pw s = some z ∧ (σ.nd z).n = n
section
variable {w3 : World} {σ : Sg} {n : Name} {i : Nat} {va : Option Addr} {c : Nat} {L : List Int} {W : World}
theorem AhI.below {W' : World} (h : AhI w3 σ n i va c L W) (hb : Below W.heap.size W W') : AhI w3 σ n i va c L W' :=
  ⟨ownsRow_at h.row fun g hg => hb.block g (ownsRow_blk h.row hg).2, bnext h.bel hb, h.few, h.mem⟩
theorem AhI.more (h : AhI w3 σ n i va c L W) : AhI w3 σ n (i + 1) va c L W :=
  ⟨h.row, h.bel, by have := h.few; omega, h.mem⟩
theorem AhI.app (h : AhI w3 σ n i va c L W) {t : Int} {w7 : World} {va7 : Option Addr} {c7 : Nat} (hz : ∃ z, σ.pw t = some z ∧ (σ.nd z).n = n)
    (ho : w7.ownsRow w3.heap.size 3 1 (.slice va7 (L.length + 1) c7) (L.length + 1) (L.map (Value.int .i64) ++ [.int .i64 t])) (hg7 : (W.alloc (.cells #[.int .i64 t] 3)).grownBy w7 (Value.slice va L.length c).ownBlock) : AhI w3 σ n (i + 1) va7 c7 (L ++ [t]) w7 := by
  have hb6 : Below W.heap.size W (W.alloc (.cells #[.int .i64 t] 3)) := (Below.refl _ _).alloc (Nat.le_refl _) _
  exact ⟨by simpa using ho, bel_grown (bnext h.bel hb6) (h.row.alloc _) hg7, by have := h.few; simp; omega, fun s hs => by
    rcases List.mem_append.1 hs with h1 | h1
    · exact h.mem s h1
    · rw [List.mem_singleton.1 h1]; exact hz⟩
end

set_option maxRecDepth 100000 in
set_option maxHeartbeats 8000000 in
theorem turns_walk {w : World} {a : Option Addr} {c : Nat} {l : List OpL} {o : OpL} (h1 : SlO w a l) (hl : l.length ≤ maxLen) (ho : o.Wf) :
    Calls Try.prog 4 #[.slice a l.length c, .agg #[.int .i64 o.kind, .int .i64 o.txn, nmV o.name, .int .i64 o.mode]] w fun e w' => e = .returned (.bool true) ∧ Below w.heap.size w w' := by
  obtain ⟨w0, hw0⟩ : ∃ w0, w.alloc (.cells #[.int .i64 o.kind, .int .i64 o.txn, nmV o.name, .int .i64 o.mode] 40) = w0 := ⟨_, rfl⟩
  have HW0 := toHid hw0
  have HB0 := toHid (show Below w.heap.size w w0 from by rw [← hw0]; exact (Below.refl _ _).alloc (Nat.le_refl _) _)
  obtain ⟨KT, hKT⟩ : ∃ KT, KT = (l.take 60).map (fun o => Lit.int .i64 o.txn) ++ [.int .i64 o.txn] := ⟨_, rfl⟩
  obtain ⟨KN, hKN⟩ : ∃ KN, KN = (l.take 60).map (fun o => Lit.string o.name) ++ [.string o.name] := ⟨_, rfl⟩
  have hled := led6 (KT := KT) (KN := KN) (c := c) (w := w0) (a := a) (l := l) ⟨fun j hj => by
      obtain ⟨b', o', e, k0, k1, k2, k3⟩ := h1.at_ j hj
      have hlt : b' < w.heap.size := cell_lt k0
      exact ⟨b', o', e, (HB0.out.cell (p := ⟨b', _, none⟩) hlt).trans k0, (HB0.out.cell (p := ⟨b', _, none⟩) hlt).trans k1, (HB0.out.cell (p := ⟨b', _, none⟩) hlt).trans k2, (HB0.out.cell (p := ⟨b', _, none⟩) hlt).trans k3⟩, h1.wf⟩ hl (by rw [hKT]; simp; omega) (by rw [hKN]; simp; omega) (fun i hi h6 => by
    have hm : l[i] ∈ l.take 60 := by rw [List.mem_take_iff_getElem]; exact ⟨i, by omega, rfl⟩
    exact ⟨by rw [hKT]; exact List.mem_append_left _ (List.mem_map.2 ⟨_, hm, rfl⟩), by rw [hKN]; exact List.mem_append_left _ (List.mem_map.2 ⟨_, hm, rfl⟩)⟩)
  have HKT := toHid (show Lit.int .i64 o.txn ∈ KT from by rw [hKT]; simp)
  have HKN := toHid (show Lit.string o.name ∈ KN from by rw [hKN]; simp)
  have HO := toHid ho
  have hlv := lives12
  have hsh := fun W => short13 o W
  obtain ⟨k4, k5, k6, k7⟩ := o
  simp only at *
  clear hKT hKN h1 hl ho
  have HC := toHid (show ∀ W, Below w0.heap.size w0 W → W.cell? ⟨w.heap.size, 0, none⟩ = some (.int .i64 k4) ∧ W.cell? ⟨w.heap.size, 1, none⟩ = some (.int .i64 k5) ∧ W.cell? ⟨w.heap.size, 2, none⟩ = some (nmV k6) ∧ W.cell? ⟨w.heap.size, 3, none⟩ = some (.int .i64 k7) from fun W hW => by
    have hk : w0.heap[w.heap.size]? = some (.cells #[.int .i64 k4, .int .i64 k5, nmV k6, .int .i64 k7] 40) := by rw [← hw0]; exact heap_alloc_new w _
    have h2 : W.heap[w.heap.size]? = _ := (hW.block _ (lt_of_heap hk)).trans hk
    exact ⟨by simp [World.cell?, h2], by simp [World.cell?, h2], by simp [World.cell?, h2], by simp [World.cell?, h2]⟩)
  by_cases hsk : k6.length ≤ 1000
  · rw [show decide (k6.length ≤ 1000) = true from by simp [hsk]] at hsh
    clear hsk
    go_enter Try.func4, Try.ntmps4
    go_wp2_with (first
      | (go_at_call 6; refine hled.mono ?_; rintro e w1 ⟨σ, Q, rfl, m1, g1, b1, o1⟩; have ST1 := toHid (show Stp KT KN w0 σ.T w1 σ Q from ⟨m1, g1, b1, o1, rfl⟩); obtain ⟨d0, d1, d2, d3⟩ := HC.out _ b1; clear m1 g1 b1 o1)
      | (go_at_call 13; refine (hsh _).mono ?_; rintro e w2 ⟨rfl, b2⟩; have ST2 := toHid (ST1.out.quiet b2); have htx := txns7 ST2.out.mem; clear b2)
      | (go_at_call 7; refine htx.mono ?_; rintro e w3 ⟨v, ts, rfl, o2, p2, mm2, f2, b2⟩; obtain ⟨a2, c2, rfl⟩ := ownsRow_shape o2; have ST3 := toHid (ST2.out.quiet b2); have O2 := toHid (ownsRow_base o2 ST2.out.bel.size); have MM := toHid mm2; clear o2 p2 mm2 b2))
    obtain ⟨T, hT⟩ : ∃ T, σ.T = T := ⟨_, rfl⟩
    rw [hT] at ST3 ⊢
    have HT := toHid hT
    clear htx ST1 ST2 hled hT hsh d0 d1 d2 d3
    have STW := toHid (show ∀ W, Below w3.heap.size w3 W → Stp KT KN w0 T W σ Q from fun W hW => ST3.out.quiet hW)
    have HWf := toHid (show ∀ i (hi : i < ts.length), (Lit.int .i64 ts[i]).wf = true from fun i hi => by
      have hp := (MM.out ts[i]).1 (List.getElem_mem hi)
      cases e : σ.pb ts[i] with
      | none => exact absurd e hp
      | some p => exact (ST3.out.good.wf _ p e).1)
    obtain ⟨i0, hi0, hz0, hz1, hz2⟩ := info_parts info3
    go_loopw [7, 8] (fun v k W => ∃ (i : Nat) (va : Option Addr) (c : Nat) (L : List Int), i ≤ ts.length ∧ k = .int .i64 i ∧ v = .slice va L.length c ∧ Hid (AhI w3 σ k6 i va c L W)) (fun _ k _ => ts.length - (intOf k).toNat)
    case atStart => exact ⟨0, none, 0, [], Nat.zero_le _, rfl, rfl, toHid ⟨World.ownsRow_nil _ _ _ _, Below.refl _ _, by simp, fun s hs => by cases hs⟩⟩
    case round =>
      rename World => W1
      obtain ⟨i, va, c', L, hi, rfl, rfl, I⟩ := hrel
      have hq0 : 0 ≤ (i : Int) := by omega
      have hfw := I.out.few
      by_cases hlt : i < ts.length
      · have hq1 : (i : Int) < (ts.length : Int) := by omega
        obtain ⟨g2, rfl, hc2⟩ := row_at O2.out hlt
        have hgl : g2 < w3.heap.size := cell_lt hc2
        have hwf := HWf.out i hlt
        obtain ⟨ti, hti⟩ : ∃ ti, ts[i] = ti := ⟨_, rfl⟩
        rw [hti] at hc2 hwf
        clear hti
        have HTi := toHid (show ∀ W, Below w3.heap.size w3 W → W.cell? ⟨g2, i, none⟩ = some (.int .i64 ti) from fun W hW => (hW.cell (p := ⟨g2, i, none⟩) hgl).trans hc2)
        have hc1 := HTi.out _ I.out.bel
        have hwt := waits9 (STW.out _ I.out.bel).mem (STW.out _ I.out.bel).good hwf
        rw [HT.out] at hwt
        obtain ⟨wn, wm, wb, ew, WM⟩ := want_name σ ti
        rw [ew] at hwt
        simp only at hwt
        clear ew hc2
        cases wb with
        | false =>
          go_wp2_with (first
            | (go_at_call 9; refine hwt.mono ?_; rintro e w6 ⟨rfl, b6⟩; have I6 := toHid (fun o => (I.out.below b6).below ((Below.refl w6.heap.size w6).alloc (Nat.le_refl _) o)); have hd2 := fun o => (HC.out (w6.alloc o) (bnext ST3.out.bel (I6.out o).bel)).2.2.1; have hc6 := fun o => HTi.out (w6.alloc o) (I6.out o).bel; have hw6 := (I6.out (.cells #[] 0)).bel.size; clear b6))
          go_roundw
          case rel => exact ⟨i + 1, va, c', L, by omega, by simp, rfl, toHid (I6.out _).more⟩
          case measure => first | omega | (simp only [intOf]; omega)
        | true =>
          by_cases hkk : wn = k6
          · subst hkk
            go_wp2_with (first
              | (go_at_call 9; refine hwt.mono ?_; rintro e w6 ⟨rfl, b6⟩; have I6 := toHid (fun o => (I.out.below b6).below ((Below.refl w6.heap.size w6).alloc (Nat.le_refl _) o)); have hd2 := fun o => (HC.out (w6.alloc o) (bnext ST3.out.bel (I6.out o).bel)).2.2.1; have hc6 := fun o => HTi.out (w6.alloc o) (I6.out o).bel; have hw6 := (I6.out (.cells #[] 0)).bel.size; clear b6)
              | (at_builtin; go_must (refine wpList_append_own _ rfl _ _ 25 rfl w3.heap.size 3 i0 _ 1 8 Try.underlying25 hi0 hz0 hz1 hz2 rfl (by decide) _ L.length _ rfl ((I6.out _).row.alloc _) ⟨w6.heap.size + 1, 0, none⟩ 1 1 [.int .i64 ti] rfl rfl (cell_one2 w6 _ _ _) (by intro v hv; simp at hv; subst hv; rfl) (by unfold maxLen; omega) (by omega) (by simp at hw6 ⊢; omega) ?_); intro v7 w7 hown7 hgrow7 _; obtain ⟨va7, vc7, rfl⟩ := ownsRow_shape hown7; have HX := toHid ((I6.out _).app (va7 := va7) (c7 := vc7) (WM.out (by trivial)) hown7 hgrow7); clear hown7 hgrow7)
              | fail)
            go_roundw
            case rel => exact ⟨i + 1, va7, vc7, L ++ [ti], by omega, by simp, by simp, HX⟩
            case measure => first | omega | (simp only [intOf]; omega)
          · have he2 : (wn == k6) = false := by simp [hkk]
            have he3 : decide (wn = k6) = false := by simp [hkk]
            go_wp2_with (first
              | (go_at_call 9; refine hwt.mono ?_; rintro e w6 ⟨rfl, b6⟩; have I6 := toHid (fun o => (I.out.below b6).below ((Below.refl w6.heap.size w6).alloc (Nat.le_refl _) o)); have hd2 := fun o => (HC.out (w6.alloc o) (bnext ST3.out.bel (I6.out o).bel)).2.2.1; have hc6 := fun o => HTi.out (w6.alloc o) (I6.out o).bel; have hw6 := (I6.out (.cells #[] 0)).bel.size; clear b6))
            go_roundw
            case rel => exact ⟨i + 1, va, c', L, by omega, by simp, rfl, toHid (I6.out _).more⟩
            case measure => first | omega | (simp only [intOf]; omega)
      · obtain rfl : i = ts.length := by omega
        obtain ⟨d0, d1, d2, d3⟩ := HC.out _ (bnext ST3.out.bel I.out.bel)
        have hh := has14 (STW.out _ I.out.bel).mem (STW.out _ I.out.bel).good HO.out.txn k6
        rw [HT.out] at hh
        have HAk := toHid (show ∀ W, Below w3.heap.size w3 W → Calls Try.prog 15 #[.pointer (some ⟨T, 0, none⟩), .int .i64 k5, .agg #[nmV k6, .int .i64 k7]] W fun e w' => ∃ g er, e = .returned (.tuple #[.bool g, .int .i64 er]) ∧ ∃ σ' Q', Stp KT KN w0 T w' σ' Q' ∧ Step W σ w' σ' ∧ ((er ≠ 0 ∧ g = false) ∨ (er = 0 ∧ ∃ m : Nat, AskR σ Q σ' Q' k5 k6 m g)) from fun W hW => by
          have hS := STW.out W hW
          rw [← hS.top]
          refine (ask_all hS.mem hS.good HO.out.txn HKT.out HKN.out).mono ?_
          rintro e w' ⟨g, er, rfl, σ', Q', m', g', s', k', hx⟩
          refine ⟨g, er, rfl, σ', Q', by rw [hS.top]; exact hS.next m' s' g', g', ?_⟩
          rcases hx with ⟨h1, h2, _⟩ | ⟨h1, m, _, _, _, _, h2⟩
          · exact .inl ⟨h1, h2⟩
          · exact .inr ⟨h1, m, h2⟩)
        clear hlt hq0
        obtain ⟨hd, hhd⟩ : ∃ hd, decide (σ.ph k5 k6 ≠ 0) = hd := ⟨_, rfl⟩
        rw [hhd] at hh
        have HD := toHid hhd
        clear hhd
        go_wp2_with (first
          | (go_at_call 14; refine hh.mono ?_; rintro e w4 ⟨rfl, b4⟩; have I4 := toHid (I.out.below b4); obtain ⟨f0, f1, f2, f3⟩ := HC.out _ (bnext ST3.out.bel I4.out.bel); have hak := HAk.out _ I4.out.bel; clear b4))
        refine hak.mono ?_
        rintro e w5 ⟨g, er, rfl, σ', Q', st5, sp5, hx⟩
        have ST5 := toHid st5
        have HB5 := toHid (bnext HB0.out st5.bel)
        have R5 := toHid (show w5.ownsRow w3.heap.size 3 1 (.slice va L.length c') L.length (L.map (Value.int .i64)) from ownsRow_at I4.out.row fun g hg => sp5.turn.block g (ownsRow_blk I4.out.row hg).2 (fun e => e (own_new ST3.out.mem (ownsRow_blk I4.out.row hg).1)))
        clear st5 sp5 hak hh
        rcases hx with ⟨h1, rfl⟩ | ⟨rfl, m, hA⟩
        · have h2 : (er == 0) = false := by rw [beq_eq_false_iff_ne]; exact h1
          have h3 : (er != 0) = true := by simp [h1]
          clear h1
          go_wp2_with (first | (go_at_call 12; refine (hlv _).mono ?_; rintro e w9 ⟨rfl, b9⟩; have B9 := toHid (bnext HB5.out b9); clear b9))
          go_ret
          exact ⟨rfl, B9.out⟩
        · have HA := toHid hA
          clear hA
          cases hd with
          | true =>
            go_wp2_with (first | (go_at_call 12; refine (hlv _).mono ?_; rintro e w9 ⟨rfl, b9⟩; have B9 := toHid (bnext HB5.out b9); clear b9))
            go_ret
            exact ⟨rfl, B9.out⟩
          | false =>
            have HP0 := toHid (show σ.ph k5 k6 = 0 from by have := HD.out; rw [decide_eq_false_iff_not] at this; omega)
            by_cases hL : L.length = 0
            · have h4 : ((L.length : Int) == 0) = true := by simp [hL]
              clear hL
              go_wp2_with (first | (go_at_call 12; refine (hlv _).mono ?_; rintro e w9 ⟨rfl, b9⟩; have B9 := toHid (bnext HB5.out b9); clear b9))
              go_ret
              exact ⟨rfl, B9.out⟩
            · have h4 : ((L.length : Int) == 0) = false := by rw [beq_eq_false_iff_ne]; omega
              cases g with
              | true =>
                obtain ⟨z, e1, e2⟩ := I4.out.mem (L[0]'(by omega)) (List.getElem_mem _)
                exact (turns_got ST3.out.good HA.out HP0.out e1 e2).elim
              | false =>
                have hed := edges16 ST5.out.mem ST5.out.good
                rw [ST5.out.top] at hed
                clear hL
                go_wp2_with (first
                  | (go_at_call 16; refine hed.mono ?_; rintro e w6 ⟨va6, c6, E, rfl, o6, b6, f6, _, m6⟩; have O6 := toHid o6; have B6 := toHid b6; have M6 := toHid m6; clear o6 b6 m6))
                have HIn := toHid (show ∀ j (hj : j < L.length), (k5, L[j]) ∈ E from fun j hj => by
                  obtain ⟨z, e1, e2⟩ := I4.out.mem L[j] (List.getElem_mem hj)
                  have hf := turns_for ST3.out.good HA.out HP0.out e1 e2
                  refine (M6.out _ _).2 ⟨fun e3 => ?_, hf⟩
                  obtain ⟨y, hy, _⟩ := hf
                  rw [(ST5.out.good.dead k5 e3).1] at hy
                  cases hy)
                have R6 := toHid (show w6.ownsRow w3.heap.size 3 1 (.slice va L.length c') L.length (L.map (Value.int .i64)) from ownsRow_at R5.out fun g hg => B6.out.block g (ownsRow_blk R5.out hg).2)
                have SE := toHid (sle_of O6.out)
                go_loopw [15] (fun k W => ∃ j : Nat, j ≤ L.length ∧ k = .int .i64 j ∧ Hid (Below w6.heap.size w6 W)) (fun k _ => L.length - (intOf k).toNat)
                case atStart => exact ⟨0, Nat.zero_le _, rfl, toHid (Below.refl _ _)⟩
                case round =>
                  rename World => W7
                  obtain ⟨j, hj, rfl, B7⟩ := hrel
                  have hs0 : 0 ≤ (j : Int) := by omega
                  by_cases hlt2 : j < L.length
                  · have hs1 : (j : Int) < (L.length : Int) := by omega
                    obtain ⟨g8, rfl, hc8⟩ := row_at R6.out hlt2
                    have hgl8 := cell_lt hc8
                    have hin := HIn.out j hlt2
                    obtain ⟨lj, hlj⟩ : ∃ lj, L[j] = lj := ⟨_, rfl⟩
                    rw [hlj] at hc8 hin
                    have HS := toHid (show ∀ W, Below w6.heap.size w6 W → W.cell? ⟨w.heap.size, 1, none⟩ = some (.int .i64 k5) ∧ W.cell? ⟨g8, j, none⟩ = some (.int .i64 lj) from fun W hW => ⟨(HC.out W (bnext (bnext ST5.out.bel B6.out) hW)).2.1, (hW.cell (p := ⟨g8, j, none⟩) hgl8).trans hc8⟩)
                    have HBd := toHid (show Below w6.heap.size w6 W7.drew from B7.out.drew)
                    have hat := at17 (c := c6) (SE.out.below HBd.out) (by omega) k5 lj
                    have HI := toHid hin
                    clear hlj hin hc8
                    go_wp2_with fail
                    refine wp_region_held_drew (S := fun W => W.cell? ⟨w.heap.size, 1, none⟩ = some (.int .i64 k5) ∧ W.cell? ⟨g8, j, none⟩ = some (.int .i64 lj)) (by kernel_rfl) (HS.out _ HBd.out) (fun hHeld => ?_)
                    refine wpAnyH_take (i := 0) (v := ?_) rfl (by kernel_rfl) (by kernel_rfl) (by kernel_rfl) (fun _ _ _ h => h) (Or.inl ⟨by rfl, ?_⟩) (by assumption) ?_
                    rotate_left
                    · (intro W hSw; (try dsimp only at hSw); go_simp; try with_reducible rfl)
                    try simp only [Act.put, List.getElem_toArray, List.getElem_cons_zero, List.setIfInBounds_toArray, List.set_cons_zero, List.set_cons_succ]
                    refine wpAnyH_take (i := 1) (v := ?_) rfl (by kernel_rfl) (by kernel_rfl) (by kernel_rfl) (fun _ _ _ h => h) (Or.inl ⟨by rfl, ?_⟩) (by assumption) ?_
                    rotate_left
                    · (intro W hSw; (try dsimp only at hSw); go_simp; try with_reducible rfl)
                    try simp only [Act.put, List.getElem_toArray, List.getElem_cons_zero, List.getElem_cons_succ, List.setIfInBounds_toArray, List.set_cons_zero, List.set_cons_succ]
                    refine wpAnyH_take (i := 2) (v := ?_) rfl (by kernel_rfl) (by kernel_rfl) (by kernel_rfl) (fun _ _ _ h => h) (Or.inl ⟨by rfl, ?_⟩) (by assumption) ?_
                    rotate_left
                    · (intro W hSw; (try dsimp only at hSw); go_simp; try with_reducible rfl)
                    try simp only [Act.put, List.getElem_toArray, List.getElem_cons_zero, List.getElem_cons_succ, List.setIfInBounds_toArray, List.set_cons_zero, List.set_cons_succ]
                    refine wpAnyH_take (i := 3) (v := ?_) rfl (by kernel_rfl) (by kernel_rfl) (by kernel_rfl) (fun _ _ _ h => h) (Or.inl ⟨by rfl, ?_⟩) (by assumption) ?_
                    rotate_left
                    · (intro W hSw; (try dsimp only at hSw); go_simp; try with_reducible rfl)
                    try simp only [Act.put, List.getElem_toArray, List.getElem_cons_zero, List.getElem_cons_succ, List.setIfInBounds_toArray, List.set_cons_zero, List.set_cons_succ]
                    refine wpAnyH_take (i := 4) (v := ?_) rfl (by kernel_rfl) (by kernel_rfl) (by kernel_rfl) (fun _ _ _ h => h) (Or.inl ⟨by rfl, ?_⟩) (by assumption) ?_
                    rotate_left
                    · (intro W hSw; (try dsimp only at hSw); go_simp; try with_reducible rfl)
                    try simp only [Act.put, List.getElem_toArray, List.getElem_cons_zero, List.getElem_cons_succ, List.setIfInBounds_toArray, List.set_cons_zero, List.set_cons_succ]
                    refine wpAnyH_take (i := 5) (v := ?_) rfl (by kernel_rfl) (by kernel_rfl) (by kernel_rfl) (fun _ _ _ h => h) (Or.inl ⟨by rfl, ?_⟩) (by assumption) ?_
                    rotate_left
                    · (intro W hSw; (try dsimp only at hSw); go_simp; try with_reducible rfl)
                    try simp only [Act.put, List.getElem_toArray, List.getElem_cons_zero, List.getElem_cons_succ, List.setIfInBounds_toArray, List.set_cons_zero, List.set_cons_succ]
                    refine wpAnyH_take (i := 6) (v := ?_) rfl (by kernel_rfl) (by kernel_rfl) (by kernel_rfl) (fun _ _ _ h => h) (Or.inl ⟨by rfl, ?_⟩) (by assumption) ?_
                    rotate_left
                    · (intro W hSw; (try dsimp only at hSw); go_simp; try with_reducible rfl)
                    try simp only [Act.put, List.getElem_toArray, List.getElem_cons_zero, List.getElem_cons_succ, List.setIfInBounds_toArray, List.set_cons_zero, List.set_cons_succ]
                    refine wpAnyH_take (i := 7) (v := ?_) rfl (by kernel_rfl) (by kernel_rfl) (by kernel_rfl) (fun _ _ _ h => h) (Or.inl ⟨by rfl, ?_⟩) (by assumption) ?_
                    rotate_left
                    · (intro W hSw; (try dsimp only at hSw); go_simp; try with_reducible rfl)
                    try simp only [Act.put, List.getElem_toArray, List.getElem_cons_zero, List.getElem_cons_succ, List.setIfInBounds_toArray, List.set_cons_zero, List.set_cons_succ]
                    refine wpAnyH_ready (rs := [8]) (by kernel_rfl) (by simp) ?_
                    refine AllReadyH.cons rfl (fun K hK => ?_) AllReadyH.nil
                    clear hHeld
                    go_simp
                    refine hat.mono ?_
                    rintro e w8 ⟨k8, rfl, h8, _, b8⟩
                    have hk8 : ¬ (k8 < 0) := by have := h8 HI.out; omega
                    have B8 := toHid (bnext HBd.out b8)
                    clear h8 b8
                    try go_wp2_with fail
                    refine hK.out _ _ (HS.out _ B8.out) (fun hHeld => ?_)
                    clear hK K
                    try simp only [Act.put, List.getElem_toArray, List.getElem_cons_zero, List.getElem_cons_succ, List.setIfInBounds_toArray, List.set_cons_zero, List.set_cons_succ]
                    refine wpAnyH_take (i := 9) (v := ?_) rfl (by kernel_rfl) (by kernel_rfl) (by kernel_rfl) (fun _ _ _ h => h) (Or.inl ⟨by rfl, ?_⟩) (by assumption) ?_
                    rotate_left
                    · (intro W hSw; (try dsimp only at hSw); go_simp; try with_reducible rfl)
                    try simp only [Act.put, List.getElem_toArray, List.getElem_cons_zero, List.getElem_cons_succ, List.setIfInBounds_toArray, List.set_cons_zero, List.set_cons_succ]
                    refine wpAnyH_done (by kernel_rfl) ?_ _
                    clear hHeld
                    try simp only [Exit.then]
                    go_wp2_with fail
                    go_roundw
                    case rel => exact ⟨j + 1, by omega, by simp, B8⟩
                    case measure => first | omega | (simp only [intOf]; omega)
                  · obtain rfl : j = L.length := by omega
                    have HB5 := toHid (bnext (bnext HB5.out B6.out) B7.out)
                    go_wp2_with (first | (go_at_call 12; refine (hlv _).mono ?_; rintro e w9 ⟨rfl, b9⟩; have B9 := toHid (bnext HB5.out b9); clear b9))
                    go_ret
                    exact ⟨rfl, B9.out⟩
  · rw [show decide (k6.length ≤ 1000) = false from by simp [hsk]] at hsh
    clear hsk
    go_enter Try.func4, Try.ntmps4
    go_wp2_with (first
      | (go_at_call 6; refine hled.mono ?_; rintro e w1 ⟨σ, Q, rfl, m1, g1, b1, o1⟩; have ST1 := toHid (show Below w.heap.size w w1 from bnext HB0.out b1); obtain ⟨d0, d1, d2, d3⟩ := HC.out _ b1; clear m1 g1 b1 o1)
      | (go_at_call 13; refine (hsh _).mono ?_; rintro e w2 ⟨rfl, b2⟩; have ST2 := toHid (bnext ST1.out b2); clear b2)
      | (go_at_call 12; refine (hlv _).mono ?_; rintro e w9 ⟨rfl, b9⟩; have B9 := toHid (bnext ST2.out b9); clear b9))
    go_ret
    exact ⟨rfl, B9.out⟩

end Go.Proofs.Ytclppfljengnbaa
