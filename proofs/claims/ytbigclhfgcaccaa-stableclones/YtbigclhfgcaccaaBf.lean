/-
  Package stable: Start, Trim.
-/
import Derived.Test.YtbigclhfgcaccaaBe
namespace Go.Proofs.Ytbigclhfgcaccaa
open Go.RowKit

/-- What Start answers, and what it leaves. -/
def startE (d : Dv) (h a : Int) (l : List UInt8) : Int :=
  if ¬ (0 ≤ h ∧ h < 8) ∨ ¬ a % 64 = 0 ∨ ¬ (l.length : Int) % 64 = 0 ∨ l.length = 0 then 1
  else if ¬ (0 ≤ a ∧ a + l.length ≤ d.b.length) then 2
  else match d.u[h.toNat]? with | some none => 0 | _ => 10
def startD (d : Dv) (h a : Int) (l : List UInt8) : Dv := if startE d h a l = 0 then ⟨d.b, d.u.set h.toNat (some (a.toNat, l))⟩ else d

theorem start_nil (h a : Int) (s : Value) (w : World) : Calls Try.prog 16 #[.pointer none, .int .i64 h, .int .i64 a, s] w fun e w' => e = .returned (.int .i64 1) ∧ w' = w := by
  go_enter Try.func16, Try.ntmps16
  go_wp2_with fail
  refine (handled_nil _ _).mono ?_
  rintro e w' ⟨rfl, rfl⟩
  go_wp2_with fail
  go_ret
  exact ⟨rfl, rfl⟩

theorem start_new {w W : World} {av : List Nat} {p G h a q r : Nat} {d : Dv} {l : List UInt8} {us : List (Option Nat)} (hd : Dev w av p G d) (hav : ∀ k ∈ av, k < w.heap.size) (hb : Below w.heap.size w W) (hh : h < 8) (ha : a % 64 = 0) (hl : l.length % 64 = 0) (hl0 : l.length ≠ 0) (hf : a + l.length ≤ d.b.length)
    (h1 : us.length = 8) (h2 : w.heap[p]? = some (.cells (devC G d.b.length us) 63))
    (h3 : ∀ i, i < 8 → (us[i]? = some none ∧ d.u[i]? = some none) ∨ ∃ q a m, us[i]? = some (some q) ∧ d.u[i]? = some (some (a, m)) ∧ Wr w (p :: G :: av) q a m)
    (hq : W.heap[q]? = some (.cells #[.int .i64 (a : Int), .slice (some ⟨r, 0, none⟩) l.length l.length] 68)) (hr : Buf W r l) (hqw : w.heap.size ≤ q) (hrw : w.heap.size ≤ r) :
    Dev (W.setCell ⟨p, 1 + h, none⟩ (.pointer (some ⟨q, 0, none⟩))) av p G ⟨d.b, d.u.set h (some (a, l))⟩ ∧ Touch p G w (W.setCell ⟨p, 1 + h, none⟩ (.pointer (some ⟨q, 0, none⟩))) := by
  have hp := hd.lt.1
  have hG := hd.lt.2
  have o : ∀ i, i ≠ p → (W.setCell ⟨p, 1 + h, none⟩ (.pointer (some ⟨q, 0, none⟩))).heap[i]? = W.heap[i]? := fun i hi => heap_setCell_other _ _ _ _ hi
  have ht : Touch p G w (W.setCell ⟨p, 1 + h, none⟩ (.pointer (some ⟨q, 0, none⟩))) := Touch.setCell (a := ⟨p, 1 + h, none⟩) (Touch.of hb) (.inl rfl) _
  have nav : ∀ k, w.heap.size ≤ k → k ∉ p :: G :: av := fun k hk e => by
    simp at e
    rcases e with e | e | e
    · omega
    · omega
    · have := hav k e; omega
  refine ⟨⟨⟨hd.good.small, hd.good.whole, by simpa using hd.good.hands, fun i a' m' e => ?_⟩, ?_, hd.ne, hd.avp, hd.avG, us.set h (some q), by simpa using h1, ?_, fun i hi => ?_⟩, ht⟩
  · by_cases hi : h = i
    · subst hi
      rw [List.getElem?_set_self (by rw [hd.good.hands]; exact hh)] at e
      simp at e
      obtain ⟨rfl, rfl⟩ := e
      exact ⟨ha, hl, by omega, hf⟩
    · rw [List.getElem?_set_ne hi] at e
      exact hd.good.fits i a' m' e
  · have := hd.buf.below hb (Nat.le_refl _)
    unfold Buf at *
    rw [o G (fun e => hd.ne e.symm)]
    exact this
  · exact dev_set (by rw [hb.block p hp]; exact h2) h (some q)
  · by_cases hi' : h = i
    · subst hi'
      refine .inr ⟨q, a, l, List.getElem?_set_self (by omega), List.getElem?_set_self (by rw [hd.good.hands]; exact hh), r, ?_, ?_, nav q hqw, nav r hrw⟩
      · rw [o q (by omega)]; exact hq
      · unfold Buf at *
        rw [o r (by omega)]; exact hr
    · rw [List.getElem?_set_ne hi', List.getElem?_set_ne hi']
      rcases h3 i hi with e | ⟨q', a', m', e1, e2, e3⟩
      · exact .inl e
      · exact .inr ⟨q', a', m', e1, e2, e3.keep fun j j1 j2 => ht.block j j1 (fun e => j2 (by simp [e])) (fun e => j2 (by simp [e]))⟩

set_option maxHeartbeats 2000000 in
theorem start_any (p G : Nat) (h a : Int) (s : Option Addr) (c : Nat) (l : List UInt8) (d : Dv) (av : List Nat) (w : World) (hd : Dev w av p G d) (hav : ∀ k ∈ av, k < w.heap.size) (ha : I64 a) (hs : SlB w s l) (hl : l.length ≤ 1000000) :
    Calls Try.prog 16 #[.pointer (some ⟨p, 0, none⟩), .int .i64 h, .int .i64 a, .slice s l.length c] w fun e w' => e = .returned (.int .i64 (startE d h a l)) ∧ Dev w' av p G (startD d h a l) ∧ Touch p G w w' := by
  have H1 := handled_any ⟨p, 0, none⟩ h w
  have H2 := whole_any a w
  have H3 := whole_any (l.length : Int) w
  have H4 := has_any p G a (l.length : Int) d av w hd ha (by omega)
  unfold startD startE
  by_cases c1 : 0 ≤ h ∧ h < 8
  · rw [decide_eq_true c1] at H1
    by_cases c2 : a % 64 = 0
    · rw [decide_eq_true c2] at H2
      by_cases c3 : (l.length : Int) % 64 = 0
      · rw [decide_eq_true c3] at H3
        by_cases c4 : l.length = 0
        · rw [if_pos (by simp [c4])]
          have H3' := whole_any 0 w
          rw [decide_eq_true (by decide)] at H3'
          go_enter Try.func16, Try.ntmps16
          go_wp2_with fail
          refine H1.mono ?_
          rintro e w' ⟨rfl, rfl⟩
          go_wp2_with fail
          refine H2.mono ?_
          rintro e w1 ⟨rfl, hw⟩
          obtain rfl := hw.symm
          go_wp2_with fail
          refine H3'.mono ?_
          rintro e w1 ⟨rfl, hw⟩
          obtain rfl := hw.symm
          go_wp2_with fail
          go_ret
          exact ⟨rfl, hd, Touch.refl _ _ _⟩
        · rw [if_neg (by simp [c1, c2, c3, c4])]
          have c4' : ¬ (l.length : Int) = 0 := by omega
          by_cases c5 : 0 ≤ a ∧ a + l.length ≤ d.b.length
          · rw [if_neg (by simpa using c5)]
            rw [decide_eq_true (by omega)] at H4
            obtain ⟨i, rfl⟩ := Int.eq_ofNat_of_zero_le c1.1
            obtain ⟨b, rfl⟩ := Int.eq_ofNat_of_zero_le c5.1
            have hi : i < 8 := by omega
            obtain ⟨us, h1, h2, h3⟩ := hd.us
            obtain ⟨_, cs, cf⟩ := dev_cells h2
            rcases h3 i hi with ⟨e1, e2⟩ | ⟨q, a', m', e1, e2, e3⟩
            · have k1 := cs i _ e1
              have k2 := cf (1 + i)
              simp only [flV, Option.map_none] at k1
              simp only [Int.toNat_natCast, e2, if_pos]
              have HC := copied_any s c l w.drew (hs.below (Below.refl _ _).drew) hl
              have H3' : Hid _ := h3
              have hp := hd.lt.1
              clear cs cf h3 hs
              go_enter Try.func16, Try.ntmps16
              go_wp2_with fail
              refine H1.mono ?_
              rintro e w' ⟨rfl, rfl⟩
              go_wp2_with fail
              refine H2.mono ?_
              rintro e w1 ⟨rfl, hw⟩
              obtain rfl := hw.symm
              go_wp2_with fail
              refine H3.mono ?_
              rintro e w1 ⟨rfl, hw⟩
              obtain rfl := hw.symm
              go_wp2_with fail
              refine H4.mono ?_
              rintro e w1 ⟨rfl, hw⟩
              obtain rfl := hw.symm
              go_wp2_with fail
              go_region_with (go_at_call 27; refine HC.mono ?_; rintro e w2 ⟨rfl, hB2, hz2, hb2⟩; have k1' := (hb2.cell (p := ⟨p, 1 + i, none⟩) hp).trans k1; have k2' := (hb2.frozen (p := ⟨p, 1 + i, none⟩) hp).trans k2; have hp2 : p < w2.heap.size := Nat.lt_of_lt_of_le hp hb2.size)
              have hbX : Below w'.heap.size w' (w2.alloc (.cells #[.int .i64 (b : Int), .slice (some ⟨w'.heap.size, 0, none⟩) l.length l.length] 68)) := ((Below.refl _ w').drew.trans hb2).alloc hb2.size _
              have hS := start_new (q := w'.heap.size + 1) (r := w'.heap.size) hd hav hbX hi (a := b) (by omega) (by omega) c4 (by omega) h1 h2 H3'.out
                (by have := heap_alloc_new w2 (.cells #[.int .i64 (b : Int), .slice (some ⟨w'.heap.size, 0, none⟩) l.length l.length] 68); rw [hz2] at this; exact this)
                (Buf.below hB2 ((Below.refl _ w2).alloc (Nat.le_refl _) _) (Nat.le_refl _)) (by omega) (Nat.le_refl _)
              rw [World.setCell_alloc_past _ _ _ _ hp2] at hS
              have HS : Hid _ := hS
              go_wp2_with fail
              go_ret
              exact ⟨rfl, HS.out⟩
            · have k1 := cs i _ e1
              simp only [flV, Option.map_some] at k1
              simp only [Int.toNat_natCast, e2]
              clear cs cf h3
              go_enter Try.func16, Try.ntmps16
              go_wp2_with fail
              refine H1.mono ?_
              rintro e w' ⟨rfl, rfl⟩
              go_wp2_with fail
              refine H2.mono ?_
              rintro e w1 ⟨rfl, hw⟩
              obtain rfl := hw.symm
              go_wp2_with fail
              refine H3.mono ?_
              rintro e w1 ⟨rfl, hw⟩
              obtain rfl := hw.symm
              go_wp2_with fail
              refine H4.mono ?_
              rintro e w1 ⟨rfl, hw⟩
              obtain rfl := hw.symm
              go_wp2_with fail
              go_ret
              exact ⟨rfl, hd, Touch.refl _ _ _⟩
          · rw [if_pos c5]
            rw [decide_eq_false (by omega)] at H4
            go_enter Try.func16, Try.ntmps16
            go_wp2_with fail
            refine H1.mono ?_
            rintro e w' ⟨rfl, rfl⟩
            go_wp2_with fail
            refine H2.mono ?_
            rintro e w1 ⟨rfl, hw⟩
            obtain rfl := hw.symm
            go_wp2_with fail
            refine H3.mono ?_
            rintro e w1 ⟨rfl, hw⟩
            obtain rfl := hw.symm
            go_wp2_with fail
            refine H4.mono ?_
            rintro e w1 ⟨rfl, hw⟩
            obtain rfl := hw.symm
            go_wp2_with fail
            go_ret
            exact ⟨rfl, hd, Touch.refl _ _ _⟩
      · rw [if_pos (by simp only [c3]; simp)]
        rw [decide_eq_false c3] at H3
        go_enter Try.func16, Try.ntmps16
        go_wp2_with fail
        refine H1.mono ?_
        rintro e w' ⟨rfl, rfl⟩
        go_wp2_with fail
        refine H2.mono ?_
        rintro e w1 ⟨rfl, hw⟩
        obtain rfl := hw.symm
        go_wp2_with fail
        refine H3.mono ?_
        rintro e w1 ⟨rfl, hw⟩
        obtain rfl := hw.symm
        go_wp2_with fail
        go_ret
        exact ⟨rfl, hd, Touch.refl _ _ _⟩
    · rw [if_pos (by simp only [c2]; simp)]
      rw [decide_eq_false c2] at H2
      go_enter Try.func16, Try.ntmps16
      go_wp2_with fail
      refine H1.mono ?_
      rintro e w' ⟨rfl, rfl⟩
      go_wp2_with fail
      refine H2.mono ?_
      rintro e w1 ⟨rfl, hw⟩
      obtain rfl := hw.symm
      go_wp2_with fail
      go_ret
      exact ⟨rfl, hd, Touch.refl _ _ _⟩
  · rw [if_pos (by simp only [c1]; simp)]
    rw [decide_eq_false c1] at H1
    go_enter Try.func16, Try.ntmps16
    go_wp2_with fail
    refine H1.mono ?_
    rintro e w' ⟨rfl, rfl⟩
    go_wp2_with fail
    go_ret
    exact ⟨rfl, hd, Touch.refl _ _ _⟩

/-- What Trim leaves. -/
def trimN (a : Nat) : Nat := (a + 63) / 64 * 64
def trimD (d : Dv) (a : Nat) : Dv := ⟨over d.b (trimN a) (List.replicate (d.b.length - trimN a) 0), d.u⟩

theorem trim_nil (a : Int) (w : World) : Calls Try.prog 20 #[.pointer none, .int .i64 a] w fun e w' => e = .returned (.int .i64 1) ∧ w' = w := by
  go_enter Try.func20, Try.ntmps20
  go_wp2_with fail
  go_ret
  exact ⟨rfl, rfl⟩

theorem trim_no (p G : Nat) (a : Int) (d : Dv) (av : List Nat) (w : World) (hd : Dev w av p G d) (ha : I64 a) (hno : ¬ (0 ≤ a ∧ a ≤ d.b.length)) :
    Calls Try.prog 20 #[.pointer (some ⟨p, 0, none⟩), .int .i64 a] w fun e w' => e = .returned (.int .i64 2) ∧ w' = w := by
  have H := has_any p G a 0 d av w hd ha (by omega)
  rw [decide_eq_false (by omega)] at H
  go_enter Try.func20, Try.ntmps20
  go_wp2_with fail
  refine H.mono ?_
  rintro e w' ⟨rfl, rfl⟩
  go_wp2_with fail
  go_ret
  exact ⟨rfl, rfl⟩

theorem clear_none (x : Addr) (w : World) : (Builtin.clear_ #[34] 0 #[.slice (some x) 0 0]).run Try.prog w = .ok (.tuple #[]) w := by
  simp [Builtin.clear_, run_underlying Try.underlying34]

theorem clear_some (w : World) (G o n : Nat) (L : List UInt8) (h : Buf w G L) (hn : 0 < n) (ho : o + n = L.length) :
    ∃ w', (Builtin.clear_ #[34] 0 #[.slice (some ⟨G, o, none⟩) n n]).run Try.prog w = .ok (.tuple #[]) w' ∧ Buf w' G (over L o (List.replicate n 0)) ∧ (∀ p, Touch p G w w') ∧ (∀ k, k ≠ G → w'.heap[k]? = w.heap[k]?) := by
  have hr := Lib.run_clear_slice (P := Try.prog) w 34 5 0 (.int .u8 0) Try.underlying34 Try.zeroValue5 rfl rfl G o n n hn (fun j hj => by rw [(h.cell (o + j) (by omega)).1]; rfl) (fun j hj => (h.cell (o + j) (by omega)).2)
  have e : bcells (List.replicate n 0) = List.replicate n (.int .u8 0) := by simp [bcells]
  rw [← e] at hr
  obtain ⟨i1, i2, i3, i4, i5, i6⟩ := setCells_row G 5 (bcells (List.replicate n 0)) o w _ h (by simp [bcells]; omega)
  refine ⟨_, hr, ?_, fun p => ⟨i4, i5, i6, by omega, fun k _ _ hk => i2 k hk⟩, i2⟩
  unfold Buf
  rw [i1, ← bcells_over, bcells_length]

theorem trim_dev {w W : World} {av : List Nat} {p G : Nat} {d : Dv} (hd : Dev w av p G d) (b' : List UInt8) (hl : b'.length = d.b.length) (hb : Buf W G b') (ht : Touch p G w W) (hp : W.heap[p]? = w.heap[p]?) : Dev W av p G ⟨b', d.u⟩ := by
  obtain ⟨us, h1, h2, h3⟩ := hd.us
  refine ⟨⟨by rw [hl]; exact hd.good.small, by rw [hl]; exact hd.good.whole, hd.good.hands, fun i a m e => by rw [hl]; exact hd.good.fits i a m e⟩, hb, hd.ne, hd.avp, hd.avG, us, h1, by rw [hp, hl]; exact h2, fun i hi => ?_⟩
  rcases h3 i hi with e | ⟨q', a', m', e1, e2, e3⟩
  · exact .inl e
  · exact .inr ⟨q', a', m', e1, e2, e3.keep fun j j1 j2 => ht.block j j1 (fun e => j2 (by simp [e])) (fun e => j2 (by simp [e]))⟩

set_option maxHeartbeats 1000000 in
theorem trim_any (p G a : Nat) (d : Dv) (av : List Nat) (w : World) (hd : Dev w av p G d) (ha : a ≤ d.b.length) :
    Calls Try.prog 20 #[.pointer (some ⟨p, 0, none⟩), .int .i64 (a : Int)] w fun e w' => e = .returned (.int .i64 0) ∧ Dev w' av p G (trimD d a) ∧ Touch p G w w' := by
  have hs := hd.good.small
  have hw := hd.good.whole
  have H := has_any p G a 0 d av w hd (by omega) (by omega)
  rw [decide_eq_true (by omega)] at H
  obtain ⟨us, h1, h2, h3⟩ := hd.us
  obtain ⟨c0, _, _⟩ := dev_cells h2
  have ht : trimN a ≤ d.b.length := by unfold trimN; omega
  have hq : ((a : Int) + 64 - 1).tdiv 64 * 64 = ((trimN a : Nat) : Int) := by
    unfold trimN
    rw [Int.tdiv_eq_ediv_of_nonneg (by omega)]
    omega
  clear h3
  by_cases he : d.b.length = trimN a
  · have e : trimD d a = d := by
      unfold trimD
      rw [he, Nat.sub_self, List.replicate_zero, over_nil]
    rw [e]
    have hc := clear_none ⟨G, 0, none⟩ w
    go_enter Try.func20, Try.ntmps20
    go_wp2_with fail
    refine H.mono ?_
    rintro e w' ⟨rfl, rfl⟩
    go_wp2_with fail
    go_ret
    exact ⟨rfl, hd, Touch.refl _ _ _⟩
  · obtain ⟨W, r1, r2, r3, r4⟩ := clear_some w G (trimN a) (d.b.length - trimN a) d.b hd.buf (by omega) (by omega)
    have hD := trim_dev hd _ (over_length _ _ _ (by simp; omega)) r2 (r3 p) (r4 p hd.ne)
    have HD : Hid (Dev W av p G (trimD d a)) := hD
    have HT : Hid _ := r3 p
    clear r2 r3 r4 hD
    go_enter Try.func20, Try.ntmps20
    go_wp2_with fail
    refine H.mono ?_
    rintro e w' ⟨rfl, rfl⟩
    go_wp2_with fail
    go_ret
    exact ⟨rfl, HD.out, HT.out⟩

end Go.Proofs.Ytbigclhfgcaccaa
