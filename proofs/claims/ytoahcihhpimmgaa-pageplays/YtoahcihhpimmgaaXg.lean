/-
  The walk of PagePlays.
-/
import Derived.Test.YtoahcihhpimmgaaXf
import Derived.Test.YtoahcihhpimmgaaLv
namespace Go.Proofs.Ytoahcihhpimmgaa
open Go.RowKit

theorem step14 (w wr : World) (Dd : Nat) (dA : Array Value) (p id lsn : Nat) (v : Value) (a : Option Addr) (c : Nat) (l : List Cl) (h : Tw w wr Dd dA p id lsn v a l l) (kd : Int) (key val : List UInt8) (tm : Nat) (hk : key.length ≤ maxLen) (hv : val.length ≤ maxLen) (htm : tm < 18446744073709551616) :
    Calls Try.prog 14 #[.pointer (some ⟨p, 0, none⟩), .agg #[.int .i64 (id : Int), .int .u64 (lsn : Int), .slice a l.length c], .agg #[.int .i64 kd, .string (txt key), .string (txt val), .int .u64 (tm : Int)]] wr (P14 w Dd dA id) := by
  by_cases h0 : kd = 0
  · exact step_insert w wr Dd dA p id lsn v a c l h kd key val tm h0 hk hv htm
  · by_cases h1 : kd = 1
    · exact step_update w wr Dd dA p id lsn v a c l h kd key val tm h1 hk hv htm
    · by_cases h2 : kd = 2
      · exact step_delete w wr Dd dA p id lsn v a c l h kd key val tm h2 hk hv htm
      · by_cases h3 : kd = 3
        · cases hix : l.findIdx? (isKey key) with
          | none => exact step_getN w wr Dd dA p id lsn v a c l h kd key val tm h3 hix hk hv htm
          | some ix => exact step_getY w wr Dd dA p id lsn v a c l h kd key val tm h3 ix hix (by have := List.findIdx?_eq_some_iff_getElem.1 hix; exact this.1) hk hv htm
        · by_cases h4 : kd = 4
          · exact step_stamp w wr Dd dA p id lsn v a c l h kd key val tm h4 hk hv htm
          · by_cases h5 : kd = 5
            · exact step_parse w wr Dd dA p id lsn v a c l h kd key val tm h5 hk hv htm
            · exact step_clone w wr Dd dA p id lsn v a c l h kd key val tm ⟨h0, h1, h2, h3, h4, h5⟩ hk hv htm

theorem Tw.setbox {w W : World} {Dd : Nat} {x0 y0 z0 : Value} {p id lsn : Nat} {v : Value} {a : Option Addr} {l m : List Cl} (h : Tw w W Dd #[x0, y0, z0] p id lsn v a l m) (hw : w.heap.size ≤ Dd) (x y z : Value) : Tw w (((W.setCell ⟨Dd, 0, none⟩ x).setCell ⟨Dd, 1, none⟩ y).setCell ⟨Dd, 2, none⟩ z) Dd #[x, y, z] p id lsn v a l m := by
  have hp : p ≠ Dd := kind_ne h.pg.blk h.box (by decide)
  have hv : v.ownBlock ≠ some Dd := fun e => by
    obtain ⟨cs, hg⟩ := h.rowk e
    exact kind_ne h.box hg (by decide) rfl
  have ha : ∀ q, a = some q → m ≠ [] → q.block ≠ Dd := fun q hq hm => (h.sep q hq hm).2.2
  exact ⟨⟨by rw [heap_setCell_other _ _ _ _ hp, heap_setCell_other _ _ _ _ hp, heap_setCell_other _ _ _ _ hp]; exact h.pg.blk, ownsRow_setCell_other (ownsRow_setCell_other (ownsRow_setCell_other h.pg.own (a := ⟨Dd, 0, none⟩) hv _) (a := ⟨Dd, 1, none⟩) hv _) (a := ⟨Dd, 2, none⟩) hv _, h.pg.ne, h.pg.base⟩, h.good, h.good', h.hid, h.hls, ((h.sl.put' ha x).put' ha y).put' ha z, h.sep, put3 h.box x y z, ((h.bel.setCell (p := ⟨Dd, 0, none⟩) hw _).setCell (p := ⟨Dd, 1, none⟩) hw _).setCell (p := ⟨Dd, 2, none⟩) hw _⟩

theorem short_any (k : Int) (x y : List UInt8) (z : Nat) (w : World) :
    Calls Try.prog 13 #[.agg #[.int .i64 k, .string (txt x), .string (txt y), .int .u64 (z : Int)]] w fun e w' => ∃ b, e = .returned (.bool b) ∧ Below w.heap.size w w' := by
  have ex := txt_size x
  have ey := txt_size y
  have HB : Hid (Below w.heap.size w (w.alloc (.cells #[.int .i64 k, .string (txt x), .string (txt y), .int .u64 (z : Int)] 37))) := (Below.refl _ _).alloc (Nat.le_refl _) _
  obtain ⟨c0, c1, c2, c3⟩ := cell4 (heap_alloc_new w (.cells #[.int .i64 k, .string (txt x), .string (txt y), .int .u64 (z : Int)] 37))
  go_enter Try.func13, Try.ntmps13
  go_wp2_with fail
  go_ret
  exact ⟨_, rfl, HB.out⟩

set_option maxRecDepth 100000 in
set_option maxHeartbeats 8000000 in
theorem plays_in (id : Nat) (ao : Option Addr) (co : Nat) (ops : List Ov) (w : World) (hid : id < 16) (hsl : SlO w ao ops) :
    Calls Try.prog 4 #[.int .i64 (id : Int), .slice ao ops.length co] w fun e w' => e = .returned (.bool true) ∧ Below w.heap.size w w' := by
  have HS := toHid hsl
  clear hsl
  go_enter Try.func4, Try.ntmps4
  go_wp2_with fail
  go_at_call 9
  refine Calls.mono (new_yes (id : Int) w ⟨by omega, by omega⟩) ?_
  rintro e w1 ⟨rfl, hw1⟩
  have HP0 := toHid (PgOk.new (id : Int) w)
  have hB0 : Below w.heap.size w w1 := by rw [hw1]; exact (Below.refl _ _).alloc (Nat.le_refl _) _
  rw [← hw1] at HP0
  clear hw1
  have hb2 : Below w1.heap.size w1 (w1.alloc (.cells #[.int .i64 (id : Int), .int .u64 0, .slice none 0 0] 33)) := (Below.refl _ _).alloc (Nat.le_refl _) _
  have HT0 : Hid (Tw w (w1.alloc (.cells #[.int .i64 (id : Int), .int .u64 0, .slice none 0 0] 33)) w1.heap.size #[.int .i64 (id : Int), .int .u64 ((0 : Nat) : Int), .slice none ([] : List Cl).length 0] w.heap.size id 0 (.slice none 0 0) none [] []) :=
    ⟨HP0.out.below hb2 (Nat.le_refl _), goodL_nil, goodL_nil, hid, by omega, ⟨fun _ => rfl, fun x hx => by simp at hx⟩, fun y hy => by simp at hy, heap_alloc_new _ _, hB0.trans (hb2.mono hB0.size)⟩
  have HG := toHid hB0.size
  clear hB0 hb2 HP0
  go_wp2_with fail
  generalize hw2 : w1.alloc (.cells #[.int .i64 (id : Int), .int .u64 0, .slice none 0 0] 33) = w2 at HT0 ⊢
  clear hw2
  generalize hG : w1.heap.size = G at HT0 HG ⊢
  clear hG
  go_loopw [5, 8] (fun s k W => ∃ (i p lsn : Nat) (v : Value) (a : Option Addr) (c : Nat) (l : List Cl), i ≤ ops.length ∧ k = .int .i64 i ∧ s = .pointer (some ⟨p, 0, none⟩) ∧ Tw w W G #[.int .i64 (id : Int), .int .u64 (lsn : Int), .slice a l.length c] p id lsn v a l l) (fun _ k _ => ops.length - (intOf k).toNat)
  case atStart => exact ⟨0, w.heap.size, 0, _, none, 0, [], Nat.zero_le _, rfl, rfl, HT0.out⟩
  case round =>
    obtain ⟨i, p, lsn, v, a, c, l, hi, rfl, rfl, hT⟩ := hrel
    have HT := toHid hT
    clear hT HT0
    by_cases hlt : i < ops.length ∧ i < 150
    · obtain ⟨b, o, rfl, _, c0, c1, c2, c3⟩ := (HS.out.below HT.out.bel).at i hlt.1
      have hsm := HS.out.small ops[i] (List.getElem_mem hlt.1)
      have HOp : Hid (∀ W, Below w.heap.size w W → W.cell? ⟨b, o + i * 4, none⟩ = some (.int .i64 ops[i].kind) ∧ W.cell? ⟨b, o + i * 4 + 1, none⟩ = some (.string (txt ops[i].key)) ∧ W.cell? ⟨b, o + i * 4 + 2, none⟩ = some (.string (txt ops[i].val)) ∧ W.cell? ⟨b, o + i * 4 + 3, none⟩ = some (.int .u64 (ops[i].tm : Int))) := fun W hW => by
        obtain ⟨b', o', e, _, h0, h1, h2, h3⟩ := (HS.out.below hW).at i hlt.1
        simp at e
        obtain ⟨rfl, rfl⟩ := e
        exact ⟨h0, h1, h2, h3⟩
      have e1 : (i : Int) < (ops.length : Int) := by omega
      have e2 : (i : Int) < 150 := by omega
      have e3 : 0 ≤ (i : Int) := by omega
      have HLT := toHid hlt.1
      obtain ⟨x, hx⟩ : ∃ x, x = ops[i]'hlt.1 := ⟨_, rfl⟩
      rw [← hx] at c0 c1 c2 c3 hsm
      have HOx : Hid (∀ W, Below w.heap.size w W → (W.cell? ⟨b, o + i * 4, none⟩ = some (.int .i64 x.kind) ∧ W.cell? ⟨b, o + i * 4 + 1, none⟩ = some (.string (txt x.key)) ∧ W.cell? ⟨b, o + i * 4 + 2, none⟩ = some (.string (txt x.val)) ∧ W.cell? ⟨b, o + i * 4 + 3, none⟩ = some (.int .u64 (x.tm : Int)))) := by rw [hx]; exact HOp.out
      have HSm := toHid hsm
      clear HOp hx hlt hsm
      obtain ⟨kd, ky, vl, tm⟩ := x
      simp only at c0 c1 c2 c3
      go_wp2_with fail
      go_at_call 13
      refine Calls.mono (short_any kd ky vl tm wr) ?_
      rintro e w3 ⟨sh, rfl, hB3⟩
      have HT3 := toHid (HT.out.on hB3)
      clear hB3 HT c0 c1 c2 c3
      cases sh
      · skip
        go_wp2_with fail
        go_at_call 11
        refine Calls.mono (lives_any _) ?_
        rintro e w4 ⟨rfl, hB4⟩
        have HB4 := toHid (HT3.out.bel.trans (hB4.mono HT3.out.bel.size))
        clear hB4
        go_wp2_with fail
        go_ret
        exact ⟨rfl, HB4.out⟩
      · skip
        go_wp2_with fail
        refine wp_region_held_drew (S := fun W => W.cell? ⟨b, o + i * 4, none⟩ = some (.int .i64 kd) ∧ W.cell? ⟨b, o + i * 4 + 1, none⟩ = some (.string (txt ky)) ∧ W.cell? ⟨b, o + i * 4 + 2, none⟩ = some (.string (txt vl)) ∧ W.cell? ⟨b, o + i * 4 + 3, none⟩ = some (.int .u64 (tm : Int))) (by kernel_rfl) ?_ (fun hHeld => ?_)
        · exact HOx.out _ HT3.out.drew.bel
        have HTd := toHid HT3.out.drew
        clear HT3
        generalize hwd : w3.drew = wd at HTd hHeld ⊢
        clear hwd
        refine wpAnyH_take (i := 0) (v := ?_) rfl (by kernel_rfl) (by kernel_rfl) (by kernel_rfl) (fun _ _ _ h => h) (Or.inl ⟨by rfl, ?_⟩) (by assumption) ?_
        rotate_left
        · (intro W hSw; obtain ⟨y0, y1, y2, y3⟩ := hSw; go_simp; try with_reducible rfl)
        try simp only [Act.put, List.getElem_toArray, List.getElem_cons_zero, List.setIfInBounds_toArray, List.set_cons_zero, List.set_cons_succ]
        refine wpAnyH_take (i := 2) (v := ?_) rfl (by kernel_rfl) (by kernel_rfl) (by kernel_rfl) (fun _ _ _ h => h) (Or.inl ⟨by rfl, ?_⟩) (by assumption) ?_
        rotate_left
        · (intro W hSw; obtain ⟨y0, y1, y2, y3⟩ := hSw; go_simp; try with_reducible rfl)
        try simp only [Act.put, List.getElem_toArray, List.getElem_cons_zero, List.getElem_cons_succ, List.setIfInBounds_toArray, List.set_cons_zero, List.set_cons_succ]
        refine wpAnyH_take (i := 3) (v := ?_) rfl (by kernel_rfl) (by kernel_rfl) (by kernel_rfl) (fun _ _ _ h => h) (Or.inl ⟨by rfl, ?_⟩) (by assumption) ?_
        rotate_left
        · (intro W hSw; obtain ⟨y0, y1, y2, y3⟩ := hSw; go_simp; try with_reducible rfl)
        try simp only [Act.put, List.getElem_toArray, List.getElem_cons_zero, List.getElem_cons_succ, List.setIfInBounds_toArray, List.set_cons_zero, List.set_cons_succ]
        refine wpAnyH_take (i := 4) (v := ?_) rfl (by kernel_rfl) (by kernel_rfl) (by kernel_rfl) (fun _ _ _ h => h) (Or.inl ⟨by rfl, ?_⟩) (by assumption) ?_
        rotate_left
        · (intro W hSw; obtain ⟨y0, y1, y2, y3⟩ := hSw; go_simp; try with_reducible rfl)
        try simp only [Act.put, List.getElem_toArray, List.getElem_cons_zero, List.getElem_cons_succ, List.setIfInBounds_toArray, List.set_cons_zero, List.set_cons_succ]
        refine wpAnyH_take (i := 5) (v := ?_) rfl (by kernel_rfl) (by kernel_rfl) (by kernel_rfl) (fun _ _ _ h => h) (Or.inl ⟨by rfl, ?_⟩) (by assumption) ?_
        rotate_left
        · (intro W hSw; obtain ⟨y0, y1, y2, y3⟩ := hSw; go_simp; try with_reducible rfl)
        try simp only [Act.put, List.getElem_toArray, List.getElem_cons_zero, List.getElem_cons_succ, List.setIfInBounds_toArray, List.set_cons_zero, List.set_cons_succ]
        refine wpAnyH_ready (rs := [1]) (by kernel_rfl) (by simp) ?_
        refine AllReadyH.cons rfl (fun K hK => ?_) AllReadyH.nil
        clear hHeld
        obtain ⟨x0, x1, x2, _⟩ := cell3 HTd.out.box
        go_simp
        refine hK.out _ _ (HOx.out _ HTd.out.bel) (fun hHeld => ?_)
        clear hK K x0 x1 x2
        try simp only [Act.put, List.getElem_toArray, List.getElem_cons_zero, List.getElem_cons_succ, List.setIfInBounds_toArray, List.set_cons_zero, List.set_cons_succ]
        refine wpAnyH_ready (rs := [6]) (by kernel_rfl) (by simp) ?_
        refine AllReadyH.cons rfl (fun K hK => ?_) AllReadyH.nil
        clear hHeld
        go_simp
        refine Calls.mono (step14 w wd G #[.int .i64 (id : Int), .int .u64 (lsn : Int), .slice a l.length c] p id lsn v a c l HTd.out kd ky vl tm HSm.out.1 HSm.out.2.1 HSm.out.2.2) ?_
        rintro e w4 ⟨p2, lsn2, v2, a2, c2, l2, rfl, hT4⟩
        have HT4 := toHid hT4
        clear hT4 HTd
        try go_wp2_with fail
        refine hK.out _ w4 (HOx.out _ HT4.out.bel) (fun hHeld => ?_)
        clear hK K
        try simp only [Act.put, List.getElem_toArray, List.getElem_cons_zero, List.getElem_cons_succ, List.setIfInBounds_toArray, List.set_cons_zero, List.set_cons_succ]
        refine wpAnyH_take (i := 7) (v := ?_) rfl (by kernel_rfl) (by kernel_rfl) (by kernel_rfl) (fun _ _ _ h => h) (Or.inl ⟨by rfl, ?_⟩) (by assumption) ?_
        rotate_left
        · (intro W hSw; obtain ⟨y0, y1, y2, y3⟩ := hSw; go_simp; try with_reducible rfl)
        try simp only [Act.put, List.getElem_toArray, List.getElem_cons_zero, List.getElem_cons_succ, List.setIfInBounds_toArray, List.set_cons_zero, List.set_cons_succ]
        refine wpAnyH_take (i := 8) (v := ?_) rfl (by kernel_rfl) (by kernel_rfl) (by kernel_rfl) (fun _ _ _ h => h) (Or.inl ⟨by rfl, ?_⟩) (by assumption) ?_
        rotate_left
        · (intro W hSw; obtain ⟨y0, y1, y2, y3⟩ := hSw; go_simp; try with_reducible rfl)
        try simp only [Act.put, List.getElem_toArray, List.getElem_cons_zero, List.getElem_cons_succ, List.setIfInBounds_toArray, List.set_cons_zero, List.set_cons_succ]
        refine wpAnyH_take (i := 9) (v := ?_) rfl (by kernel_rfl) (by kernel_rfl) (by kernel_rfl) (fun _ _ _ h => h) (Or.inl ⟨by rfl, ?_⟩) (by assumption) ?_
        rotate_left
        · (intro W hSw; obtain ⟨y0, y1, y2, y3⟩ := hSw; go_simp; try with_reducible rfl)
        try simp only [Act.put, List.getElem_toArray, List.getElem_cons_zero, List.getElem_cons_succ, List.setIfInBounds_toArray, List.set_cons_zero, List.set_cons_succ]
        refine wpAnyH_take (i := 10) (v := ?_) rfl (by kernel_rfl) (by kernel_rfl) (by kernel_rfl) (fun _ _ _ h => h) (Or.inl ⟨by rfl, ?_⟩) (by assumption) ?_
        rotate_left
        · (intro W hSw; obtain ⟨y0, y1, y2, y3⟩ := hSw; go_simp; try with_reducible rfl)
        try simp only [Act.put, List.getElem_toArray, List.getElem_cons_zero, List.getElem_cons_succ, List.setIfInBounds_toArray, List.set_cons_zero, List.set_cons_succ]
        refine wpAnyH_take (i := 11) (v := ?_) rfl (by kernel_rfl) (by kernel_rfl) (by kernel_rfl) (fun _ _ _ h => h) (Or.inl ⟨by rfl, ?_⟩) (by assumption) ?_
        rotate_left
        · (intro W hSw; obtain ⟨y0, y1, y2, y3⟩ := hSw; go_simp; try with_reducible rfl)
        try simp only [Act.put, List.getElem_toArray, List.getElem_cons_zero, List.getElem_cons_succ, List.setIfInBounds_toArray, List.set_cons_zero, List.set_cons_succ]
        have HT5 := toHid (HT4.out.setbox HG.out (.int .i64 (id : Int)) (.int .u64 (lsn2 : Int)) (.slice a2 l2.length c2))
        refine wpAnyH_ready (rs := [12]) (by kernel_rfl) (by simp) ?_
        refine AllReadyH.cons rfl (fun K hK => ?_) AllReadyH.nil
        clear hHeld
        obtain ⟨x0, x1, x2, _⟩ := cell3 HT4.out.box
        go_simp
        refine hK.out _ (((w4.setCell ⟨G, 0, none⟩ (.int .i64 (id : Int))).setCell ⟨G, 1, none⟩ (.int .u64 (lsn2 : Int))).setCell ⟨G, 2, none⟩ (.slice a2 l2.length c2)) (HOx.out _ HT5.out.bel) (fun hHeld => ?_)
        clear hK K x0 x1 x2 HT4
        try simp only [Act.put, List.getElem_toArray, List.getElem_cons_zero, List.getElem_cons_succ, List.setIfInBounds_toArray, List.set_cons_zero, List.set_cons_succ]
        generalize hw5 : ((w4.setCell ⟨G, 0, none⟩ (.int .i64 (id : Int))).setCell ⟨G, 1, none⟩ (.int .u64 (lsn2 : Int))).setCell ⟨G, 2, none⟩ (.slice a2 l2.length c2) = w5 at HT5 hHeld ⊢
        clear hw5
        refine wpAnyH_take (i := 13) (v := ?_) rfl (by kernel_rfl) (by kernel_rfl) (by kernel_rfl) (fun _ _ _ h => h) (Or.inl ⟨by rfl, ?_⟩) (by assumption) ?_
        rotate_left
        · (intro W hSw; obtain ⟨y0, y1, y2, y3⟩ := hSw; go_simp; try with_reducible rfl)
        try simp only [Act.put, List.getElem_toArray, List.getElem_cons_zero, List.getElem_cons_succ, List.setIfInBounds_toArray, List.set_cons_zero, List.set_cons_succ]
        refine wpAnyH_done (by kernel_rfl) ?_ _
        clear hHeld
        simp only [Exit.then]
        go_wp2_with fail
        refine wp_region_held_drew (S := fun W => W.cell? ⟨G, 0, none⟩ = some (.int .i64 (id : Int)) ∧ W.cell? ⟨G, 1, none⟩ = some (.int .u64 (lsn2 : Int)) ∧ W.cell? ⟨G, 2, none⟩ = some (.slice a2 l2.length c2)) (by kernel_rfl) ?_ (fun hHeld => ?_)
        · obtain ⟨y0, y1, y2, _⟩ := cell3 HT5.out.drew.box
          exact ⟨y0, y1, y2⟩
        have HTe := toHid HT5.out.drew
        clear HT5
        generalize hwe : w5.drew = we at HTe hHeld ⊢
        clear hwe
        refine wpAnyH_take (i := 0) (v := ?_) rfl (by kernel_rfl) (by kernel_rfl) (by kernel_rfl) (fun _ _ _ h => h) (Or.inl ⟨by rfl, ?_⟩) (by assumption) ?_
        rotate_left
        · (intro W hSw; obtain ⟨y0, y1, y2⟩ := hSw; go_simp; try with_reducible rfl)
        try simp only [Act.put, List.getElem_toArray, List.getElem_cons_zero, List.setIfInBounds_toArray, List.set_cons_zero, List.set_cons_succ]
        refine wpAnyH_take (i := 1) (v := ?_) rfl (by kernel_rfl) (by kernel_rfl) (by kernel_rfl) (fun _ _ _ h => h) (Or.inl ⟨by rfl, ?_⟩) (by assumption) ?_
        rotate_left
        · (intro W hSw; obtain ⟨y0, y1, y2⟩ := hSw; go_simp; try with_reducible rfl)
        try simp only [Act.put, List.getElem_toArray, List.getElem_cons_zero, List.getElem_cons_succ, List.setIfInBounds_toArray, List.set_cons_zero, List.set_cons_succ]
        refine wpAnyH_take (i := 2) (v := ?_) rfl (by kernel_rfl) (by kernel_rfl) (by kernel_rfl) (fun _ _ _ h => h) (Or.inl ⟨by rfl, ?_⟩) (by assumption) ?_
        rotate_left
        · (intro W hSw; obtain ⟨y0, y1, y2⟩ := hSw; go_simp; try with_reducible rfl)
        try simp only [Act.put, List.getElem_toArray, List.getElem_cons_zero, List.getElem_cons_succ, List.setIfInBounds_toArray, List.set_cons_zero, List.set_cons_succ]
        refine wpAnyH_take (i := 3) (v := ?_) rfl (by kernel_rfl) (by kernel_rfl) (by kernel_rfl) (fun _ _ _ h => h) (Or.inl ⟨by rfl, ?_⟩) (by assumption) ?_
        rotate_left
        · (intro W hSw; obtain ⟨y0, y1, y2⟩ := hSw; go_simp; try with_reducible rfl)
        try simp only [Act.put, List.getElem_toArray, List.getElem_cons_zero, List.getElem_cons_succ, List.setIfInBounds_toArray, List.set_cons_zero, List.set_cons_succ]
        refine wpAnyH_take (i := 4) (v := ?_) rfl (by kernel_rfl) (by kernel_rfl) (by kernel_rfl) (fun _ _ _ h => h) (Or.inl ⟨by rfl, ?_⟩) (by assumption) ?_
        rotate_left
        · (intro W hSw; obtain ⟨y0, y1, y2⟩ := hSw; go_simp; try with_reducible rfl)
        try simp only [Act.put, List.getElem_toArray, List.getElem_cons_zero, List.getElem_cons_succ, List.setIfInBounds_toArray, List.set_cons_zero, List.set_cons_succ]
        refine wpAnyH_ready (rs := [5]) (by kernel_rfl) (by simp) ?_
        refine AllReadyH.cons rfl (fun K hK => ?_) AllReadyH.nil
        clear hHeld
        go_simp
        refine Calls.mono (alike_any _ p2 id lsn2 v2 a2 c2 l2 we HTe.out.pg HTe.out.sl HTe.out.good HTe.out.hid HTe.out.hls) ?_
        rintro e w6 ⟨rfl, hB6⟩
        have HT6 := toHid (HTe.out.on hB6)
        clear hB6 HTe
        try go_wp2_with fail
        refine hK.out _ w6 ?_ (fun hHeld => ?_)
        · obtain ⟨y0, y1, y2, _⟩ := cell3 HT6.out.box
          exact ⟨y0, y1, y2⟩
        clear hK K
        try simp only [Act.put, List.getElem_toArray, List.getElem_cons_zero, List.getElem_cons_succ, List.setIfInBounds_toArray, List.set_cons_zero, List.set_cons_succ]
        refine wpAnyH_take (i := 6) (v := ?_) rfl (by kernel_rfl) (by kernel_rfl) (by kernel_rfl) (fun _ _ _ h => h) (Or.inl ⟨by rfl, ?_⟩) (by assumption) ?_
        rotate_left
        · (intro W hSw; obtain ⟨y0, y1, y2⟩ := hSw; go_simp; try with_reducible rfl)
        try simp only [Act.put, List.getElem_toArray, List.getElem_cons_zero, List.getElem_cons_succ, List.setIfInBounds_toArray, List.set_cons_zero, List.set_cons_succ]
        refine wpAnyH_take (i := 7) (v := ?_) rfl (by kernel_rfl) (by kernel_rfl) (by kernel_rfl) (fun _ _ _ h => h) (Or.inl ⟨by rfl, ?_⟩) (by assumption) ?_
        rotate_left
        · (intro W hSw; obtain ⟨y0, y1, y2⟩ := hSw; go_simp; try with_reducible rfl)
        try simp only [Act.put, List.getElem_toArray, List.getElem_cons_zero, List.getElem_cons_succ, List.setIfInBounds_toArray, List.set_cons_zero, List.set_cons_succ]
        refine wpAnyH_take (i := 8) (v := ?_) rfl (by kernel_rfl) (by kernel_rfl) (by kernel_rfl) (fun _ _ _ h => h) (Or.inl ⟨by rfl, ?_⟩) (by assumption) ?_
        rotate_left
        · (intro W hSw; obtain ⟨y0, y1, y2⟩ := hSw; go_simp; try with_reducible rfl)
        try simp only [Act.put, List.getElem_toArray, List.getElem_cons_zero, List.getElem_cons_succ, List.setIfInBounds_toArray, List.set_cons_zero, List.set_cons_succ]
        refine wpAnyH_take (i := 9) (v := ?_) rfl (by kernel_rfl) (by kernel_rfl) (by kernel_rfl) (fun _ _ _ h => h) (Or.inl ⟨by rfl, ?_⟩) (by assumption) ?_
        rotate_left
        · (intro W hSw; obtain ⟨y0, y1, y2⟩ := hSw; go_simp; try with_reducible rfl)
        try simp only [Act.put, List.getElem_toArray, List.getElem_cons_zero, List.getElem_cons_succ, List.setIfInBounds_toArray, List.set_cons_zero, List.set_cons_succ]
        refine wpAnyH_take (i := 11) (v := ?_) rfl (by kernel_rfl) (by kernel_rfl) (by kernel_rfl) (fun _ _ _ h => h) (Or.inl ⟨by rfl, ?_⟩) (by assumption) ?_
        rotate_left
        · (intro W hSw; obtain ⟨y0, y1, y2⟩ := hSw; go_simp; try with_reducible rfl)
        try simp only [Act.put, List.getElem_toArray, List.getElem_cons_zero, List.getElem_cons_succ, List.setIfInBounds_toArray, List.set_cons_zero, List.set_cons_succ]
        refine wpAnyH_ready (rs := [10]) (by kernel_rfl) (by simp) ?_
        refine AllReadyH.cons rfl (fun K hK => ?_) AllReadyH.nil
        clear hHeld
        go_simp
        refine Calls.mono (pairs_any _ p2 (id : Int) lsn2 v2 l2 w6 HT6.out.pg HT6.out.good.few) ?_
        rintro e w7 ⟨aq, cq, L1, rfl, hp1, hs1, ho1, hB7⟩
        have HT7 := toHid (HT6.out.on hB7)
        have HP1 := toHid hp1
        have HS1 := toHid hs1
        have HQ1 := toHid (slQ_of_own ho1)
        clear hp1 hs1 ho1 hB7 HT6
        try go_wp2_with fail
        refine hK.out _ w7 ?_ (fun hHeld => ?_)
        · obtain ⟨y0, y1, y2, _⟩ := cell3 HT7.out.box
          exact ⟨y0, y1, y2⟩
        clear hK K
        try simp only [Act.put, List.getElem_toArray, List.getElem_cons_zero, List.getElem_cons_succ, List.setIfInBounds_toArray, List.set_cons_zero, List.set_cons_succ]
        refine wpAnyH_ready (rs := [12]) (by kernel_rfl) (by simp) ?_
        refine AllReadyH.cons rfl (fun K hK => ?_) AllReadyH.nil
        clear hHeld
        go_simp
        refine Calls.mono (refpairs_any (id : Int) lsn2 a2 c2 l2 w7 HT7.out.sl HT7.out.good.few) ?_
        rintro e w8 ⟨ar, cr, L2, rfl, hp2, hs2, ho2, hB8⟩
        have HT8 := toHid (HT7.out.on hB8)
        have HLL : Hid (L1 = L2) := (sorted_same HT7.out.good HP1.out hp2 HS1.out hs2).2 (List.Perm.refl _)
        have HQ2 := toHid (slQ_of_own ho2)
        have HQ1' := toHid (HQ1.out.below hB8)
        have HL1 : Hid (L1.length ≤ 64) := by
          show _ ≤ _
          have h1 := HP1.out.length_eq
          have h2 := prs_le l2
          have h3 := HT7.out.good.few
          omega
        have HL2 : Hid (L2.length ≤ 64) := by rw [← HLL.out]; exact HL1.out
        clear hp2 hs2 ho2 hB8 HT7 HQ1 HP1 HS1
        try go_wp2_with fail
        refine hK.out _ w8 ?_ (fun hHeld => ?_)
        · obtain ⟨y0, y1, y2, _⟩ := cell3 HT8.out.box
          exact ⟨y0, y1, y2⟩
        clear hK K
        try simp only [Act.put, List.getElem_toArray, List.getElem_cons_zero, List.getElem_cons_succ, List.setIfInBounds_toArray, List.set_cons_zero, List.set_cons_succ]
        refine wpAnyH_ready (rs := [13]) (by kernel_rfl) (by simp) ?_
        refine AllReadyH.cons rfl (fun K hK => ?_) AllReadyH.nil
        clear hHeld
        go_simp
        refine Calls.mono (samepairs_any aq cq L1 ar cr L2 w8 HQ1'.out HQ2.out (by have := HL1.out; omega) (by have := HL2.out; omega)) ?_
        rintro e w9 ⟨rfl, hB9⟩
        rw [decide_eq_true HLL.out]
        have HT9 := toHid (HT8.out.on hB9)
        clear hB9 HT8 HQ1' HQ2
        try go_wp2_with fail
        refine hK.out _ w9 ?_ (fun hHeld => ?_)
        · obtain ⟨y0, y1, y2, _⟩ := cell3 HT9.out.box
          exact ⟨y0, y1, y2⟩
        clear hK K
        try simp only [Act.put, List.getElem_toArray, List.getElem_cons_zero, List.getElem_cons_succ, List.setIfInBounds_toArray, List.set_cons_zero, List.set_cons_succ]
        refine wpAnyH_take (i := 14) (v := ?_) rfl (by kernel_rfl) (by kernel_rfl) (by kernel_rfl) (fun _ _ _ h => h) (Or.inl ⟨by rfl, ?_⟩) (by assumption) ?_
        rotate_left
        · (intro W hSw; obtain ⟨y0, y1, y2⟩ := hSw; go_simp; try with_reducible rfl)
        try simp only [Act.put, List.getElem_toArray, List.getElem_cons_zero, List.getElem_cons_succ, List.setIfInBounds_toArray, List.set_cons_zero, List.set_cons_succ]
        refine wpAnyH_take (i := 15) (v := ?_) rfl (by kernel_rfl) (by kernel_rfl) (by kernel_rfl) (fun _ _ _ h => h) (Or.inl ⟨by rfl, ?_⟩) (by assumption) ?_
        rotate_left
        · (intro W hSw; obtain ⟨y0, y1, y2⟩ := hSw; go_simp; try with_reducible rfl)
        try simp only [Act.put, List.getElem_toArray, List.getElem_cons_zero, List.getElem_cons_succ, List.setIfInBounds_toArray, List.set_cons_zero, List.set_cons_succ]
        refine wpAnyH_done (by kernel_rfl) ?_ _
        clear hHeld
        simp only [Exit.then]
        go_wp2_with fail
        go_roundw
        case rel => exact ⟨i + 1, p2, lsn2, v2, a2, c2, l2, HLT.out, by go_num, rfl, HT9.out⟩
        case measure => have := HLT.out; simp [intOf]; omega
    · have HB3 := toHid HT.out.bel
      by_cases h : i < ops.length
      · have e1 : (i : Int) < (ops.length : Int) := by omega
        have e2 : ¬ (i : Int) < 150 := by omega
        go_wp2_with fail
        go_at_call 11
        refine Calls.mono (lives_any _) ?_
        rintro e w4 ⟨rfl, hB4⟩
        have HB4 := toHid (HB3.out.trans (hB4.mono HB3.out.size))
        clear hB4
        go_wp2_with fail
        go_ret
        exact ⟨rfl, HB4.out⟩
      · have e1 : ¬ (i : Int) < (ops.length : Int) := by omega
        go_wp2_with fail
        go_at_call 11
        refine Calls.mono (lives_any _) ?_
        rintro e w4 ⟨rfl, hB4⟩
        have HB4 := toHid (HB3.out.trans (hB4.mono HB3.out.size))
        clear hB4
        go_wp2_with fail
        go_ret
        exact ⟨rfl, HB4.out⟩

set_option maxRecDepth 100000 in
set_option maxHeartbeats 3000000 in
theorem plays_out (id : Int) (hid : ¬ (0 ≤ id ∧ id < 16)) (ao : Option Addr) (co : Nat) (ops : List Ov) (w : World) :
    Calls Try.prog 4 #[.int .i64 id, .slice ao ops.length co] w fun e w' => e = .returned (.bool true) ∧ Below w.heap.size w w' := by
  have HN := toHid (new_no id w hid)
  have HR : Hid ((decide (0 ≤ id) && decide (id < 16)) = false) := by show _ = _; simp; omega
  clear hid
  go_enter Try.func4, Try.ntmps4
  go_wp2_with fail
  go_at_call 9
  refine Calls.mono HN.out ?_
  rintro e w1 ⟨rfl, hw1⟩
  obtain rfl := hw1.symm
  go_wp2_with fail
  go_at_call 10
  refine Calls.mono (refid_any id w) ?_
  rintro e w1 ⟨rfl, hw1⟩
  obtain rfl := hw1.symm
  rw [HR.out]
  go_wp2_with fail
  go_at_call 11
  refine Calls.mono (lives_any _) ?_
  rintro e w4 ⟨rfl, hB4⟩
  have HB4 := toHid hB4
  clear hB4
  go_wp2_with fail
  go_ret
  exact ⟨rfl, HB4.out⟩

theorem plays_walk (id : Int) (ao : Option Addr) (co : Nat) (ops : List Ov) (w : World) (hsl : SlO w ao ops) :
    Calls Try.prog 4 #[.int .i64 id, .slice ao ops.length co] w fun e w' => e = .returned (.bool true) ∧ Below w.heap.size w w' := by
  by_cases h : 0 ≤ id ∧ id < 16
  · obtain ⟨m, rfl⟩ : ∃ m : Nat, id = m := ⟨id.toNat, by omega⟩
    exact plays_in m ao co ops w (by omega) hsl
  · exact plays_out id h ao co ops w

end Go.Proofs.Ytoahcihhpimmgaa
