/-
  ClockPlays: whatever is put, dropped, touched, pinned and asked for, one behind the other, every answer is the document's, and the ring may always be.
-/
import Derived.Test.YthhjjnoeiaaekaaRi
namespace Go.Proofs.Ythhjjnoeiaaekaa
open Go.RowKit

theorem slO_other {w : World} {a : Option Addr} {l : List OpL} {q : Nat} {x y : Value} {t : TypeId} (h : SlO w a l) (hq : w.heap[q]? = some (.cells #[x, y] t)) (o : Nat) (v : Value) : SlO (w.setCell ⟨q, o, none⟩ v) a l :=
  ⟨fun j hj => by
    obtain ⟨b, o', e, h1, h2, h3⟩ := h.at_ j hj
    have hne : q ≠ b := fun e => by
      subst e
      simp [World.cell?, hq] at h3
    refine ⟨b, o', e, ?_, ?_, ?_⟩
    · rw [World.cell?_setCell_other (h := by intro e; exact hne (congrArg Addr.block e))]; exact h1
    · rw [World.cell?_setCell_other (h := by intro e; exact hne (congrArg Addr.block e))]; exact h2
    · rw [World.cell?_setCell_other (h := by intro e; exact hne (congrArg Addr.block e))]; exact h3, h.wf⟩
theorem slO_two {w : World} {a : Option Addr} {l : List OpL} {q : Nat} {x y u v : Value} (h : SlO w a l) (hq : w.heap[q]? = some (.cells #[x, y] 24)) : SlO ((w.setCell ⟨q, 0, none⟩ u).setCell ⟨q, 1, none⟩ v) a l :=
  slO_other (x := u) (y := y) (t := 24) (slO_other h hq 0 u) (heap_setCell_same w q 0 _ 24 u hq) 1 v

set_option maxRecDepth 20000 in
set_option maxHeartbeats 4000000 in
theorem plays_walk {n : Int} {a0 : Option Addr} {c0 : Nat} {l0 : List OpL} {w : World} (h : SlO w a0 l0) (hl : l0.length ≤ maxLen) :
    Calls Try.prog 5 #[.int .i64 n, .slice a0 l0.length c0] w fun e w' => e = .returned (.bool true) ∧ Below w.heap.size w w' := by
  unfold maxLen at hl
  go_enter Try.func5, Try.ntmps5
  go_wp2_with fail
  refine Calls.mono (new_any n w) ?_
  rintro e w1 ⟨a, c, rfl, hs1, hb1⟩
  by_cases hn : 1 ≤ n ∧ n ≤ 16
  · have HM : Hid (MayR (newR n).1) := by
      obtain ⟨m, rfl⟩ : ∃ m : Nat, n = (m : Int) := ⟨n.toNat, by omega⟩
      rw [newR_yes (by omega) (by omega)]
      exact new_may (by omega) (by omega)
    have hz : (newR n).2 = 0 := by unfold newR; rw [if_pos hn]
    rw [hz]
    clear hz
    generalize (newR n).1 = R at hs1 HM ⊢
    obtain ⟨j0, j1, j2⟩ := al1 w1 (.cells (rgC a c R) 24)
    have HS := toHid (hs1.below j2)
    have HB := toHid (below_on hb1 j2)
    have HO := toHid ((h.below hb1).below j2)
    have HP := toHid j0
    have hwP : w.heap.size ≤ w1.heap.size := hb1.size
    clear hs1 hb1 j0 j1 j2
    go_wp2_with fail
    generalize World.alloc _ _ = W at HS HB HO HP ⊢
    generalize w1.heap.size = P at HP hwP ⊢
    go_loopw [7] (fun i wr => ∃ k : Nat, ∃ a c r, k ≤ l0.length ∧ i = .int .i64 k ∧ MayR r ∧ wr.heap[P]? = some (.cells (rgC a c r) 24) ∧ SlF wr a r.fr ∧ SlO wr a0 l0 ∧ Below w.heap.size w wr) (fun i _ => l0.length - (intOf i).toNat)
    case atStart => exact ⟨0, a, c, R, Nat.zero_le _, rfl, HM.out, HP.out, HS.out, HO.out, HB.out⟩
    case round =>
      clear HM HP HS HO HB
      obtain ⟨k, a, c, r, hk, rfl, hM, hp, hs, ho, hB⟩ := hrel
      have HM := toHid hM
      have HP := toHid hp
      have HS := toHid hs
      have HO := toHid ho
      have HB := toHid hB
      have h16 := hM.most
      obtain ⟨p0, p1, p2, p3, p4⟩ := cell2 hp
      clear hM hp hs ho hB
      by_cases hlt : k < l0.length ∧ k < 120
      · obtain ⟨hlt, h120⟩ := hlt
        obtain ⟨b, o, rfl, c0', c1', c2'⟩ := HO.out.at_ k hlt
        have HWf := toHid (h.wf l0[k] (List.getElem_mem hlt))
        obtain ⟨x, hx⟩ : ∃ x, l0[k] = x := ⟨_, rfl⟩
        rw [hx] at c0' c1' c2' HWf
        clear hx
        go_wp2_with fail
        have hbl := World.block_lt_of_cell? _ _ c0'
        simp only at hbl
        have hPl := p4
        have HSW : Hid (∀ W, Below wr.heap.size wr W → W.cell? ⟨P, 0, none⟩ = some (.slice a r.fr.length c) ∧ W.cell? ⟨P, 1, none⟩ = some (.int .i64 r.hand) ∧ W.cell? ⟨b, o + k * 3, none⟩ = some (.int .i64 x.kind) ∧ W.cell? ⟨b, o + k * 3 + 1, none⟩ = some (.int .i64 x.page) ∧ W.cell? ⟨b, o + k * 3 + 2, none⟩ = some (.int .i64 x.n)) := toHid fun W hW =>
          ⟨(hW.cell (p := ⟨P, _, none⟩) hPl).trans p0, (hW.cell (p := ⟨P, _, none⟩) hPl).trans p1, (hW.cell (p := ⟨b, _, none⟩) hbl).trans c0', (hW.cell (p := ⟨b, _, none⟩) hbl).trans c1', (hW.cell (p := ⟨b, _, none⟩) hbl).trans c2'⟩
        have hd : Below wr.heap.size wr wr.drew := (Below.refl _ _).drew
        have hda : Below wr.heap.size wr ((wr.alloc (.cells #[.slice none 0 0, .int .i64 0] 24)).drew) := ((Below.refl _ _).alloc (Nat.le_refl _) _).drew
        have HA := toHid (one_any a c r x wr.drew (HS.out.below hd) (by omega) HWf.out)
        have HBc := toHid (one_any a c r x ((wr.alloc (.cells #[.slice none 0 0, .int .i64 0] 24)).drew) (HS.out.below hda) (by omega) HWf.out)
        simp only [OpL.cells, rgV, rgC] at HA HBc
        have hS0 := HSW.out _ hd
        have hSa := HSW.out _ hda
        have HD := toHid hd
        have HDa := toHid hda
        have hk0 : 0 ≤ (k : Int) := by omega
        have hk1 : (k : Int) < (l0.length : Int) := by omega
        clear hd hda p0 p1 p2 p3 p4 c0' c1' c2'
        go_region_held3 (fun W => W.cell? ⟨P, 0, none⟩ = some (.slice a r.fr.length c) ∧ W.cell? ⟨P, 1, none⟩ = some (.int .i64 r.hand) ∧ W.cell? ⟨b, o + k * 3, none⟩ = some (.int .i64 x.kind) ∧ W.cell? ⟨b, o + k * 3 + 1, none⟩ = some (.int .i64 x.page) ∧ W.cell? ⟨b, o + k * 3 + 2, none⟩ = some (.int .i64 x.n)) (with_reducible assumption) (first
          | (go_at_call 12; refine Calls.mono HBc.out ?_; rintro e v4 ⟨a4, c4, r4, rfl, hs4, hb4, hm4⟩; have HD4 := toHid (below_on HDa.out hb4); have hS4 := HSW.out _ HD4.out; have HS4 := toHid hs4; have HM4 := toHid (hm4 HM.out); have HZ4 := toHid (box_in' (show ((wr.alloc (.cells #[.slice none 0 0, .int .i64 0] 24)).drew).heap[wr.heap.size]? = some (.cells #[.slice none 0 0, .int .i64 0] 24) from heap_alloc_new wr _) hb4); have hS5 := HSW.out _ (below_two (u := .slice a4 r4.fr.length c4) (v := .int .i64 r4.hand) HD4.out (Nat.le_refl _)); obtain ⟨t0, t1, t2, t3, t4⟩ := cell2 (show v4.heap[wr.heap.size]? = some (.cells #[.slice none 0 0, .int .i64 0] 24) from HZ4.out); have tokB := trivial; clear hs4 hb4 hm4)
          | (go_at_call 12; refine Calls.mono HA.out ?_; rintro e v4 ⟨a4, c4, r4, rfl, hs4, hb4, hm4⟩; have HD4 := toHid (below_on HD.out hb4); have hS4 := HSW.out _ HD4.out; have HS4 := toHid hs4; have HM4 := toHid (hm4 HM.out); have hS5 := HSW.out _ (HD4.out.alloc HD4.out.size (.cells #[.slice none 0 0, .int .i64 0] 24)); have hS6 := HSW.out _ (HD4.out.alloc HD4.out.size (.cells #[.slice a4 r4.fr.length c4, .int .i64 r4.hand] 24)); clear hs4 hb4 hm4))
        · clear hS0 hSa hS4 hS5 hS6
          have hP4 : P < v4.heap.size := by have := HD4.out.size; omega
          obtain ⟨m0, m1, m2⟩ := al1 v4 (.cells #[.slice a4 r4.fr.length c4, .int .i64 r4.hand] 24)
          have HX5 := toHid m0
          have HS5 := toHid (HS4.out.below m2)
          have HD5 := toHid (below_on HD4.out m2)
          obtain ⟨Q8, hQ8⟩ : ∃ Q8, Q8 = v4.heap.size := ⟨_, rfl⟩
          rw [← hQ8] at HX5 ⊢
          clear m0 m1 m2
          have HB5 := toHid (below_on HB.out HD5.out)
          have HP5 := toHid (box_in' HP.out HD5.out)
          have HO5 := toHid (HO.out.below HD5.out)
          have hQP : ¬ Q8 = P := by omega
          clear HSW HA HBc HD HDa HS HB HP HO hPl hbl HD4 HD5
          generalize World.alloc _ _ = W5 at HX5 HS5 HB5 HP5 HO5 ⊢
          clear hQ8
          obtain ⟨s0, s1, s2, s3, s4⟩ := cell2 HX5.out
          go_wp2_with fail
          refine Calls.mono (check_yes a4 c4 r4 W5 HS5.out HM4.out) ?_
          rintro e w6 ⟨rfl, hb6⟩
          have HX6 := toHid (box_in' HX5.out hb6)
          have HP6 := toHid (box_in' HP5.out hb6)
          have HS6 := toHid (HS5.out.below hb6)
          have HO6 := toHid (HO5.out.below hb6)
          have HB6 := toHid (below_on HB5.out hb6)
          clear hb6 HX5 HP5 HS5 HO5 HB5 s0 s1 s2 s3 s4
          obtain ⟨s0, s1, s2, s3, s4⟩ := cell2 HX6.out
          obtain ⟨t0, t1, t2, t3, t4⟩ := cell2 HP6.out
          go_wp2_with fail
          go_roundw
          case rel => exact ⟨k + 1, a4, c4, r4, by omega, by simp, HM4.out, ring_set HP6.out, slF_two HS6.out HP6.out, slO_two HO6.out HP6.out, below_two HB6.out hwP⟩
          case measure => first | omega | (simp only [intOf]; omega)
        · clear hS0 hSa hS4 hS5 t0 t1 t2 t3 t4 tokB
          have HX5 := toHid (ring_set (u := .slice a4 r4.fr.length c4) (v := .int .i64 r4.hand) HZ4.out)
          have HS5 := toHid (slF_two (u := .slice a4 r4.fr.length c4) (v := .int .i64 r4.hand) HS4.out HZ4.out)
          have HD5 := toHid (below_two (u := .slice a4 r4.fr.length c4) (v := .int .i64 r4.hand) HD4.out (Nat.le_refl _))
          obtain ⟨Q8, hQ8⟩ : ∃ Q8, Q8 = wr.heap.size := ⟨_, rfl⟩
          have HZ5 := HZ4
          clear HZ4 HZ5
          have HB5 := toHid (below_on HB.out HD5.out)
          have HP5 := toHid (box_in' HP.out HD5.out)
          have HO5 := toHid (HO.out.below HD5.out)
          have hQP : ¬ Q8 = P := by omega
          clear HSW HA HBc HD HDa HS HB HP HO hPl hbl HD4 HD5
          generalize World.setCell (World.setCell _ _ _) _ _ = W5 at HX5 HS5 HB5 HP5 HO5 ⊢
          rw [← hQ8] at HX5 ⊢
          clear hQ8
          obtain ⟨s0, s1, s2, s3, s4⟩ := cell2 HX5.out
          go_wp2_with fail
          refine Calls.mono (check_yes a4 c4 r4 W5 HS5.out HM4.out) ?_
          rintro e w6 ⟨rfl, hb6⟩
          have HX6 := toHid (box_in' HX5.out hb6)
          have HP6 := toHid (box_in' HP5.out hb6)
          have HS6 := toHid (HS5.out.below hb6)
          have HO6 := toHid (HO5.out.below hb6)
          have HB6 := toHid (below_on HB5.out hb6)
          clear hb6 HX5 HP5 HS5 HO5 HB5 s0 s1 s2 s3 s4
          obtain ⟨s0, s1, s2, s3, s4⟩ := cell2 HX6.out
          obtain ⟨t0, t1, t2, t3, t4⟩ := cell2 HP6.out
          go_wp2_with fail
          go_roundw
          case rel => exact ⟨k + 1, a4, c4, r4, by omega, by simp, HM4.out, ring_set HP6.out, slF_two HS6.out HP6.out, slO_two HO6.out HP6.out, below_two HB6.out hwP⟩
          case measure => first | omega | (simp only [intOf]; omega)
      · by_cases h1 : k < l0.length
        · have h2 : ¬ k < 120 := fun e => hlt ⟨h1, e⟩
          clear hlt
          go_wp2_with fail
          refine Calls.mono (lives_any wr) ?_
          rintro e w3 ⟨rfl, hb3⟩
          have HB3 := toHid (below_on HB.out hb3)
          clear hb3 HB HP HS HO p0 p1 p2 p3 p4
          go_wp2
          go_ret
          exact ⟨rfl, HB3.out⟩
        · obtain rfl : k = l0.length := by omega
          clear hlt h1
          go_wp2_with fail
          refine Calls.mono (lives_any wr) ?_
          rintro e w3 ⟨rfl, hb3⟩
          have HB3 := toHid (below_on HB.out hb3)
          clear hb3 HB HP HS HO p0 p1 p2 p3 p4
          go_wp2
          go_ret
          exact ⟨rfl, HB3.out⟩
  · have hR := newR_no hn
    rw [hR] at hs1 ⊢
    simp only [rgV, rgC, Rg.zero, List.length_nil] at hs1 ⊢
    obtain ⟨i0, i1, i2⟩ := al1 w1 (.cells #[.slice a 0 c, .int .i64 0] 24)
    have hB2 := below_on hb1 i2
    clear hb1 hs1 hR
    by_cases h1 : n < 1
    · go_wp2_with fail
      generalize World.alloc _ _ = W at i0 i1 i2 hB2 ⊢
      refine Calls.mono (lives_any W) ?_
      rintro e w3 ⟨rfl, hb3⟩
      have HB := toHid (below_on hB2 hb3)
      clear hb3 hB2 i0 i1 i2
      go_wp2
      go_ret
      exact ⟨rfl, HB.out⟩
    · have h2 : 16 < n := by omega
      go_wp2_with fail
      generalize World.alloc _ _ = W at i0 i1 i2 hB2 ⊢
      refine Calls.mono (lives_any W) ?_
      rintro e w3 ⟨rfl, hb3⟩
      have HB := toHid (below_on hB2 hb3)
      clear hb3 hB2 i0 i1 i2
      go_wp2
      go_ret
      exact ⟨rfl, HB.out⟩
end Go.Proofs.Ythhjjnoeiaaekaa
