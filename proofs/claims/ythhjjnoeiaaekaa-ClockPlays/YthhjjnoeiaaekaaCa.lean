/-
  made: a ring behind some steps.
-/
import Derived.Test.YthhjjnoeiaaekaaMb
import Derived.Test.YthhjjnoeiaaekaaAr
import Derived.Deep.RegionHeld3
import Derived.Deep.QuietTactic
namespace Go.Proofs.Ythhjjnoeiaaekaa
open Go.RowKit

theorem put_in {r : Rg} {p : Int} (h : (putR r p).2 = 0) : MayR r := Classical.byContradiction fun hM => by
  rw [putR_arg (fun x => hM x.1)] at h
  simp at h
theorem drop_in {r : Rg} {p : Int} (h : (dropR r p).2 = 0) : MayR r := Classical.byContradiction fun hM => by
  rw [dropR_err (placeR_no hM) (by decide)] at h
  simp at h
theorem pin_in {r : Rg} {p n : Int} {t : Bool} (h : (pinR r p n t).2 = 0) : MayR r := Classical.byContradiction fun hM => by
  rw [pinR_err (placeR_no hM) (by decide)] at h
  simp at h
theorem next_in {r : Rg} (h : (nextR r).2.2 = 0) : MayR r := Classical.byContradiction fun hM => by
  rw [nextR_arg hM] at h
  simp at h

/-- Some ring and some error that were told; without an error both rings may be. -/
def StepE (w w' : World) (q : Rg) (e : Ending) : Prop := ∃ a c r x, e = .returned (.tuple #[rgV a c r, .int .i64 x]) ∧ SlF w' a r.fr ∧ Below w.heap.size w w' ∧ (x = 0 → MayR q ∧ MayR r)
def StepN (w w' : World) (q : Rg) (e : Ending) : Prop := ∃ i a c r x, e = .returned (.tuple #[.int .i64 i, rgV a c r, .int .i64 x]) ∧ SlF w' a r.fr ∧ Below w.heap.size w w' ∧ (x = 0 → MayR q ∧ MayR r)
section
variable (a : Option Addr) (c : Nat) (r : Rg) (p n : Int) (w : World) (h : SlF w a r.fr) (hl : r.fr.length ≤ maxLen)
include h hl
theorem put_step : Calls Try.prog 21 #[rgV a c r, .int .i64 p] w fun e w' => StepE w w' r e :=
  (put_any a c r p w h hl).mono fun _ _ ⟨a', c', he, hs, hb⟩ => ⟨a', c', _, _, he, hs, hb, fun h => ⟨put_in h, put_may h⟩⟩
theorem drop_step : Calls Try.prog 20 #[rgV a c r, .int .i64 p] w fun e w' => StepE w w' r e :=
  (drop_any a c r p w h hl).mono fun _ _ ⟨a', c', he, hs, hb⟩ => ⟨a', c', _, _, he, hs, hb, fun h => ⟨drop_in h, drop_may h⟩⟩
theorem touch_step : Calls Try.prog 18 #[rgV a c r, .int .i64 p] w fun e w' => StepE w w' r e :=
  (touch_any a c r p w h hl).mono fun _ _ ⟨a', c', he, hs, hb⟩ => ⟨a', c', _, _, he, hs, hb, fun h => ⟨pin_in h, pin_may h⟩⟩
theorem pin_step (hn : (Lit.int .i64 n).wf = true) : Calls Try.prog 26 #[rgV a c r, .int .i64 p, .int .i64 n] w fun e w' => StepE w w' r e :=
  (pin_any a c r p n w h hl hn).mono fun _ _ ⟨a', c', he, hs, hb⟩ => ⟨a', c', _, _, he, hs, hb, fun h => ⟨pin_in h, pin_may h⟩⟩
theorem next_step : Calls Try.prog 16 #[rgV a c r] w fun e w' => StepN w w' r e :=
  (next_any a c r w h hl).mono fun _ _ ⟨a', c', he, hs, hb⟩ => ⟨_, a', c', _, _, he, hs, hb, fun h => ⟨next_in h, next_may h⟩⟩
end

/-- A ring that may be, or the zero ring, as n is a number of frames or not. -/
def MZ (n : Int) (r : Rg) : Prop := (MayR r ∧ 1 ≤ n ∧ n ≤ 16) ∨ (r = .zero ∧ ¬ (1 ≤ n ∧ n ≤ 16))
theorem MZ.len {n : Int} {r : Rg} (h : MZ n r) : r.fr.length ≤ 16 := by
  rcases h with ⟨h, _⟩ | ⟨rfl, _⟩
  · exact h.most
  · simp [Rg.zero]
theorem MZ.max {n : Int} {r : Rg} (h : MZ n r) : r.fr.length ≤ maxLen := by have := h.len; unfold maxLen; omega
theorem MZ.to {n : Int} {r r' : Rg} (h : MZ n r) (h' : MayR r ∧ MayR r') : MZ n r' := by
  rcases h with ⟨h, h2⟩ | ⟨rfl, h2⟩
  · exact .inl ⟨h'.2, h2⟩
  · exact absurd h'.1 zero_may

theorem slF_other {w : World} {a : Option Addr} {l : List Fr} {q : Nat} {x y : Value} {t : TypeId} (h : SlF w a l) (hq : w.heap[q]? = some (.cells #[x, y] t)) (o : Nat) (v : Value) : SlF (w.setCell ⟨q, o, none⟩ v) a l :=
  ⟨h.nonil, fun z hz i f hf => by
    obtain ⟨h0, h1, h2, h3⟩ := h.cells z hz i f hf
    have hne : q ≠ z.block := fun e => by
      subst e
      simp [World.cell?, hq] at h3
    refine ⟨h0, ?_, ?_, ?_⟩
    · rw [World.cell?_setCell_other (h := by intro e; exact hne (congrArg Addr.block e))]; exact h1
    · rw [World.cell?_setCell_other (h := by intro e; exact hne (congrArg Addr.block e))]; exact h2
    · rw [World.cell?_setCell_other (h := by intro e; exact hne (congrArg Addr.block e))]; exact h3⟩
/-- A ring stored into a box: rows, other blocks, what lay below. -/
theorem slF_two {w : World} {a : Option Addr} {l : List Fr} {q : Nat} {x y u v : Value} (h : SlF w a l) (hq : w.heap[q]? = some (.cells #[x, y] 24)) : SlF ((w.setCell ⟨q, 0, none⟩ u).setCell ⟨q, 1, none⟩ v) a l :=
  slF_other (x := u) (y := y) (t := 24) (slF_other h hq 0 u) (heap_setCell_same w q 0 _ 24 u hq) 1 v
theorem heap_two {w : World} {q k : Nat} {u v : Value} (hk : k ≠ q) : ((w.setCell ⟨q, 0, none⟩ u).setCell ⟨q, 1, none⟩ v).heap[k]? = w.heap[k]? := by
  rw [heap_setCell_other _ _ _ _ (by simpa using fun e => hk e), heap_setCell_other _ _ _ _ (by simpa using fun e => hk e)]
theorem below_two {B q : Nat} {w0 w : World} {u v : Value} (h : Below B w0 w) (hq : B ≤ q) : Below B w0 ((w.setCell ⟨q, 0, none⟩ u).setCell ⟨q, 1, none⟩ v) :=
  (h.setCell (p := ⟨q, 0, none⟩) hq _).setCell (p := ⟨q, 1, none⟩) hq _

set_option maxRecDepth 20000 in
set_option maxHeartbeats 4000000 in
theorem made_any (n : Int) (a0 : Option Addr) (c0 : Nat) (l : List OpL) (w : World) (h : SlO w a0 l) (hl : l.length ≤ maxLen) :
    Calls Try.prog 15 #[.int .i64 n, .slice a0 l.length c0] w fun e w' => ∃ a c r, e = .returned (rgV a c r) ∧ SlF w' a r.fr ∧ Below w.heap.size w w' ∧ MZ n r := by
  unfold maxLen at hl
  go_enter Try.func15, Try.ntmps15
  go_wp2_with fail
  obtain ⟨i0, i1, i2⟩ := al1 w (.cells #[.slice none 0 0, .int .i64 0] 24)
  generalize World.alloc _ _ = W at i0 i1 i2 ⊢
  refine Calls.mono (new_any n W) ?_
  rintro e w1 ⟨a, c, rfl, hs1, hb1⟩
  have HZ : Hid (MZ n (newR n).1) := by
    by_cases hn : 1 ≤ n ∧ n ≤ 16
    · obtain ⟨m, rfl⟩ : ∃ m : Nat, n = (m : Int) := ⟨n.toNat, by omega⟩
      rw [newR_yes (by omega) (by omega)]
      exact .inl ⟨new_may (by omega) (by omega), hn⟩
    · rw [newR_no hn]
      exact .inr ⟨rfl, hn⟩
  generalize (newR n).1 = R at hs1 HZ ⊢
  have hq1 := box_in' i0 hb1
  have hB1 := below_on i2 hb1
  clear i0 i1 i2 hb1
  go_wp2_with fail
  obtain ⟨j0, j1, j2⟩ := al1 w1 (.cells (rgC a c R) 24)
  generalize World.alloc _ _ = W1 at j0 j1 j2 ⊢
  have hs2 := hs1.below j2
  have hq2 := box_in' hq1 j2
  have hB2 := below_on hB1 j2
  have hqP : w.heap.size < w1.heap.size := (Array.getElem?_eq_some_iff.mp hq1).1
  obtain ⟨P, hP⟩ : ∃ P, P = w1.heap.size := ⟨_, rfl⟩
  rw [← hP] at j0 hqP ⊢
  clear hP hs1 hq1 hB1 j1 j2
  have HS := toHid hs2
  have HQ := toHid hq2
  have HB := toHid hB2
  have HP := toHid j0
  clear hs2 hq2 hB2 j0
  go_loopw [7] (fun i wr => ∃ k : Nat, ∃ a c r, k ≤ l.length ∧ i = .int .i64 k ∧ MZ n r ∧ wr.heap[P]? = some (.cells (rgC a c r) 24) ∧ wr.heap[w.heap.size]? = some (.cells #[.slice none 0 0, .int .i64 0] 24) ∧ SlF wr a r.fr ∧ Below w.heap.size w wr) (fun i _ => l.length - (intOf i).toNat)
  case atStart => exact ⟨0, a, c, R, Nat.zero_le _, rfl, HZ.out, HP.out, HQ.out, HS.out, HB.out⟩
  case round =>
    clear HZ HP HQ HS HB

    obtain ⟨k, a, c, r, hk, rfl, hz, hp, hq, hs, hB⟩ := hrel
    have HZ := toHid hz
    have HP := toHid hp
    have HQ := toHid hq
    have HB := toHid hB
    have HS := toHid hs
    obtain ⟨p0, p1, p2, p3, p4⟩ := cell2 hp
    obtain ⟨q0, q1, q2, q3, q4⟩ := cell2 hq
    have HO := toHid (h.below hB)
    clear hz hp hq hB hs
    by_cases hlt : k < l.length ∧ k < 80
    · obtain ⟨hlt, h80⟩ := hlt
      obtain ⟨b, o, rfl, c0', c1', c2'⟩ := HO.out.at_ k hlt
      have HWf := toHid (h.wf l[k] (List.getElem_mem hlt))
      obtain ⟨x, hx⟩ : ∃ x, l[k] = x := ⟨_, rfl⟩
      rw [hx] at c0' c1' c2' HWf
      have hbl := World.block_lt_of_cell? _ _ c0'
      simp only at hbl
      clear hx
      obtain ⟨i0, i1, i2⟩ := al1 wr (.cells (rgC a c r) 24)
      have HP1 := toHid (box_in' HP.out i2)
      have HQ1 := toHid (box_in' HQ.out i2)
      have HS1 := toHid (HS.out.below i2)
      have HB1 := toHid (below_on HB.out i2)
      have HC1 := toHid ((i2.cell (p := ⟨b, o + k * 3 + 1, none⟩) hbl).trans c1')
      have HC2 := toHid ((i2.cell (p := ⟨b, o + k * 3 + 2, none⟩) hbl).trans c2')
      have HI0 := toHid i0
      have HI2 := toHid i2
      clear i0 i1 i2
      have hbn : ¬ b = wr.heap.size := by omega
      have hPn : ¬ P = wr.heap.size := by omega
      have hPq : w.heap.size < wr.heap.size := q4
      by_cases h0 : x.kind = 0
      · rw [h0] at c0'
        go_wp2_with fail
        generalize World.alloc _ _ = W1 at HP1 HQ1 HS1 HB1 HC1 HC2 HI0 HI2 ⊢
        have hd : Below W1.heap.size W1 W1.drew := (Below.refl _ _).drew
        obtain ⟨y0, y1, y2, y3, y4⟩ := cell2 (box_in' HP1.out hd)
        have z1 := (hd.cell (p := ⟨b, o + k * 3 + 1, none⟩) (by simp only; have := HI2.out.size; omega)).trans HC1.out
        obtain ⟨v0, v1, v2, v3, v4⟩ := cell2 HP1.out
        have z3 := HC1.out
        have z4 := HC2.out
        have z2 := (hd.cell (p := ⟨b, o + k * 3 + 2, none⟩) (by simp only; have := HI2.out.size; omega)).trans HC2.out
        have HS2 := toHid (HS1.out.below hd)
        have HB2 := toHid (below_on HB1.out hd)
        have HP2 := toHid (box_in' HP1.out hd)
        have HQ2 := toHid (box_in' HQ1.out hd)
        have HI2 := toHid (box_in' HI0.out hd)
        have HC2 := toHid z1
        clear hd p0 p1 p2 p3 p4 q0 q1 q2 q3 q4 c0' c1' c2' HP HQ HB HS HO HP1 HQ1 HS1 HB1 HC1 HI0
        have hzl := HZ.out.max
        go_region_held3 (fun W => W.cell? ⟨P, 0, none⟩ = some (.slice a r.fr.length c) ∧ W.cell? ⟨P, 1, none⟩ = some (.int .i64 r.hand) ∧ W.cell? ⟨b, o + k * 3 + 1, none⟩ = some (.int .i64 x.page)) (first | (with_reducible exact ⟨by assumption, by assumption, by assumption⟩) | (refine ⟨?_, ?_, ?_⟩ <;> (rw [World.cell?_setCell_far _ _ _ _ (by simp only; omega), World.cell?_setCell_far _ _ _ _ (by simp only; omega)]; with_reducible assumption))) ((go_at_call 21; refine (put_step a c r x.page _ HS2.out hzl).mono ?_; rintro e w4 ⟨a4, c4, r4, xx, rfl, hs4, hb4, hm4⟩; have HS4 := toHid hs4; have HM4 := toHid hm4; have HB4 := toHid (below_on HB2.out hb4); have HP4 := toHid (box_in' HP2.out hb4); have HQ4 := toHid (box_in' HQ2.out hb4); have HI4 := toHid (box_in' HI2.out hb4); have HSr := toHid (HS2.out.below hb4); obtain ⟨s0, s1, s2, s3, s4⟩ := cell2 HP4.out; obtain ⟨t0, t1, t2, t3, t4⟩ := cell2 HI4.out; have u1 := (hb4.cell (p := ⟨b, o + k * 3 + 1, none⟩) (by have := World.block_lt_of_cell? _ _ HC2.out; exact this)).trans HC2.out; clear hs4 hb4 hm4))
        have HP5 := toHid ((heap_two (u := .slice a4 r4.fr.length c4) (v := .int .i64 r4.hand) hPn).trans HP4.out)
        have HQ5 := toHid ((heap_two (q := wr.heap.size) (u := .slice a4 r4.fr.length c4) (v := .int .i64 r4.hand) (by omega)).trans HQ4.out)
        have HI5 := toHid (ring_set (u := .slice a4 r4.fr.length c4) (v := .int .i64 r4.hand) HI4.out)
        have HS5 := toHid (slF_two (u := .slice a4 r4.fr.length c4) (v := .int .i64 r4.hand) HS4.out HI4.out)
        have HSr5 := toHid (slF_two (u := .slice a4 r4.fr.length c4) (v := .int .i64 r4.hand) HSr.out HI4.out)
        have HB5 := toHid (below_two (u := .slice a4 r4.fr.length c4) (v := .int .i64 r4.hand) HB4.out (Nat.le_of_lt hPq))
        clear s0 s1 s2 s3 s4 t0 t1 t2 t3 t4 y0 y1 y2 y3 y4 z1 z2 z3 z4 v0 v1 v2 v3 v4 u1 HP4 HQ4 HI4 HS4 HSr HB4
        generalize World.setCell (World.setCell _ _ _) _ _ = W5 at HP5 HQ5 HI5 HS5 HSr5 HB5 ⊢
        obtain ⟨s0, s1, s2, s3, s4⟩ := cell2 HP5.out
        obtain ⟨t0, t1, t2, t3, t4⟩ := cell2 HI5.out
        by_cases hx0 : xx = 0
        · have HM := toHid (HM4.out hx0)
          rw [hx0]
          clear hx0 HM4
          go_wp2_with fail
          go_roundw
          case rel => exact ⟨k + 1, a4, c4, r4, by omega, by simp, HZ.out.to HM.out, ring_set HP5.out, (heap_two (by omega)).trans HQ5.out, slF_two HS5.out HP5.out, below_two HB5.out (by omega)⟩
          case measure => first | omega | (simp only [intOf]; omega)
        · go_wp2_with fail
          go_roundw
          case rel => exact ⟨k + 1, a, c, r, by omega, by simp, HZ.out, HP5.out, HQ5.out, HSr5.out, HB5.out⟩
          case measure => first | omega | (simp only [intOf]; omega)
      · by_cases h1 : x.kind = 1
        · rw [h1] at c0'
          go_wp2_with fail
          generalize World.alloc _ _ = W1 at HP1 HQ1 HS1 HB1 HC1 HC2 HI0 HI2 ⊢
          have hd : Below W1.heap.size W1 W1.drew := (Below.refl _ _).drew
          obtain ⟨y0, y1, y2, y3, y4⟩ := cell2 (box_in' HP1.out hd)
          have z1 := (hd.cell (p := ⟨b, o + k * 3 + 1, none⟩) (by simp only; have := HI2.out.size; omega)).trans HC1.out
          obtain ⟨v0, v1, v2, v3, v4⟩ := cell2 HP1.out
          have z3 := HC1.out
          have z4 := HC2.out
          have z2 := (hd.cell (p := ⟨b, o + k * 3 + 2, none⟩) (by simp only; have := HI2.out.size; omega)).trans HC2.out
          have HS2 := toHid (HS1.out.below hd)
          have HB2 := toHid (below_on HB1.out hd)
          have HP2 := toHid (box_in' HP1.out hd)
          have HQ2 := toHid (box_in' HQ1.out hd)
          have HI2 := toHid (box_in' HI0.out hd)
          have HC2 := toHid z1
          clear hd p0 p1 p2 p3 p4 q0 q1 q2 q3 q4 c0' c1' c2' HP HQ HB HS HO HP1 HQ1 HS1 HB1 HC1 HI0
          have hzl := HZ.out.max
          go_region_held3 (fun W => W.cell? ⟨P, 0, none⟩ = some (.slice a r.fr.length c) ∧ W.cell? ⟨P, 1, none⟩ = some (.int .i64 r.hand) ∧ W.cell? ⟨b, o + k * 3 + 1, none⟩ = some (.int .i64 x.page)) (first | (with_reducible exact ⟨by assumption, by assumption, by assumption⟩) | (refine ⟨?_, ?_, ?_⟩ <;> (rw [World.cell?_setCell_far _ _ _ _ (by simp only; omega), World.cell?_setCell_far _ _ _ _ (by simp only; omega)]; with_reducible assumption))) ((go_at_call 20; refine (drop_step a c r x.page _ HS2.out hzl).mono ?_; rintro e w4 ⟨a4, c4, r4, xx, rfl, hs4, hb4, hm4⟩; have HS4 := toHid hs4; have HM4 := toHid hm4; have HB4 := toHid (below_on HB2.out hb4); have HP4 := toHid (box_in' HP2.out hb4); have HQ4 := toHid (box_in' HQ2.out hb4); have HI4 := toHid (box_in' HI2.out hb4); have HSr := toHid (HS2.out.below hb4); obtain ⟨s0, s1, s2, s3, s4⟩ := cell2 HP4.out; obtain ⟨t0, t1, t2, t3, t4⟩ := cell2 HI4.out; have u1 := (hb4.cell (p := ⟨b, o + k * 3 + 1, none⟩) (by have := World.block_lt_of_cell? _ _ HC2.out; exact this)).trans HC2.out; clear hs4 hb4 hm4))
          have HP5 := toHid ((heap_two (u := .slice a4 r4.fr.length c4) (v := .int .i64 r4.hand) hPn).trans HP4.out)
          have HQ5 := toHid ((heap_two (q := wr.heap.size) (u := .slice a4 r4.fr.length c4) (v := .int .i64 r4.hand) (by omega)).trans HQ4.out)
          have HI5 := toHid (ring_set (u := .slice a4 r4.fr.length c4) (v := .int .i64 r4.hand) HI4.out)
          have HS5 := toHid (slF_two (u := .slice a4 r4.fr.length c4) (v := .int .i64 r4.hand) HS4.out HI4.out)
          have HSr5 := toHid (slF_two (u := .slice a4 r4.fr.length c4) (v := .int .i64 r4.hand) HSr.out HI4.out)
          have HB5 := toHid (below_two (u := .slice a4 r4.fr.length c4) (v := .int .i64 r4.hand) HB4.out (Nat.le_of_lt hPq))
          clear s0 s1 s2 s3 s4 t0 t1 t2 t3 t4 y0 y1 y2 y3 y4 z1 z2 z3 z4 v0 v1 v2 v3 v4 u1 HP4 HQ4 HI4 HS4 HSr HB4
          generalize World.setCell (World.setCell _ _ _) _ _ = W5 at HP5 HQ5 HI5 HS5 HSr5 HB5 ⊢
          obtain ⟨s0, s1, s2, s3, s4⟩ := cell2 HP5.out
          obtain ⟨t0, t1, t2, t3, t4⟩ := cell2 HI5.out
          by_cases hx0 : xx = 0
          · have HM := toHid (HM4.out hx0)
            rw [hx0]
            clear hx0 HM4
            go_wp2_with fail
            go_roundw
            case rel => exact ⟨k + 1, a4, c4, r4, by omega, by simp, HZ.out.to HM.out, ring_set HP5.out, (heap_two (by omega)).trans HQ5.out, slF_two HS5.out HP5.out, below_two HB5.out (by omega)⟩
            case measure => first | omega | (simp only [intOf]; omega)
          · go_wp2_with fail
            go_roundw
            case rel => exact ⟨k + 1, a, c, r, by omega, by simp, HZ.out, HP5.out, HQ5.out, HSr5.out, HB5.out⟩
            case measure => first | omega | (simp only [intOf]; omega)
        · by_cases h2 : x.kind = 2
          · rw [h2] at c0'
            go_wp2_with fail
            generalize World.alloc _ _ = W1 at HP1 HQ1 HS1 HB1 HC1 HC2 HI0 HI2 ⊢
            have hd : Below W1.heap.size W1 W1.drew := (Below.refl _ _).drew
            obtain ⟨y0, y1, y2, y3, y4⟩ := cell2 (box_in' HP1.out hd)
            have z1 := (hd.cell (p := ⟨b, o + k * 3 + 1, none⟩) (by simp only; have := HI2.out.size; omega)).trans HC1.out
            obtain ⟨v0, v1, v2, v3, v4⟩ := cell2 HP1.out
            have z3 := HC1.out
            have z4 := HC2.out
            have z2 := (hd.cell (p := ⟨b, o + k * 3 + 2, none⟩) (by simp only; have := HI2.out.size; omega)).trans HC2.out
            have HS2 := toHid (HS1.out.below hd)
            have HB2 := toHid (below_on HB1.out hd)
            have HP2 := toHid (box_in' HP1.out hd)
            have HQ2 := toHid (box_in' HQ1.out hd)
            have HI2 := toHid (box_in' HI0.out hd)
            have HC2 := toHid z1
            clear hd p0 p1 p2 p3 p4 q0 q1 q2 q3 q4 c0' c1' c2' HP HQ HB HS HO HP1 HQ1 HS1 HB1 HC1 HI0
            have hzl := HZ.out.max
            go_region_held3 (fun W => W.cell? ⟨P, 0, none⟩ = some (.slice a r.fr.length c) ∧ W.cell? ⟨P, 1, none⟩ = some (.int .i64 r.hand) ∧ W.cell? ⟨b, o + k * 3 + 1, none⟩ = some (.int .i64 x.page)) (first | (with_reducible exact ⟨by assumption, by assumption, by assumption⟩) | (refine ⟨?_, ?_, ?_⟩ <;> (rw [World.cell?_setCell_far _ _ _ _ (by simp only; omega), World.cell?_setCell_far _ _ _ _ (by simp only; omega)]; with_reducible assumption))) ((go_at_call 18; refine (touch_step a c r x.page _ HS2.out hzl).mono ?_; rintro e w4 ⟨a4, c4, r4, xx, rfl, hs4, hb4, hm4⟩; have HS4 := toHid hs4; have HM4 := toHid hm4; have HB4 := toHid (below_on HB2.out hb4); have HP4 := toHid (box_in' HP2.out hb4); have HQ4 := toHid (box_in' HQ2.out hb4); have HI4 := toHid (box_in' HI2.out hb4); have HSr := toHid (HS2.out.below hb4); obtain ⟨s0, s1, s2, s3, s4⟩ := cell2 HP4.out; obtain ⟨t0, t1, t2, t3, t4⟩ := cell2 HI4.out; have u1 := (hb4.cell (p := ⟨b, o + k * 3 + 1, none⟩) (by have := World.block_lt_of_cell? _ _ HC2.out; exact this)).trans HC2.out; clear hs4 hb4 hm4))
            have HP5 := toHid ((heap_two (u := .slice a4 r4.fr.length c4) (v := .int .i64 r4.hand) hPn).trans HP4.out)
            have HQ5 := toHid ((heap_two (q := wr.heap.size) (u := .slice a4 r4.fr.length c4) (v := .int .i64 r4.hand) (by omega)).trans HQ4.out)
            have HI5 := toHid (ring_set (u := .slice a4 r4.fr.length c4) (v := .int .i64 r4.hand) HI4.out)
            have HS5 := toHid (slF_two (u := .slice a4 r4.fr.length c4) (v := .int .i64 r4.hand) HS4.out HI4.out)
            have HSr5 := toHid (slF_two (u := .slice a4 r4.fr.length c4) (v := .int .i64 r4.hand) HSr.out HI4.out)
            have HB5 := toHid (below_two (u := .slice a4 r4.fr.length c4) (v := .int .i64 r4.hand) HB4.out (Nat.le_of_lt hPq))
            clear s0 s1 s2 s3 s4 t0 t1 t2 t3 t4 y0 y1 y2 y3 y4 z1 z2 z3 z4 v0 v1 v2 v3 v4 u1 HP4 HQ4 HI4 HS4 HSr HB4
            generalize World.setCell (World.setCell _ _ _) _ _ = W5 at HP5 HQ5 HI5 HS5 HSr5 HB5 ⊢
            obtain ⟨s0, s1, s2, s3, s4⟩ := cell2 HP5.out
            obtain ⟨t0, t1, t2, t3, t4⟩ := cell2 HI5.out
            by_cases hx0 : xx = 0
            · have HM := toHid (HM4.out hx0)
              rw [hx0]
              clear hx0 HM4
              go_wp2_with fail
              go_roundw
              case rel => exact ⟨k + 1, a4, c4, r4, by omega, by simp, HZ.out.to HM.out, ring_set HP5.out, (heap_two (by omega)).trans HQ5.out, slF_two HS5.out HP5.out, below_two HB5.out (by omega)⟩
              case measure => first | omega | (simp only [intOf]; omega)
            · go_wp2_with fail
              go_roundw
              case rel => exact ⟨k + 1, a, c, r, by omega, by simp, HZ.out, HP5.out, HQ5.out, HSr5.out, HB5.out⟩
              case measure => first | omega | (simp only [intOf]; omega)
          · by_cases h3 : x.kind = 3
            · rw [h3] at c0'
              go_wp2_with fail
              generalize World.alloc _ _ = W1 at HP1 HQ1 HS1 HB1 HC1 HC2 HI0 HI2 ⊢
              have hd : Below W1.heap.size W1 W1.drew := (Below.refl _ _).drew
              obtain ⟨y0, y1, y2, y3, y4⟩ := cell2 (box_in' HP1.out hd)
              have z1 := (hd.cell (p := ⟨b, o + k * 3 + 1, none⟩) (by simp only; have := HI2.out.size; omega)).trans HC1.out
              obtain ⟨v0, v1, v2, v3, v4⟩ := cell2 HP1.out
              have z3 := HC1.out
              have z4 := HC2.out
              have z2 := (hd.cell (p := ⟨b, o + k * 3 + 2, none⟩) (by simp only; have := HI2.out.size; omega)).trans HC2.out
              have HS2 := toHid (HS1.out.below hd)
              have HB2 := toHid (below_on HB1.out hd)
              have HP2 := toHid (box_in' HP1.out hd)
              have HQ2 := toHid (box_in' HQ1.out hd)
              have HI2 := toHid (box_in' HI0.out hd)
              have HC2 := toHid z1
              clear hd p0 p1 p2 p3 p4 q0 q1 q2 q3 q4 c0' c1' c2' HP HQ HB HS HO HP1 HQ1 HS1 HB1 HC1 HI0
              have hzl := HZ.out.max
              go_region_held3 (fun W => W.cell? ⟨P, 0, none⟩ = some (.slice a r.fr.length c) ∧ W.cell? ⟨P, 1, none⟩ = some (.int .i64 r.hand) ∧ W.cell? ⟨b, o + k * 3 + 1, none⟩ = some (.int .i64 x.page) ∧ W.cell? ⟨b, o + k * 3 + 2, none⟩ = some (.int .i64 x.n)) (first | (with_reducible exact ⟨by assumption, by assumption, by assumption, by assumption⟩) | (refine ⟨?_, ?_, ?_, ?_⟩ <;> (rw [World.cell?_setCell_far _ _ _ _ (by simp only; omega), World.cell?_setCell_far _ _ _ _ (by simp only; omega)]; with_reducible assumption))) ((go_at_call 26; refine (pin_step a c r x.page x.n _ HS2.out hzl HWf.out).mono ?_; rintro e w4 ⟨a4, c4, r4, xx, rfl, hs4, hb4, hm4⟩; have HS4 := toHid hs4; have HM4 := toHid hm4; have HB4 := toHid (below_on HB2.out hb4); have HP4 := toHid (box_in' HP2.out hb4); have HQ4 := toHid (box_in' HQ2.out hb4); have HI4 := toHid (box_in' HI2.out hb4); have HSr := toHid (HS2.out.below hb4); obtain ⟨s0, s1, s2, s3, s4⟩ := cell2 HP4.out; obtain ⟨t0, t1, t2, t3, t4⟩ := cell2 HI4.out; have u1 := (hb4.cell (p := ⟨b, o + k * 3 + 1, none⟩) (by have := World.block_lt_of_cell? _ _ HC2.out; exact this)).trans HC2.out; have u2 := (hb4.cell (p := ⟨b, o + k * 3 + 2, none⟩) (by have := World.block_lt_of_cell? _ _ z2; exact this)).trans z2; clear hs4 hb4 hm4))
              have HP5 := toHid ((heap_two (u := .slice a4 r4.fr.length c4) (v := .int .i64 r4.hand) hPn).trans HP4.out)
              have HQ5 := toHid ((heap_two (q := wr.heap.size) (u := .slice a4 r4.fr.length c4) (v := .int .i64 r4.hand) (by omega)).trans HQ4.out)
              have HI5 := toHid (ring_set (u := .slice a4 r4.fr.length c4) (v := .int .i64 r4.hand) HI4.out)
              have HS5 := toHid (slF_two (u := .slice a4 r4.fr.length c4) (v := .int .i64 r4.hand) HS4.out HI4.out)
              have HSr5 := toHid (slF_two (u := .slice a4 r4.fr.length c4) (v := .int .i64 r4.hand) HSr.out HI4.out)
              have HB5 := toHid (below_two (u := .slice a4 r4.fr.length c4) (v := .int .i64 r4.hand) HB4.out (Nat.le_of_lt hPq))
              clear s0 s1 s2 s3 s4 t0 t1 t2 t3 t4 y0 y1 y2 y3 y4 z1 z2 z3 z4 v0 v1 v2 v3 v4 u1 u2 HP4 HQ4 HI4 HS4 HSr HB4
              generalize World.setCell (World.setCell _ _ _) _ _ = W5 at HP5 HQ5 HI5 HS5 HSr5 HB5 ⊢
              obtain ⟨s0, s1, s2, s3, s4⟩ := cell2 HP5.out
              obtain ⟨t0, t1, t2, t3, t4⟩ := cell2 HI5.out
              by_cases hx0 : xx = 0
              · have HM := toHid (HM4.out hx0)
                rw [hx0]
                clear hx0 HM4
                go_wp2_with fail
                go_roundw
                case rel => exact ⟨k + 1, a4, c4, r4, by omega, by simp, HZ.out.to HM.out, ring_set HP5.out, (heap_two (by omega)).trans HQ5.out, slF_two HS5.out HP5.out, below_two HB5.out (by omega)⟩
                case measure => first | omega | (simp only [intOf]; omega)
              · go_wp2_with fail
                go_roundw
                case rel => exact ⟨k + 1, a, c, r, by omega, by simp, HZ.out, HP5.out, HQ5.out, HSr5.out, HB5.out⟩
                case measure => first | omega | (simp only [intOf]; omega)
            · go_wp2_with fail
              generalize World.alloc _ _ = W1 at HP1 HQ1 HS1 HB1 HC1 HC2 HI0 HI2 ⊢
              have hzl := HZ.out.max
              refine Calls.mono (next_step a c r W1 HS1.out hzl) ?_
              rintro e w4 ⟨i4, a4, c4, r4, xx, rfl, hs4, hb4, hm4⟩
              have HS4 := toHid hs4
              have HM4 := toHid hm4
              have HB4 := toHid (below_on HB1.out hb4)
              have HP4 := toHid (box_in' HP1.out hb4)
              have HQ4 := toHid (box_in' HQ1.out hb4)
              have HI4 := toHid (box_in' HI0.out hb4)
              have HSr := toHid (HS1.out.below hb4)
              clear hs4 hb4 hm4 p0 p1 p2 p3 p4 q0 q1 q2 q3 q4 c0' c1' c2' HP HQ HB HS HO HP1 HQ1 HS1 HB1 HC1 HI0
              obtain ⟨s0, s1, s2, s3, s4⟩ := cell2 HP4.out
              obtain ⟨t0, t1, t2, t3, t4⟩ := cell2 HI4.out
              by_cases hx0 : xx = 0
              · have HM := toHid (HM4.out hx0)
                rw [hx0]
                clear hx0 HM4
                go_wp2_with fail
                go_roundw
                case rel =>
                  have HP5 := (heap_two (u := .slice a4 r4.fr.length c4) (v := .int .i64 r4.hand) hPn).trans HP4.out
                  have HQ5 := (heap_two (q := wr.heap.size) (u := .slice a4 r4.fr.length c4) (v := .int .i64 r4.hand) (by omega)).trans HQ4.out
                  have HS5 := slF_two (u := .slice a4 r4.fr.length c4) (v := .int .i64 r4.hand) HS4.out HI4.out
                  have HB5 := below_two (u := .slice a4 r4.fr.length c4) (v := .int .i64 r4.hand) HB4.out (Nat.le_of_lt hPq)
                  exact ⟨k + 1, a4, c4, r4, by omega, by simp, HZ.out.to HM.out, ring_set HP5, (heap_two (by omega)).trans HQ5, slF_two HS5 HP5, below_two HB5 (by omega)⟩
                case measure => first | omega | (simp only [intOf]; omega)
              · go_wp2_with fail
                go_roundw
                case rel =>
                  have HP5 := (heap_two (u := .slice a4 r4.fr.length c4) (v := .int .i64 r4.hand) hPn).trans HP4.out
                  have HQ5 := (heap_two (q := wr.heap.size) (u := .slice a4 r4.fr.length c4) (v := .int .i64 r4.hand) (by omega)).trans HQ4.out
                  have HSr5 := slF_two (u := .slice a4 r4.fr.length c4) (v := .int .i64 r4.hand) HSr.out HI4.out
                  have HB5 := below_two (u := .slice a4 r4.fr.length c4) (v := .int .i64 r4.hand) HB4.out (Nat.le_of_lt hPq)
                  exact ⟨k + 1, a, c, r, by omega, by simp, HZ.out, HP5, HQ5, HSr5, HB5⟩
                case measure => first | omega | (simp only [intOf]; omega)

    · have HE : Hid (¬ (k < l.length ∧ k < 80)) := toHid hlt
      have HQ9 := HQ
      by_cases h1 : k < l.length
      · have h2 : ¬ k < 80 := fun e => hlt ⟨h1, e⟩
        clear hlt
        go_wp2
        obtain ⟨r0, r1, -⟩ := cell2 (ring_set (u := .slice a r.fr.length c) (v := .int .i64 r.hand) HQ.out)
        refine bodyPost_ret (v := rgV a c r) (by simp [results, Try.results15, go_sem, r0, r1]) rfl ?_
        exact ⟨a, c, r, rfl, slF_two HS.out HQ.out, below_two HB.out (Nat.le_refl _), HZ.out⟩
      · have h2 : k = l.length := by omega
        clear hlt h1
        obtain rfl := h2
        go_wp2
        obtain ⟨r0, r1, -⟩ := cell2 (ring_set (u := .slice a r.fr.length c) (v := .int .i64 r.hand) HQ.out)
        refine bodyPost_ret (v := rgV a c r) (by simp [results, Try.results15, go_sem, r0, r1]) rfl ?_
        exact ⟨a, c, r, rfl, slF_two HS.out HQ.out, below_two HB.out (Nat.le_refl _), HZ.out⟩
end Go.Proofs.Ythhjjnoeiaaekaa
