/-
  The walk of RecBack.
-/
import Derived.Test.YtjhjicokbdloiaaRs
namespace Go.Proofs.Ytjhjicokbdloiaa
open Go.RowKit

/-- A record's frame with bytes behind it, opened. -/
theorem unframe_back (r : Rc) (hm : mayB r = true) (l : List UInt8) (W : World) (B : Nat) (v : Value) (n : Nat) (hn : (frameB r).length = n) (hn1 : 27 ≤ n) (hn2 : n ≤ 1206) (hl : l.length ≤ 10000)
    (hown : W.ownsRow B 5 1 v (0 + n + l.length) (bcells ([] ++ frameB r ++ l))) :
    Calls Try.prog 20 #[v] W fun e w' => ∃ ta tc da dc, e = .returned (.tuple #[recV r ta tc da dc, .int .i64 (n : Nat), .int .i64 0]) ∧ RI w' r ta da ∧ Below W.heap.size W w' := by
  have hlen : (frameB r ++ l).length = 0 + n + l.length := by simp [hn]
  rw [List.nil_append] at hown
  rcases hown.2 with ⟨_, h0⟩ | ⟨g, cap, cur, rfl, _, _, hnc, _, _⟩
  · omega
  · rw [← hlen] at hown hnc ⊢
    obtain ⟨hsl, _, _⟩ := slB_of_own hown
    have h := unframe_any (some ⟨g, 0, none⟩) cap (frameB r ++ l) W hsl (by omega) hnc (by simp)
    rw [unf_back r hm l, hn] at h
    refine Calls.mono h ?_
    rintro e w' ⟨ta, tc, da, dc, rfl, h1, h2, hb⟩
    obtain ⟨ht, hlt⟩ := slT_of_own h1
    obtain ⟨hd, hld⟩ := slD_of_own h2
    exact ⟨ta, tc, da, dc, rfl, ⟨ht, hd, hlt, hld⟩, hb⟩

/-- A record's bytes, read. -/
theorem decode_back (r : Rc) (hm : mayB r = true) (W : World) (B : Nat) (a : Option Addr) (c L : Nat) (hL : (encB r).length = L) (hL2 : L ≤ 1200) (hown : W.ownsRow B 5 1 (.slice a L c) L (bcells (encB r))) :
    Calls Try.prog 18 #[.slice a L c] W fun e w' => ∃ ta tc da dc, e = .returned (.tuple #[recV r ta tc da dc, .int .i64 0]) ∧ RI w' r ta da ∧ Below W.heap.size W w' := by
  subst hL
  obtain ⟨hsl, _, _⟩ := slB_of_own hown
  obtain ⟨_, hR, hE⟩ := dec_may r hm
  have h := decode_any a c (encB r) W hsl (by omega) (by
    rintro rfl
    rcases hown.2 with ⟨h1, _⟩ | ⟨g, cap, cur, h1, _⟩
    · simp at h1; exact h1.2
    · simp at h1)
  rw [hR, hE] at h
  refine Calls.mono h ?_
  rintro e w' ⟨ta, tc, da, dc, rfl, h1, h2, hb⟩
  obtain ⟨ht, hlt⟩ := slT_of_own h1
  obtain ⟨hd, hld⟩ := slD_of_own h2
  exact ⟨ta, tc, da, dc, rfl, ⟨ht, hd, hlt, hld⟩, hb⟩

theorem own_none_new (W : World) : (W.alloc (.cells #[] 5)).ownsRow W.heap.size 5 1 (.slice (some ⟨W.heap.size, 0, none⟩) 0 0) 0 (bcells []) :=
  ⟨rfl, .inr ⟨W.heap.size, 0, #[], rfl, Nat.le_refl _, heap_alloc_new W _, Nat.le_refl _, by decide, rfl, rfl⟩⟩

set_option maxRecDepth 20000 in
set_option maxHeartbeats 4000000 in
theorem back_walk (r : Rc) (ta : Option Addr) (tc : Nat) (da : Option Addr) (dc : Nat) (a : Option Addr) (ca : Nat) (l : List UInt8) (w : World) (ha : RI w r ta da) (hsl : SlB w a l) (hll : l.length ≤ 140737488355328) (hnil : a = none → ca = 0) :
    Calls Try.prog 5 #[recV r ta tc da dc, .slice a l.length ca] w fun e w' => e = .returned (.bool true) ∧ Below w.heap.size w w' := by
  have HK0 : Hid (Below (w.heap.size + 1) (w.alloc (.cells (recC r ta tc da dc) 31)) (w.alloc (.cells (recC r ta tc da dc) 31))) := Below.refl _ _
  have HC : Hid (∀ W, Below w.heap.size w W → Calls Try.prog 14 #[recV r ta tc da dc] W fun e w' => e = .returned (.int .i64 (argE (mayB r))) ∧ Below W.heap.size W w') := fun W hW => let h := ha.below hW; check_any r ta tc da dc W h.t h.d h.lt h.ld
  have HE : Hid (∀ W, Below w.heap.size w W → Calls Try.prog 11 #[recV r ta tc da dc] W fun e w' => ∃ v, e = .returned (.tuple #[v, .int .i64 (argE (mayB r))]) ∧ w'.ownsRow W.heap.size 5 1 v (outB r).length (bcells (outB r)) ∧ Below W.heap.size W w') := fun W hW => let h := ha.below hW; encode_any r ta tc da dc W h.t h.d h.lt h.ld
  have HF : Hid (∀ W, Below w.heap.size w W → Calls Try.prog 12 #[recV r ta tc da dc] W fun e w' => ∃ v, e = .returned (.tuple #[v, .int .i64 (argE (mayB r))]) ∧ w'.ownsRow W.heap.size 5 1 v (outF r).length (bcells (outF r)) ∧ Below W.heap.size W w') := fun W hW => let h := ha.below hW; frame_any r ta tc da dc W h.t h.d h.lt h.ld
  have HZ : Hid (∀ W, Below w.heap.size w W → Calls Try.prog 15 #[recV r ta tc da dc] W fun e w' => e = .returned (.int .i64 ((outF r).length : Nat)) ∧ Below W.heap.size W w') := fun W hW => let h := ha.below hW; size_any r ta tc da dc W h.t h.d h.lt h.ld
  have HS : Hid (∀ t2 c2 d2 e2 W, Below w.heap.size w W → RI W r t2 d2 → Calls Try.prog 23 #[recV r t2 c2 d2 e2, recV r ta tc da dc] W fun e w' => e = .returned (.bool true) ∧ Below W.heap.size W w') := fun t2 c2 d2 e2 W hW k => by
    have h := ha.below hW
    have h' := same_any r r t2 c2 d2 e2 ta tc da dc W k.t k.d k.lt k.ld h.t h.d h.lt h.ld
    rw [decide_eq_true rfl] at h'
    exact h'
  have HR : Hid (∀ t2 c2 d2 e2 W, Below w.heap.size w W → RI W r t2 d2 → Calls Try.prog 22 #[recV r t2 c2 d2 e2, recV r ta tc da dc] W fun e w' => e = .returned (.bool true) ∧ Below W.heap.size W w') := fun t2 c2 d2 e2 W hW k => by
    have h' := refsame_any r r t2 c2 d2 e2 ta tc da dc W k (ha.below hW)
    rw [decide_eq_true rfl] at h'
    exact h'
  have HB : Hid (SlB w a l) := hsl
  have Hnil : Hid (a = none → ca = 0) := hnil
  clear ha hsl hnil
  go_enter Try.func5, Try.ntmps5
  go_wp2_with fail
  refine (light_any r ta tc da dc _).mono ?_
  rintro e w1 ⟨la, rfl, hb1⟩
  have HK1 := (show Hid _ from box1_on HK0.out hb1)
  clear hb1
  have ka := box1_kept HK1.out
  obtain ⟨⟨x0, x1, x2, x3, x4, x5, x6, x7, x8, x9, x10, x11⟩, _⟩ := rw_cells' ka
  have hza := lt_of_block ka
  clear ka
  cases la
  · go_wp2_with fail
    refine (lives_any _).mono ?_
    rintro e wz ⟨rfl, hbz⟩
    have hfin := box1_below (box1_on HK1.out hbz)
    clear hbz
    go_wp2
    go_ret
    exact ⟨rfl, hfin⟩
  by_cases hl : (10000 : Int) < (l.length : Int)
  · go_wp2_with fail
    refine (lives_any _).mono ?_
    rintro e wz ⟨rfl, hbz⟩
    have hfin := box1_below (box1_on HK1.out hbz)
    clear hbz
    go_wp2
    go_ret
    exact ⟨rfl, hfin⟩
  go_wp2_with fail
  refine (HC.out _ (box1_below HK1.out)).mono ?_
  rintro e w2 ⟨rfl, hb2⟩
  have HK2 := (show Hid _ from box1_on HK1.out hb2)
  clear hb2 x0 x1 x2 x3 x4 x5 x6 x7 x8 x9 x10 x11 hza
  have ka := box1_kept HK2.out
  obtain ⟨⟨x0, x1, x2, x3, x4, x5, x6, x7, x8, x9, x10, x11⟩, _⟩ := rw_cells' ka
  have hza := lt_of_block ka
  clear ka
  cases hm : mayB r
  · rw [show outF r = [] by unfold outF; rw [hm]; rfl] at HZ
    clear hm HC HE HF HS HR
    unfold argE
    go_wp2_with fail
    refine (HZ.out _ (box1_below HK2.out)).mono ?_
    rintro e w3 ⟨rfl, hb3⟩
    have HK3 := (show Hid _ from box1_on HK2.out hb3)
    clear hb3 x0 x1 x2 x3 x4 x5 x6 x7 x8 x9 x10 x11 hza HZ
    go_wp2_with fail
    refine (lives_any _).mono ?_
    rintro e wz ⟨rfl, hbz⟩
    have hfin := box1_below (box1_on HK3.out hbz)
    clear hbz
    go_wp2
    go_ret
    exact ⟨rfl, hfin⟩
  rw [hm, show outB r = encB r by unfold outB; rw [hm]; rfl] at HE
  rw [hm, show outF r = frameB r by unfold outF; rw [hm]; rfl] at HF
  have Hm : Hid (mayB r = true) := hm
  have hLn := encB_length r hm
  have hFl := frameB_length r
  clear hm HC HZ
  obtain ⟨n, hn⟩ : ∃ n, (frameB r).length = n := ⟨_, rfl⟩
  obtain ⟨L, hL⟩ : ∃ n, (encB r).length = n := ⟨_, rfl⟩
  rw [hL] at hLn hFl
  rw [hn] at hFl
  have hn1 : 27 ≤ n := by omega
  have hn2 : n ≤ 1206 := by omega
  have hnL : (n : Int) = (L : Int) + 6 := by omega
  have hL2 : L ≤ 1200 := by omega
  have HN : Hid ((frameB r).length = n) := hn
  have HL : Hid ((encB r).length = L) := hL
  rw [hn] at HF
  rw [hL] at HE
  clear hLn hFl hn hL
  unfold argE at *
  go_wp2_with fail
  refine (HE.out _ (box1_below HK2.out)).mono ?_
  rintro e w3 ⟨v, rfl, hown, hb3⟩
  obtain ⟨ax, cx, rfl⟩ := ownsRow_shape hown
  have HK3 := (show Hid _ from box1_on HK2.out hb3)
  have HD : Hid (∀ W, Below w3.heap.size w3 W → Calls Try.prog 18 #[.slice ax L cx] W fun e w' => ∃ ta tc da dc, e = .returned (.tuple #[recV r ta tc da dc, .int .i64 0]) ∧ RI w' r ta da ∧ Below W.heap.size W w') := fun W hW => decode_back r Hm.out W _ ax cx L HL.out hL2 (ownsRow_below hown hW (ownsRow_lt hown))
  clear hb3 hown x0 x1 x2 x3 x4 x5 x6 x7 x8 x9 x10 x11 hza HE
  have ka := box1_kept HK3.out
  obtain ⟨⟨x0, x1, x2, x3, x4, x5, x6, x7, x8, x9, x10, x11⟩, _⟩ := rw_cells' ka
  have hza := lt_of_block ka
  clear ka
  go_wp2_with fail
  refine (HF.out _ (box1_below HK3.out)).mono ?_
  rintro e w4 ⟨v, rfl, hown, hb4⟩
  obtain ⟨fx, fc, rfl⟩ := ownsRow_shape hown
  have HSF : Hid (∀ W, Below w4.heap.size w4 W → SlB W fx (frameB r)) := fun W hW => (slB_of_own (show w4.ownsRow w3.heap.size 5 1 (.slice fx n fc) (frameB r).length (bcells (frameB r)) by rw [HN.out]; exact hown)).1.below hW
  have HFN : Hid (fx = none → fc = 0) := by
    rintro rfl
    rcases hown.2 with ⟨h1, _⟩ | ⟨g, cap, cur, h1, _⟩
    · simp at h1; exact h1.2
    · simp at h1
  have HK4 := (show Hid _ from box1_on HK3.out hb4)
  have HD4 := (show Hid _ from HD.out w4 hb4)
  clear hb4 hown x0 x1 x2 x3 x4 x5 x6 x7 x8 x9 x10 x11 hza HF HD
  have ka := box1_kept HK4.out
  obtain ⟨⟨x0, x1, x2, x3, x4, x5, x6, x7, x8, x9, x10, x11⟩, _⟩ := rw_cells' ka
  have hza := lt_of_block ka
  clear ka
  go_wp2_with fail
  refine Calls.mono HD4.out ?_
  rintro e w5 ⟨t2, c2, d2, e2, rfl, hri, hb5⟩
  have HK5 := (show Hid _ from box1_on HK4.out hb5)
  have HA5 : Hid (Below w5.heap.size w5 (w5.alloc (.cells (recC r t2 c2 d2 e2) 31))) := (Below.refl _ _).alloc (Nat.le_refl _) _
  have HC5 := (show Hid _ from HS.out t2 c2 d2 e2 (w5.alloc (.cells (recC r t2 c2 d2 e2) 31)) (box1_below (box1_on HK5.out HA5.out)) (hri.below HA5.out))
  have HRI := (show Hid _ from hri)
  have HB45 := (show Hid _ from hb5)
  clear hb5 hri x0 x1 x2 x3 x4 x5 x6 x7 x8 x9 x10 x11 hza HD4 HS
  have ka := box1_kept HK5.out
  obtain ⟨⟨x0, x1, x2, x3, x4, x5, x6, x7, x8, x9, x10, x11⟩, _⟩ := rw_cells' ka
  have hza := lt_of_block ka
  clear ka
  go_wp2_with fail
  refine Calls.mono HC5.out ?_
  rintro e w6 ⟨rfl, hb6⟩
  have HB56 : Hid (Below (w5.heap.size + 1) (w5.alloc (.cells (recC r t2 c2 d2 e2) 31)) w6) := hb6.mono (by simp)
  have HK6 := (show Hid _ from box1_on HK5.out (box1_below HB56.out))
  have HC6 := (show Hid _ from HR.out t2 c2 d2 e2 w6 (box1_below HK6.out) (HRI.out.below (box1_below HB56.out)))
  have kb := box1_kept HB56.out
  obtain ⟨⟨y0, y1, y2, y3, y4, y5, y6, y7, y8, y9, y10, y11⟩, _⟩ := rw_cells' kb
  have hzb := lt_of_block kb
  clear kb hb6 x0 x1 x2 x3 x4 x5 x6 x7 x8 x9 x10 x11 hza HC5 HA5 HRI
  have ka := box1_kept HK6.out
  obtain ⟨⟨x0, x1, x2, x3, x4, x5, x6, x7, x8, x9, x10, x11⟩, _⟩ := rw_cells' ka
  have hza := lt_of_block ka
  clear ka
  go_wp2_with fail
  refine Calls.mono HC6.out ?_
  rintro e w7 ⟨rfl, hb7⟩
  have HK7 := (show Hid _ from box1_on HK6.out hb7)
  have hb47 : Below w4.heap.size w4 w7 := below_on HB45.out (below_on (box1_below HB56.out) hb7)
  have hbA : Below w7.heap.size w7 (w7.alloc (.cells #[] 5)) := (Below.refl _ _).alloc (Nat.le_refl _) _
  have hslF := HSF.out _ (below_on hb47 hbA)
  have hfn := HFN.out
  have hown0 := own_none_new w7
  have hsz0 : w7.heap.size ≤ (w7.alloc (.cells #[] 5)).heap.size := by simp
  have Hbeh : Hid (∀ W, Below w7.heap.size w7 W → SlB W a l) := fun W hW => HB.out.below (box1_below (box1_on HK7.out hW))
  have HnF := HN.out
  have hnil := Hnil.out
  have hl' : l.length ≤ 10000 := by omega
  clear hb7 hb47 x0 x1 x2 x3 x4 x5 x6 x7 x8 x9 x10 x11 y0 y1 y2 y3 y4 y5 y6 y7 y8 y9 y10 y11 hza hzb HC6 HB45 HB56 HSF HFN HB Hnil
  have ka := box1_kept HK7.out
  obtain ⟨⟨x0, x1, x2, x3, x4, x5, x6, x7, x8, x9, x10, x11⟩, _⟩ := rw_cells' ka
  have hza := lt_of_block ka
  clear ka
  go_wp2_with (at_builtin; go_must (first | (refine wpList_append_slB rfl (.tmp 69) (.tmp 70) rfl w7.heap.size _ 0 [] rfl hown0 fx fc _ (frameB r) HnF.symm rfl hslF hfn (by omega) hsz0 ?_; intro v8 w8 hown8 hb8; have hb78 := hbA.trans hb8; have hbeh := Hbeh.out _ hb78; have hs8 := hb78.size) | (refine wpList_append_slB rfl (.tmp 72) (.tmp 73) rfl w7.heap.size _ _ _ rfl hown8 a ca _ l rfl rfl hbeh hnil (by omega) hs8 ?_; intro v9 w9 hown9 hb9)))
  have HK9 := (show Hid _ from box1_on HK7.out (hb78.trans hb9))
  have HUn := (show Hid _ from unframe_back r Hm.out l w9 w7.heap.size v9 n HnF hn1 hn2 hl' hown9)
  clear hb78 hb9 hown9 hown8 hb8 hown0 hslF hbeh hbA hnil hfn HnF Hbeh hs8 hsz0 x0 x1 x2 x3 x4 x5 x6 x7 x8 x9 x10 x11 hza HN HL Hm
  refine Calls.mono HUn.out ?_
  rintro e w10 ⟨t3, c3, d3, e3, rfl, hri, hb10⟩
  have HK10 := (show Hid _ from box1_on HK9.out hb10)
  have HA10 : Hid (Below w10.heap.size w10 (w10.alloc (.cells (recC r t3 c3 d3 e3) 31))) := (Below.refl _ _).alloc (Nat.le_refl _) _
  have HK11 := (show Hid _ from box1_on HK10.out HA10.out)
  have HC10 := (show Hid _ from HR.out t3 c3 d3 e3 (w10.alloc (.cells (recC r t3 c3 d3 e3) 31)) (box1_below HK11.out) (hri.below HA10.out))
  clear hri hb10 HUn HR HK9
  have ka := box1_kept HK10.out
  obtain ⟨⟨x0, x1, x2, x3, x4, x5, x6, x7, x8, x9, x10, x11⟩, _⟩ := rw_cells' ka
  have hza := lt_of_block ka
  clear ka
  go_wp2_with fail
  refine Calls.mono HC10.out ?_
  rintro e w12 ⟨rfl, hb12⟩
  have HK12 := (show Hid _ from box1_on HK11.out hb12)
  clear hb12 HC10 x0 x1 x2 x3 x4 x5 x6 x7 x8 x9 x10 x11 hza
  go_wp2_with fail
  refine (lives_any _).mono ?_
  rintro e wz ⟨rfl, hbz⟩
  have hfin := box1_below (box1_on HK12.out hbz)
  clear hbz
  go_wp2
  go_ret
  exact ⟨rfl, hfin⟩

end Go.Proofs.Ytjhjicokbdloiaa
