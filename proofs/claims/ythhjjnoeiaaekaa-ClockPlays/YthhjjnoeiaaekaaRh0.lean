/-
  one: one call on both sides, Put.
-/
import Derived.Test.YthhjjnoeiaaekaaRg
namespace Go.Proofs.Ythhjjnoeiaaekaa
open Go.RowKit

set_option maxRecDepth 20000 in
set_option maxHeartbeats 8000000 in
theorem one_0 (a : Option Addr) (c : Nat) (r : Rg) (o : OpL) (w : World) (h : SlF w a r.fr) (hl : r.fr.length ≤ 100) (_ : o.Wf) (hkd : o.kind = 0) :
    Calls Try.prog 12 #[rgV a c r, .agg o.cells] w fun e w' => ∃ a' c' r', e = .returned (.tuple #[rgV a' c' r', .bool true]) ∧ SlF w' a' r'.fr ∧ Below w.heap.size w w' ∧ (MayR r → MayR r') := by
  have hmx : r.fr.length ≤ maxLen := by unfold maxLen; omega
  simp only [OpL.cells]
  have HKD := toHid hkd
  clear hkd
  go_enter Try.func12, Try.ntmps12
  go_wp2_with fail
  obtain ⟨j0, j1, j2, j3, j4⟩ := al3 w (.cells (rgC a c r) 24) (.cells #[.int .i64 o.kind, .int .i64 o.page, .int .i64 o.n] 34) (.cells #[.slice none 0 0, .int .i64 0] 24)
  generalize World.alloc (World.alloc (World.alloc _ _) _) _ = W at j0 j1 j2 j3 j4 ⊢
  have hsW := h.below j4
  refine Calls.mono (copy13 a c r W hsW (by omega)) ?_
  rintro e w1 ⟨a6, c6, rfl, hs6, hb1⟩
  obtain ⟨k0, k1, k2⟩ := al1 w1 (.cells #[.slice a6 r.fr.length c6, .int .i64 r.hand] 24)
  have B2 := toHid (box_in' (box_in' j0 hb1) k2)
  have B3 := toHid (box_in' (box_in' j1 hb1) k2)
  have B4 := toHid (box_in' (box_in' j2 hb1) k2)
  have B6 := toHid k0
  have S2 := toHid ((hsW.below hb1).below k2)
  have S6 := toHid (hs6.below k2)
  have HBl := toHid (below_on (below_on j4 hb1) k2)
  have hw1 : w.heap.size + 3 ≤ w1.heap.size := by have := hb1.size; omega
  clear hsW hs6 hb1 k0 k1 k2 j0 j1 j2 j3 j4 h
  go_wp2_with fail
  generalize World.alloc _ _ = W1 at B2 B3 B4 B6 S2 S6 HBl ⊢
  obtain ⟨p0, p1, p2, p3, p4⟩ := cell2 B2.out
  generalize w1.heap.size = P6 at B6 hw1 ⊢
  have hP6 : P6 < W1.heap.size := (Array.getElem?_eq_some_iff.mp B6.out).1
  rename_i Q' K hK
  have key : ∀ P7 P9 W2, Hid (OneS w W2 P6 P7 P9 a c a6 c6 a c a c r r r o) → Exit.then K Q' Exit.normal ⟨#[rgV a c r, .agg #[.int .i64 o.kind, .int .i64 o.page, .int .i64 o.n], .pointer (some ⟨w.heap.size, 0, none⟩), .pointer (some ⟨w.heap.size + 1, 0, none⟩), .pointer (some ⟨w.heap.size + 1 + 1, 0, none⟩), .bool false, .pointer (some ⟨P6, 0, none⟩), .pointer (some ⟨P7, 0, none⟩), .int .i64 0, .pointer (some ⟨P9, 0, none⟩), .int .i64 0, undef, undef, .agg #[.slice a r.fr.length c, .int .i64 r.hand], rgV a6 c6 r, .agg #[.slice a r.fr.length c, .int .i64 r.hand], .agg #[.slice a r.fr.length c, .int .i64 r.hand], undef, undef, undef, undef, undef, undef, undef, undef, undef, undef, undef, undef, undef, undef, undef, undef, undef, undef, undef, undef, undef, undef, undef, undef, undef, undef, undef, undef, undef, undef, undef, undef, undef, undef, undef, undef, undef, undef, undef, undef, undef, undef, undef, undef, undef, undef, undef, undef, undef, undef, undef, undef, undef, undef, undef, undef, undef, undef, undef, undef, undef, undef, undef, undef, undef, undef, undef, undef, undef, undef, undef, undef, undef, undef, undef, undef, undef, undef, undef, undef, undef, undef, undef, undef, undef, undef, undef, undef, undef, undef, undef, undef, undef, undef, undef, undef, undef, undef, undef, undef, undef, undef, undef, undef, undef, undef, undef, undef, undef, undef, undef, undef, undef, undef, undef, undef, undef, undef], []⟩ W2 := by
    intro P7 P9 W2 HS
    have n71 : ¬ P7 = w.heap.size := by have := HS.out.l6; have := HS.out.l7; omega
    have n72 : ¬ P7 = w.heap.size + 1 := by have := HS.out.l6; have := HS.out.l7; omega
    have n73 : ¬ P7 = P6 := by have := HS.out.l7; omega
    have n91 : ¬ P9 = w.heap.size := by have := HS.out.l6; have := HS.out.l9; omega
    have n92 : ¬ P9 = w.heap.size + 1 := by have := HS.out.l6; have := HS.out.l9; omega
    have n93 : ¬ P9 = P6 := by have := HS.out.l9; omega
    have n94 : ¬ P7 = P9 := HS.out.ne
    clear B2 B3 B4 B6 S2 S6 HBl p0 p1 p2 p3 p4 hP6
    obtain ⟨e20, e21, e22, e23, e24⟩ := cell2 HS.out.b2
    obtain ⟨e30, e31, e32, e33, e34, e35, e36⟩ := cell3 HS.out.b3
    obtain ⟨e60, e61, e62, e63, e64⟩ := cell2 HS.out.b6
    obtain ⟨e70, e71, e72, e73, e74⟩ := cell2 HS.out.b7
    obtain ⟨e90, e91, e92, e93, e94⟩ := cell2 HS.out.b9
    rw [HKD.out] at e30
    go_wp2_with fail
    refine Calls.mono (put_any a6 c6 r o.page _ HS.out.s6 hmx) ?_
    rintro e w3 ⟨a7, c7, rfl, hs7, hb3⟩
    have hXl := putR_len o.page hl
    obtain ⟨X, xx, hX⟩ : ∃ X xx, Hid (putR r o.page = (X, xx)) := ⟨_, _, toHid rfl⟩
    have HXM := toHid (show xx = 0 → MayR X from fun e => by have := put_may (p := o.page) (r := r) (by rw [hX.out]; exact e); rw [hX.out] at this; exact this)
    rw [hX.out] at hs7 hXl ⊢
    simp only at hs7 hXl ⊢
    have HS3 := toHid (HS.out.below hb3)
    have HS4 := toHid (HS3.out.set7 (c' := c7) hs7)
    clear HS
    clear e20 e21 e22 e23 e24 e30 e31 e32 e33 e34 e35 e36 e60 e61 e62 e63 e64 e70 e71 e72 e73 e74 e90 e91 e92 e93 e94
    have HS := HS3
    clear HS3 hs7 hb3
    obtain ⟨e20, e21, e22, e23, e24⟩ := cell2 HS.out.b2
    obtain ⟨e30, e31, e32, e33, e34, e35, e36⟩ := cell3 HS.out.b3
    obtain ⟨e60, e61, e62, e63, e64⟩ := cell2 HS.out.b6
    obtain ⟨e70, e71, e72, e73, e74⟩ := cell2 HS.out.b7
    obtain ⟨e90, e91, e92, e93, e94⟩ := cell2 HS.out.b9
    go_wp2_with fail
    generalize World.setCell (World.setCell _ _ _) _ _ = W4 at HS4 ⊢
    clear HS
    clear e20 e21 e22 e23 e24 e30 e31 e32 e33 e34 e35 e36 e60 e61 e62 e63 e64 e70 e71 e72 e73 e74 e90 e91 e92 e93 e94
    have HS := HS4
    clear HS4
    obtain ⟨e20, e21, e22, e23, e24⟩ := cell2 HS.out.b2
    obtain ⟨e30, e31, e32, e33, e34, e35, e36⟩ := cell3 HS.out.b3
    obtain ⟨e60, e61, e62, e63, e64⟩ := cell2 HS.out.b6
    obtain ⟨e70, e71, e72, e73, e74⟩ := cell2 HS.out.b7
    obtain ⟨e90, e91, e92, e93, e94⟩ := cell2 HS.out.b9
    refine Calls.mono (refput_any a c r o.page _ HS.out.s2 hmx) ?_
    rintro e w5 ⟨a9, c9, rfl, hs9, hb5⟩
    rw [hX.out] at hs9 ⊢
    simp only at hs9 ⊢
    have HS5 := toHid (HS.out.below hb5)
    have HS6 := toHid (HS5.out.set9 (c' := c9) hs9)
    clear HS
    clear e20 e21 e22 e23 e24 e30 e31 e32 e33 e34 e35 e36 e60 e61 e62 e63 e64 e70 e71 e72 e73 e74 e90 e91 e92 e93 e94
    have HS := HS5
    clear HS5 hs9 hb5
    obtain ⟨e20, e21, e22, e23, e24⟩ := cell2 HS.out.b2
    obtain ⟨e30, e31, e32, e33, e34, e35, e36⟩ := cell3 HS.out.b3
    obtain ⟨e60, e61, e62, e63, e64⟩ := cell2 HS.out.b6
    obtain ⟨e70, e71, e72, e73, e74⟩ := cell2 HS.out.b7
    obtain ⟨e90, e91, e92, e93, e94⟩ := cell2 HS.out.b9
    go_wp2_with fail
    generalize World.setCell (World.setCell _ _ _) _ _ = W6 at HS6 ⊢
    clear HS
    clear e20 e21 e22 e23 e24 e30 e31 e32 e33 e34 e35 e36 e60 e61 e62 e63 e64 e70 e71 e72 e73 e74 e90 e91 e92 e93 e94
    have HS := HS6
    clear HS6
    have h16 := HS.out.l6
    have h17 := HS.out.l7
    have h19 := HS.out.l9
    have HD := toHid (HS.out.below ((Below.refl _ _).drew : Below W6.heap.size W6 W6.drew))
    have hAt : atR r o.page = atR r o.page := rfl
    clear hAt
    obtain ⟨at_, hat_⟩ : ∃ x, Hid (atR r o.page = x) := ⟨_, toHid rfl⟩
    have hS0 : W6.drew.cell? ⟨w.heap.size, 0, none⟩ = some (.slice a r.fr.length c) ∧ W6.drew.cell? ⟨w.heap.size, 1, none⟩ = some (.int .i64 r.hand) ∧ W6.drew.cell? ⟨w.heap.size + 1, 1, none⟩ = some (.int .i64 o.page) ∧ W6.drew.cell? ⟨P6, 0, none⟩ = some (.slice a6 r.fr.length c6) ∧ W6.drew.cell? ⟨P6, 1, none⟩ = some (.int .i64 r.hand) ∧ W6.drew.cell? ⟨P7, 0, none⟩ = some (.slice a7 X.fr.length c7) ∧ W6.drew.cell? ⟨P7, 1, none⟩ = some (.int .i64 X.hand) ∧ W6.drew.cell? ⟨P9, 0, none⟩ = some (.slice a9 X.fr.length c9) ∧ W6.drew.cell? ⟨P9, 1, none⟩ = some (.int .i64 X.hand) := by
      obtain ⟨e20, e21, -⟩ := cell2 HD.out.b2
      obtain ⟨-, e31, -⟩ := cell3 HD.out.b3
      obtain ⟨e60, e61, -⟩ := cell2 HD.out.b6
      obtain ⟨e70, e71, -⟩ := cell2 HD.out.b7
      obtain ⟨e90, e91, -⟩ := cell2 HD.out.b9
      exact ⟨e20, e21, e31, e60, e61, e70, e71, e90, e91⟩
    have HK := toHid (show ∀ W, OneS w W P6 P7 P9 a c a6 c6 a7 c7 a9 c9 r X X o → (W.cell? ⟨w.heap.size, 0, none⟩ = some (.slice a r.fr.length c) ∧ W.cell? ⟨w.heap.size, 1, none⟩ = some (.int .i64 r.hand) ∧ W.cell? ⟨w.heap.size + 1, 1, none⟩ = some (.int .i64 o.page) ∧ W.cell? ⟨P6, 0, none⟩ = some (.slice a6 r.fr.length c6) ∧ W.cell? ⟨P6, 1, none⟩ = some (.int .i64 r.hand) ∧ W.cell? ⟨P7, 0, none⟩ = some (.slice a7 X.fr.length c7) ∧ W.cell? ⟨P7, 1, none⟩ = some (.int .i64 X.hand) ∧ W.cell? ⟨P9, 0, none⟩ = some (.slice a9 X.fr.length c9) ∧ W.cell? ⟨P9, 1, none⟩ = some (.int .i64 X.hand)) from fun W HD => by
      obtain ⟨e20, e21, -⟩ := cell2 HD.b2
      obtain ⟨-, e31, -⟩ := cell3 HD.b3
      obtain ⟨e60, e61, -⟩ := cell2 HD.b6
      obtain ⟨e70, e71, -⟩ := cell2 HD.b7
      obtain ⟨e90, e91, -⟩ := cell2 HD.b9
      exact ⟨e20, e21, e31, e60, e61, e70, e71, e90, e91⟩)
    have hX1 : X.fr.length ≤ 1000000 := by omega
    have tok : True := trivial
    clear HS
    go_region_held3 (fun W => W.cell? ⟨w.heap.size, 0, none⟩ = some (.slice a r.fr.length c) ∧ W.cell? ⟨w.heap.size, 1, none⟩ = some (.int .i64 r.hand) ∧ W.cell? ⟨w.heap.size + 1, 1, none⟩ = some (.int .i64 o.page) ∧ W.cell? ⟨P6, 0, none⟩ = some (.slice a6 r.fr.length c6) ∧ W.cell? ⟨P6, 1, none⟩ = some (.int .i64 r.hand) ∧ W.cell? ⟨P7, 0, none⟩ = some (.slice a7 X.fr.length c7) ∧ W.cell? ⟨P7, 1, none⟩ = some (.int .i64 X.hand) ∧ W.cell? ⟨P9, 0, none⟩ = some (.slice a9 X.fr.length c9) ∧ W.cell? ⟨P9, 1, none⟩ = some (.int .i64 X.hand)) (with_reducible assumption) (first
      | (go_at_call 28; have tok2 := tok; clear tok tok2; refine (same_eq a7 a9 c7 c9 X _ HD.out.s7 HD.out.s9 hX1).mono ?_; rintro e v1 ⟨rfl, hb1⟩; have HD1 := toHid (HD.out.below hb1); have hS1 := HK.out _ HD1.out; clear hb1)
      | (go_at_call 28; refine (same_eq a6 a c6 c r _ HD1.out.s6 HD1.out.s2 (by omega)).mono ?_; rintro e v2 ⟨rfl, hb2⟩; have HD2 := toHid (HD1.out.below hb2); have hS2 := HK.out _ HD2.out; clear hb2)
      | (go_at_call 19; refine (at_any a6 c6 r o.page _ HD2.out.s6 hmx).mono ?_; rintro e v3 ⟨rfl, hb3⟩; rw [hat_.out]; have HD3 := toHid (HD2.out.below hb3); have hS3 := HK.out _ HD3.out; clear hb3)
      | (go_at_call 29; refine (refat_any a c r o.page _ HD3.out.s2 hmx).mono ?_; rintro e v4 ⟨rfl, hb4⟩; rw [hat_.out]; have HD4 := toHid (HD3.out.below hb4); have hS4 := HK.out _ HD4.out; clear hb4))
    all_goals
      clear hS0 hS1 hS2 hS3 hS4 HD HD1 HD2 HD3 HK
      obtain ⟨e20, e21, e22, e23, e24⟩ := cell2 HD4.out.b2
      obtain ⟨e40, e41, e42, e43, e44⟩ := cell2 HD4.out.b4
      obtain ⟨e70, e71, e72, e73, e74⟩ := cell2 HD4.out.b7
      by_cases hx0 : xx = 0
      · have hXM := HXM.out hx0
        rw [hx0]
        clear hx0 HXM
        have HXM := toHid hXM
        clear hXM
        go_wp2
        obtain ⟨r0, r1, -⟩ := cell2 (ring_set (u := .slice a7 X.fr.length c7) (v := .int .i64 X.hand) HD4.out.b4)
        refine bodyPost_ret (v := .tuple #[rgV a7 c7 X, .bool true]) (by simp [results, Try.results12, go_sem, r0, r1]) rfl ?_
        exact ⟨a7, c7, X, rfl, slF_two HD4.out.s7 HD4.out.b4, below_two HD4.out.bel (by omega), fun _ => HXM.out⟩
      · have hx1 : (xx == 0) = false := by simpa using hx0
        go_wp2
        obtain ⟨r0, r1, -⟩ := cell2 (ring_set (u := .slice a r.fr.length c) (v := .int .i64 r.hand) HD4.out.b4)
        refine bodyPost_ret (v := .tuple #[rgV a c r, .bool true]) (by simp [results, Try.results12, go_sem, r0, r1]) rfl ?_
        exact ⟨a, c, r, rfl, slF_two HD4.out.s2 HD4.out.b4, below_two HD4.out.bel (by omega), fun h => h⟩
  go_region
  all_goals
    obtain ⟨m0, m1, m2, m3⟩ := al2 W1 (.cells #[.slice a r.fr.length c, .int .i64 r.hand] 24) (.cells #[.slice a r.fr.length c, .int .i64 r.hand] 24)
    have m4 : Below W1.heap.size W1 (((W1.alloc (.cells #[.slice a r.fr.length c, .int .i64 r.hand] 24)).alloc (.cells #[.slice a r.fr.length c, .int .i64 r.hand] 24)).drew) := m3.drew
    first
      | exact key W1.heap.size (W1.heap.size + 1) _ (toHid ⟨box_in' B2.out m4, box_in' B3.out m4, box_in' B4.out m4, box_in' B6.out m4, m0, m1, S2.out.below m4, S6.out.below m4, S2.out.below m4, S2.out.below m4, by omega, by omega, by omega, by omega, below_on HBl.out m4⟩)
      | exact key (W1.heap.size + 1) W1.heap.size _ (toHid ⟨box_in' B2.out m4, box_in' B3.out m4, box_in' B4.out m4, box_in' B6.out m4, m1, m0, S2.out.below m4, S6.out.below m4, S2.out.below m4, S2.out.below m4, by omega, by omega, by omega, by omega, below_on HBl.out m4⟩)
end Go.Proofs.Ythhjjnoeiaaekaa
