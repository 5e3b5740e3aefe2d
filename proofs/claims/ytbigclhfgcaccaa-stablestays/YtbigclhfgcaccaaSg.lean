/-
  StableStays: a write that is not begun.
-/
import Derived.Test.YtbigclhfgcaccaaSb
namespace Go.Proofs.Ytbigclhfgcaccaa
open Go.RowKit

set_option maxRecDepth 100000 in
set_option maxHeartbeats 3000000 in
theorem sw_s1 (A : Nat) (f : UInt8) (a : Option Addr) (c n s j : Nat) (W1 : World) (g : Nat) (t : Op) (d : Dv) (u : Nat → Value) (wr : World) (hu : St7 A f a c n s j u) (h10 : u 10 = .pointer (some ⟨g, 0, none⟩)) (mt : Bool) (h11 : u 11 = .bool mt) (hw : Wd7 s W1 g t d wr) (hK : Keep7 A f d) (k0 : t.kind = 0) (hl : ¬ 0 ≤ long t.n) (Q : Exit → Act → World → Prop) (HQ : ∀ c (a : Act) t v w, Q (.panic c) (a.put t v) w → Q (.panic c) a w)
    (hnorm : ∀ u' w' d', St7 A f a c n s j u' → Wd7 s W1 g t d' w' → Keep7 A f d' → Q .normal (frame7 u') w') :
    Code.wp Try.prog (tailOf' 2 body7) Q (frame7 u) wr := by
  obtain ⟨h0, h1, h2, h7, h9⟩ := hu
  rw [frame7_open, h0, h1, h2, h7, h9, h10, h11]
  clear h0 h1 h2 h7 h9 h10 h11
  obtain ⟨kd, th, tp, tn, tf⟩ := t
  dsimp only at *
  subst k0
  have HN : Hid _ := hnorm
  clear hnorm
  have hA := hK.at'
  obtain ⟨y0, y1, y2, y3, y4⟩ := hw.cells
  dsimp only at y0 y1 y2 y3 y4
  conv => arg 2; whnf
  refine wp_seq_k fun K hKK => ?_
  have HK : Hid _ := hKK
  clear hKK
  have HL : Hid _ := long_any ⟨0, th, tp, tn, tf⟩
  dsimp only [opV] at HL
  go_wp2_with fail
  refine (HL.out wr).mono ?_
  rintro e w2 ⟨rfl, hb2⟩
  have hw2 := hw.below hb2
  clear hw y0 y1 y2 y3 y4 hb2
  obtain ⟨y0, y1, y2, y3, y4⟩ := hw2.cells
  dsimp only at y0 y1 y2 y3 y4
  go_wp2_with fail
  refine k7 rfl rfl (HK.out _ _ ?_)
  exact tail7 A f a c n s j W1 g _ d _ _ ⟨rfl, rfl, rfl, rfl, rfl⟩ hw2 hK Q HQ (fun u' w' h1 h2 => HN.out u' w' _ h1 h2 hK)

set_option maxRecDepth 100000 in
set_option maxHeartbeats 3000000 in
theorem sw_s2 (A : Nat) (f : UInt8) (a : Option Addr) (c n s j : Nat) (W1 : World) (g : Nat) (t : Op) (d : Dv) (u : Nat → Value) (wr : World) (hu : St7 A f a c n s j u) (h10 : u 10 = .pointer (some ⟨g, 0, none⟩)) (mt : Bool) (h11 : u 11 = .bool mt) (hw : Wd7 s W1 g t d wr) (hK : Keep7 A f d) (k0 : t.kind = 0) (hl : 0 ≤ long t.n) (hp : ¬ 0 ≤ t.place) (Q : Exit → Act → World → Prop) (HQ : ∀ c (a : Act) t v w, Q (.panic c) (a.put t v) w → Q (.panic c) a w)
    (hnorm : ∀ u' w' d', St7 A f a c n s j u' → Wd7 s W1 g t d' w' → Keep7 A f d' → Q .normal (frame7 u') w') :
    Code.wp Try.prog (tailOf' 2 body7) Q (frame7 u) wr := by
  obtain ⟨h0, h1, h2, h7, h9⟩ := hu
  rw [frame7_open, h0, h1, h2, h7, h9, h10, h11]
  clear h0 h1 h2 h7 h9 h10 h11
  obtain ⟨kd, th, tp, tn, tf⟩ := t
  dsimp only at *
  subst k0
  have HN : Hid _ := hnorm
  clear hnorm
  have hA := hK.at'
  obtain ⟨y0, y1, y2, y3, y4⟩ := hw.cells
  dsimp only at y0 y1 y2 y3 y4
  conv => arg 2; whnf
  refine wp_seq_k fun K hKK => ?_
  have HK : Hid _ := hKK
  clear hKK
  have HL : Hid _ := long_any ⟨0, th, tp, tn, tf⟩
  dsimp only [opV] at HL
  go_wp2_with fail
  refine (HL.out wr).mono ?_
  rintro e w2 ⟨rfl, hb2⟩
  have hw2 := hw.below hb2
  clear hw y0 y1 y2 y3 y4 hb2
  obtain ⟨y0, y1, y2, y3, y4⟩ := hw2.cells
  dsimp only at y0 y1 y2 y3 y4
  go_wp2_with fail
  refine k7 rfl rfl (HK.out _ _ ?_)
  exact tail7 A f a c n s j W1 g _ d _ _ ⟨rfl, rfl, rfl, rfl, rfl⟩ hw2 hK Q HQ (fun u' w' h1 h2 => HN.out u' w' _ h1 h2 hK)

set_option maxRecDepth 100000 in
set_option maxHeartbeats 3000000 in
theorem sw_s3 (A : Nat) (f : UInt8) (a : Option Addr) (c n s j : Nat) (W1 : World) (g : Nat) (t : Op) (d : Dv) (u : Nat → Value) (wr : World) (hu : St7 A f a c n s j u) (h10 : u 10 = .pointer (some ⟨g, 0, none⟩)) (mt : Bool) (h11 : u 11 = .bool mt) (hw : Wd7 s W1 g t d wr) (hK : Keep7 A f d) (k0 : t.kind = 0) (hl : 0 ≤ long t.n) (hp : 0 ≤ t.place) (hm : mt = true) (Q : Exit → Act → World → Prop) (HQ : ∀ c (a : Act) t v w, Q (.panic c) (a.put t v) w → Q (.panic c) a w)
    (hnorm : ∀ u' w' d', St7 A f a c n s j u' → Wd7 s W1 g t d' w' → Keep7 A f d' → Q .normal (frame7 u') w') :
    Code.wp Try.prog (tailOf' 2 body7) Q (frame7 u) wr := by
  obtain ⟨h0, h1, h2, h7, h9⟩ := hu
  rw [frame7_open, h0, h1, h2, h7, h9, h10, h11]
  clear h0 h1 h2 h7 h9 h10 h11
  obtain ⟨kd, th, tp, tn, tf⟩ := t
  dsimp only at *
  subst k0 hm
  have HN : Hid _ := hnorm
  clear hnorm
  have hA := hK.at'
  obtain ⟨y0, y1, y2, y3, y4⟩ := hw.cells
  dsimp only at y0 y1 y2 y3 y4
  conv => arg 2; whnf
  refine wp_seq_k fun K hKK => ?_
  have HK : Hid _ := hKK
  clear hKK
  have HL : Hid _ := long_any ⟨0, th, tp, tn, tf⟩
  dsimp only [opV] at HL
  go_wp2_with fail
  refine (HL.out wr).mono ?_
  rintro e w2 ⟨rfl, hb2⟩
  have hw2 := hw.below hb2
  clear hw y0 y1 y2 y3 y4 hb2
  obtain ⟨y0, y1, y2, y3, y4⟩ := hw2.cells
  dsimp only at y0 y1 y2 y3 y4
  go_wp2_with fail
  refine k7 rfl rfl (HK.out _ _ ?_)
  exact tail7 A f a c n s j W1 g _ d _ _ ⟨rfl, rfl, rfl, rfl, rfl⟩ hw2 hK Q HQ (fun u' w' h1 h2 => HN.out u' w' _ h1 h2 hK)

end Go.Proofs.Ytbigclhfgcaccaa
