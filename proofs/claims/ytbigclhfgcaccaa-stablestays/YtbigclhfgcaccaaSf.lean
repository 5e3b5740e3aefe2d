/-
  StableStays: what a step does (but for a write).
-/
import Derived.Test.YtbigclhfgcaccaaSb
namespace Go.Proofs.Ytbigclhfgcaccaa
open Go.RowKit

set_option maxRecDepth 100000 in
set_option maxHeartbeats 3000000 in
theorem sw_none (A : Nat) (f : UInt8) (a : Option Addr) (c n s j : Nat) (W1 : World) (g : Nat) (t : Op) (d : Dv) (u : Nat → Value) (wr : World) (hu : St7 A f a c n s j u) (h10 : u 10 = .pointer (some ⟨g, 0, none⟩)) (mt : Bool) (h11 : u 11 = .bool mt) (hw : Wd7 s W1 g t d wr) (hK : Keep7 A f d) (k0 : ¬ t.kind = 0) (k1 : ¬ t.kind = 1) (k2 : ¬ t.kind = 2) (k4 : ¬ t.kind = 4) (Q : Exit → Act → World → Prop) (HQ : ∀ c (a : Act) t v w, Q (.panic c) (a.put t v) w → Q (.panic c) a w)
    (hnorm : ∀ u' w' d', St7 A f a c n s j u' → Wd7 s W1 g t d' w' → Keep7 A f d' → Q .normal (frame7 u') w') :
    Code.wp Try.prog (tailOf' 2 body7) Q (frame7 u) wr := by
  obtain ⟨h0, h1, h2, h7, h9⟩ := hu
  rw [frame7_open, h0, h1, h2, h7, h9, h10, h11]
  clear h0 h1 h2 h7 h9 h10 h11
  obtain ⟨kd, th, tp, tn, tf⟩ := t
  dsimp only at *
  have HN : Hid _ := hnorm
  clear hnorm
  have hA := hK.at'
  obtain ⟨y0, y1, y2, y3, y4⟩ := hw.cells
  dsimp only at y0 y1 y2 y3 y4
  conv => arg 2; whnf
  refine wp_seq_k fun K hKK => ?_
  have HK : Hid _ := hKK
  clear hKK
  go_wp2_with fail
  refine k7 rfl rfl (HK.out _ _ ?_)
  exact tail7 A f a c n s j W1 g _ d _ _ ⟨rfl, rfl, rfl, rfl, rfl⟩ hw hK Q HQ (fun u' w' h1 h2 => HN.out u' w' _ h1 h2 hK)

set_option maxRecDepth 100000 in
set_option maxHeartbeats 3000000 in
theorem sw_fin (A : Nat) (f : UInt8) (a : Option Addr) (c n s j : Nat) (W1 : World) (g : Nat) (t : Op) (d : Dv) (u : Nat → Value) (wr : World) (hu : St7 A f a c n s j u) (h10 : u 10 = .pointer (some ⟨g, 0, none⟩)) (mt : Bool) (h11 : u 11 = .bool mt) (hw : Wd7 s W1 g t d wr) (hK : Keep7 A f d) (k1 : t.kind = 1) (Q : Exit → Act → World → Prop) (HQ : ∀ c (a : Act) t v w, Q (.panic c) (a.put t v) w → Q (.panic c) a w)
    (hnorm : ∀ u' w' d', St7 A f a c n s j u' → Wd7 s W1 g t d' w' → Keep7 A f d' → Q .normal (frame7 u') w') :
    Code.wp Try.prog (tailOf' 2 body7) Q (frame7 u) wr := by
  obtain ⟨h0, h1, h2, h7, h9⟩ := hu
  rw [frame7_open, h0, h1, h2, h7, h9, h10, h11]
  clear h0 h1 h2 h7 h9 h10 h11
  obtain ⟨kd, th, tp, tn, tf⟩ := t
  dsimp only at *
  subst k1
  have HN : Hid _ := hnorm
  clear hnorm
  have hA := hK.at'
  obtain ⟨y0, y1, y2, y3, y4⟩ := hw.cells
  dsimp only at y0 y1 y2 y3 y4
  conv => arg 2; whnf
  refine wp_seq_k fun K hKK => ?_
  have HK : Hid _ := hKK
  clear hKK
  go_wp2_with fail
  refine (finish_any (s + 1) s th d _ wr hw.dev).mono ?_
  rintro e w2 ⟨rfl, hd2, ht2⟩
  have hw2 := hw.touch ht2 hd2
  have hK2 := hK.fin hw.dev.good th 1024
  clear hw
  go_wp2_with fail
  refine k7 rfl rfl (HK.out _ _ ?_)
  exact tail7 A f a c n s j W1 g _ (finD d th 1024) _ _ ⟨rfl, rfl, rfl, rfl, rfl⟩ hw2 hK2 Q HQ (fun u' w' h1 h2 => HN.out u' w' _ h1 h2 hK2)

set_option maxRecDepth 100000 in
set_option maxHeartbeats 3000000 in
theorem sw_crash (A : Nat) (f : UInt8) (a : Option Addr) (c n s j : Nat) (W1 : World) (g : Nat) (t : Op) (d : Dv) (u : Nat → Value) (wr : World) (hu : St7 A f a c n s j u) (h10 : u 10 = .pointer (some ⟨g, 0, none⟩)) (mt : Bool) (h11 : u 11 = .bool mt) (hw : Wd7 s W1 g t d wr) (hK : Keep7 A f d) (kn : I64 t.n) (k2 : t.kind = 2) (Q : Exit → Act → World → Prop) (HQ : ∀ c (a : Act) t v w, Q (.panic c) (a.put t v) w → Q (.panic c) a w)
    (hnorm : ∀ u' w' d', St7 A f a c n s j u' → Wd7 s W1 g t d' w' → Keep7 A f d' → Q .normal (frame7 u') w') :
    Code.wp Try.prog (tailOf' 2 body7) Q (frame7 u) wr := by
  obtain ⟨h0, h1, h2, h7, h9⟩ := hu
  rw [frame7_open, h0, h1, h2, h7, h9, h10, h11]
  clear h0 h1 h2 h7 h9 h10 h11
  obtain ⟨kd, th, tp, tn, tf⟩ := t
  dsimp only at *
  subst k2
  have HN : Hid _ := hnorm
  clear hnorm
  have hA := hK.at'
  obtain ⟨y0, y1, y2, y3, y4⟩ := hw.cells
  dsimp only at y0 y1 y2 y3 y4
  conv => arg 2; whnf
  refine wp_seq_k fun K hKK => ?_
  have HK : Hid _ := hKK
  clear hKK
  go_wp2_with fail
  refine (crash_any (s + 1) s th tn d _ wr hw.dev kn).mono ?_
  rintro e w2 ⟨rfl, hd2, ht2⟩
  have hw2 := hw.touch ht2 hd2
  have hK2 := hK.fin hw.dev.good th tn
  clear hw
  go_wp2_with fail
  refine k7 rfl rfl (HK.out _ _ ?_)
  exact tail7 A f a c n s j W1 g _ (finD d th tn) _ _ ⟨rfl, rfl, rfl, rfl, rfl⟩ hw2 hK2 Q HQ (fun u' w' h1 h2 => HN.out u' w' _ h1 h2 hK2)

set_option maxRecDepth 100000 in
set_option maxHeartbeats 3000000 in
theorem sw_trim0 (A : Nat) (f : UInt8) (a : Option Addr) (c n s j : Nat) (W1 : World) (g : Nat) (t : Op) (d : Dv) (u : Nat → Value) (wr : World) (hu : St7 A f a c n s j u) (h10 : u 10 = .pointer (some ⟨g, 0, none⟩)) (mt : Bool) (h11 : u 11 = .bool mt) (hw : Wd7 s W1 g t d wr) (hK : Keep7 A f d) (k4 : t.kind = 4) (hp : ¬ 64 * (A : Int) < t.place) (Q : Exit → Act → World → Prop) (HQ : ∀ c (a : Act) t v w, Q (.panic c) (a.put t v) w → Q (.panic c) a w)
    (hnorm : ∀ u' w' d', St7 A f a c n s j u' → Wd7 s W1 g t d' w' → Keep7 A f d' → Q .normal (frame7 u') w') :
    Code.wp Try.prog (tailOf' 2 body7) Q (frame7 u) wr := by
  obtain ⟨h0, h1, h2, h7, h9⟩ := hu
  rw [frame7_open, h0, h1, h2, h7, h9, h10, h11]
  clear h0 h1 h2 h7 h9 h10 h11
  obtain ⟨kd, th, tp, tn, tf⟩ := t
  dsimp only at *
  subst k4
  have HN : Hid _ := hnorm
  clear hnorm
  have hA := hK.at'
  obtain ⟨y0, y1, y2, y3, y4⟩ := hw.cells
  dsimp only at y0 y1 y2 y3 y4
  conv => arg 2; whnf
  refine wp_seq_k fun K hKK => ?_
  have HK : Hid _ := hKK
  clear hKK
  go_wp2_with fail
  refine k7 rfl rfl (HK.out _ _ ?_)
  exact tail7 A f a c n s j W1 g _ d _ _ ⟨rfl, rfl, rfl, rfl, rfl⟩ hw hK Q HQ (fun u' w' h1 h2 => HN.out u' w' _ h1 h2 hK)

set_option maxRecDepth 100000 in
set_option maxHeartbeats 3000000 in
theorem sw_trim1 (A : Nat) (f : UInt8) (a : Option Addr) (c n s j : Nat) (W1 : World) (g : Nat) (t : Op) (d : Dv) (u : Nat → Value) (wr : World) (hu : St7 A f a c n s j u) (h10 : u 10 = .pointer (some ⟨g, 0, none⟩)) (mt : Bool) (h11 : u 11 = .bool mt) (hw : Wd7 s W1 g t d wr) (hK : Keep7 A f d) (k4 : t.kind = 4) (hp : 64 * (A : Int) < t.place) (hpl : I64 t.place) (hb : ¬ t.place ≤ 4096) (Q : Exit → Act → World → Prop) (HQ : ∀ c (a : Act) t v w, Q (.panic c) (a.put t v) w → Q (.panic c) a w)
    (hnorm : ∀ u' w' d', St7 A f a c n s j u' → Wd7 s W1 g t d' w' → Keep7 A f d' → Q .normal (frame7 u') w') :
    Code.wp Try.prog (tailOf' 2 body7) Q (frame7 u) wr := by
  obtain ⟨h0, h1, h2, h7, h9⟩ := hu
  rw [frame7_open, h0, h1, h2, h7, h9, h10, h11]
  clear h0 h1 h2 h7 h9 h10 h11
  obtain ⟨kd, th, tp, tn, tf⟩ := t
  dsimp only at *
  subst k4
  have HN : Hid _ := hnorm
  clear hnorm
  have hA := hK.at'
  obtain ⟨y0, y1, y2, y3, y4⟩ := hw.cells
  dsimp only at y0 y1 y2 y3 y4
  conv => arg 2; whnf
  refine wp_seq_k fun K hKK => ?_
  have HK : Hid _ := hKK
  clear hKK
  go_wp2_with fail
  refine (trim_no (s + 1) s tp d _ wr hw.dev hpl (by rw [hK.len]; omega)).mono ?_
  rintro e w2 ⟨rfl, hw2⟩
  obtain rfl := hw2.symm
  go_wp2_with fail
  refine k7 rfl rfl (HK.out _ _ ?_)
  exact tail7 A f a c n s j W1 g _ d _ _ ⟨rfl, rfl, rfl, rfl, rfl⟩ hw hK Q HQ (fun u' w' h1 h2 => HN.out u' w' _ h1 h2 hK)

set_option maxRecDepth 100000 in
set_option maxHeartbeats 3000000 in
theorem sw_trim2 (A : Nat) (f : UInt8) (a : Option Addr) (c n s j : Nat) (W1 : World) (g : Nat) (t : Op) (d : Dv) (u : Nat → Value) (wr : World) (hu : St7 A f a c n s j u) (h10 : u 10 = .pointer (some ⟨g, 0, none⟩)) (mt : Bool) (h11 : u 11 = .bool mt) (hw : Wd7 s W1 g t d wr) (hK : Keep7 A f d) (k4 : t.kind = 4) (hp : 64 * (A : Int) < t.place) (hb : t.place ≤ 4096) (Q : Exit → Act → World → Prop) (HQ : ∀ c (a : Act) t v w, Q (.panic c) (a.put t v) w → Q (.panic c) a w)
    (hnorm : ∀ u' w' d', St7 A f a c n s j u' → Wd7 s W1 g t d' w' → Keep7 A f d' → Q .normal (frame7 u') w') :
    Code.wp Try.prog (tailOf' 2 body7) Q (frame7 u) wr := by
  obtain ⟨h0, h1, h2, h7, h9⟩ := hu
  rw [frame7_open, h0, h1, h2, h7, h9, h10, h11]
  clear h0 h1 h2 h7 h9 h10 h11
  obtain ⟨kd, th, tp, tn, tf⟩ := t
  dsimp only at *
  subst k4
  have HN : Hid _ := hnorm
  clear hnorm
  have hA := hK.at'
  obtain ⟨y0, y1, y2, y3, y4⟩ := hw.cells
  dsimp only at y0 y1 y2 y3 y4
  conv => arg 2; whnf
  refine wp_seq_k fun K hKK => ?_
  have HK : Hid _ := hKK
  clear hKK
  obtain ⟨p, rfl⟩ := Int.eq_ofNat_of_zero_le (show 0 ≤ tp by omega)
  go_wp2_with fail
  refine (trim_any (s + 1) s p d _ wr hw.dev (by rw [hK.len]; omega)).mono ?_
  rintro e w2 ⟨rfl, hd2, ht2⟩
  have hw2 := hw.touch ht2 hd2
  have hK2 := hK.trim p (by omega) (by rw [hK.len]; omega)
  clear hw
  go_wp2_with fail
  refine k7 rfl rfl (HK.out _ _ ?_)
  exact tail7 A f a c n s j W1 g _ (trimD d p) _ _ ⟨rfl, rfl, rfl, rfl, rfl⟩ hw2 hK2 Q HQ (fun u' w' h1 h2 => HN.out u' w' _ h1 h2 hK2)

end Go.Proofs.Ytbigclhfgcaccaa
