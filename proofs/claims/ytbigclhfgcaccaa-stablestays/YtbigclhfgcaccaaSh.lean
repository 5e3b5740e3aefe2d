/-
  StableStays: a write that is begun.
-/
import Derived.Test.YtbigclhfgcaccaaSb
namespace Go.Proofs.Ytbigclhfgcaccaa
open Go.RowKit

set_option maxRecDepth 100000 in
set_option maxHeartbeats 3000000 in
theorem sw_s4 (A : Nat) (f : UInt8) (a : Option Addr) (c n s j : Nat) (W1 : World) (g : Nat) (t : Op) (d : Dv) (u : Nat → Value) (wr : World) (hu : St7 A f a c n s j u) (h10 : u 10 = .pointer (some ⟨g, 0, none⟩)) (mt : Bool) (h11 : u 11 = .bool mt) (hw : Wd7 s W1 g t d wr) (hK : Keep7 A f d) (k0 : t.kind = 0) (Ln : Nat) (hLn : long t.n = (Ln : Int)) (hp : 0 ≤ t.place) (hpl : I64 t.place) (hm : mt = false) (haw : t.place + Ln ≤ 64 * (A : Int) ∨ 64 * (A : Int) + 64 ≤ t.place) (Q : Exit → Act → World → Prop) (HQ : ∀ c (a : Act) t v w, Q (.panic c) (a.put t v) w → Q (.panic c) a w)
    (hnorm : ∀ u' w' d', St7 A f a c n s j u' → Wd7 s W1 g t d' w' → Keep7 A f d' → Q .normal (frame7 u') w') :
    Code.wp Try.prog (tailOf' 2 body7) Q (frame7 u) wr := by
  obtain ⟨h0, h1, h2, h7, h9⟩ := hu
  rw [frame7_open, h0, h1, h2, h7, h9, h10, h11]
  clear h0 h1 h2 h7 h9 h10 h11
  obtain ⟨kd, th, tp, tn, tf⟩ := t
  dsimp only at *
  subst k0 hm
  have HN : Hid _ := hnorm
  clear hnorm
  have hA := hK.at'
  obtain ⟨y0, y1, y2, y3, y4⟩ := hw.cells
  dsimp only at y0 y1 y2 y3 y4
  conv => arg 2; whnf
  refine wp_seq_k fun K hKK => ?_
  have HK : Hid _ := hKK
  clear hKK
  have HL : Hid _ := long_any ⟨0, th, tp, tn, tf⟩
  dsimp only [opV] at HL
  rw [hLn] at HL
  have hLn2 : Ln ≤ 3000 := by have := long_le tn; omega
  have HSt : Hid (∀ (w3 w4 : World), Dev w4 [] (s + 1) s d → Buf w4 w3.heap.size (List.replicate Ln tf) → Calls Try.prog 16 #[.pointer (some ⟨s + 1, 0, none⟩), .int .i64 th, .int .i64 tp, .slice (some ⟨w3.heap.size, 0, none⟩) Ln Ln] w4 fun e w' => e = .returned (.int .i64 (startE d th tp (List.replicate Ln tf))) ∧ Dev w' [] (s + 1) s (startD d th tp (List.replicate Ln tf)) ∧ Touch (s + 1) s w4 w') := fun w3 w4 hd hB => by
    have := start_any (s + 1) s th tp (some ⟨w3.heap.size, 0, none⟩) Ln (List.replicate Ln tf) d [] w4 hd (fun k hk => by simp at hk) hpl hB.slB0 (by simp; omega)
    rwa [List.length_replicate] at this
  have hK2 := hK.start th tp (List.replicate Ln tf) (fun _ => by rw [List.length_replicate]; omega)
  generalize startD d th tp (List.replicate Ln tf) = d' at *
  generalize startE d th tp (List.replicate Ln tf) = es at *
  have HS : Hid (∀ (d : Dv) W, Wd7 s W1 g ⟨0, th, tp, tn, tf⟩ d W → (fun W => W.cell? ⟨g, 0, none⟩ = some (.int .i64 0) ∧ W.cell? ⟨g, 1, none⟩ = some (.int .i64 th) ∧ W.cell? ⟨g, 2, none⟩ = some (.int .i64 tp) ∧ W.cell? ⟨g, 3, none⟩ = some (.int .i64 tn) ∧ W.cell? ⟨g, 4, none⟩ = some (.int .u8 (tf.toNat : Int)) ∧ Touch (s + 1) s W1 W) W) := fun d W h2 => by
    obtain ⟨y0, y1, y2, y3, y4⟩ := h2.cells
    exact ⟨y0, y1, y2, y3, y4, h2.tc⟩
  go_wp2_with fail
  refine (HL.out wr).mono ?_
  rintro e w2 ⟨rfl, hb2⟩
  have hw2 := hw.below hb2
  clear hw y0 y1 y2 y3 y4 hb2
  obtain ⟨y0, y1, y2, y3, y4⟩ := hw2.cells
  dsimp only at y0 y1 y2 y3 y4
  have hw2d := hw2.below (Below.refl _ _).drew
  clear hw2
  go_wp2_with fail
  go_region_held3 (fun W => W.cell? ⟨g, 0, none⟩ = some (.int .i64 0) ∧ W.cell? ⟨g, 1, none⟩ = some (.int .i64 th) ∧ W.cell? ⟨g, 2, none⟩ = some (.int .i64 tp) ∧ W.cell? ⟨g, 3, none⟩ = some (.int .i64 tn) ∧ W.cell? ⟨g, 4, none⟩ = some (.int .u8 (tf.toNat : Int)) ∧ Touch (s + 1) s W1 W) (exact HS.out _ _ (by assumption)) (first | (go_at_call 22; refine (HL.out _).mono ?_; rintro e w3 ⟨rfl, hb3⟩; have hw3 := hw2d.below hb3) | (go_at_call 17; refine (filled_any Ln tf _ (by omega)).mono ?_; rintro e w4 ⟨rfl, hB4, hz4, hb4⟩; have hw4 := hw3.below hb4) | (go_at_call 16; refine (HSt.out _ _ hw4.dev hB4).mono ?_; rintro e w5 ⟨rfl, hd5, ht5⟩; have hw5 := hw4.touch ht5 hd5))
  clear HS HSt HL hw2d hw3 hw4 y0 y1 y2 y3 y4
  go_wp2_with fail
  refine k7 rfl rfl (HK.out _ _ ?_)
  exact tail7 A f a c n s j W1 g _ d' _ _ ⟨rfl, rfl, rfl, rfl, rfl⟩ hw5 hK2 Q HQ (fun u' w' h1 h2 => HN.out u' w' _ h1 h2 hK2)

end Go.Proofs.Ytbigclhfgcaccaa
