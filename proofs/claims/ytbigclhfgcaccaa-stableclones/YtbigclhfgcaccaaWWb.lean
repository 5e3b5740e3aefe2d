/-
  The first loop of StableWhole: a step that begins a write.
-/
import Derived.Test.YtbigclhfgcaccaaWWa
import Derived.Deep.RegionHeld3
namespace Go.Proofs.Ytbigclhfgcaccaa
open Go.RowKit

set_option maxRecDepth 100000 in
set_option maxHeartbeats 3000000 in
theorem round_start (n : Nat) (k : Int) (c : Nat) (l : List Op) (s : Nat) (W1 : World) (b bo : Nat) (j : Nat) (hlt : j < l.length) (h60 : j < 60) (u : Nat → Value) (wr : World) (hu : Sl5 n k (some ⟨b, bo, none⟩) c l s u) (h9 : u 9 = .int .i64 (j : Int)) (d : Dv) (hd : Dev wr [] (s + 3) (s + 2) d) (hdn : d.b.length = n) (ht : Touch (s + 3) (s + 2) W1 wr)
    (t : Op) (HA : ∀ W, Touch (s + 3) (s + 2) W1 W → OpAt W b (bo + j * 5) t) (hpl : I64 t.place) (hk0 : t.kind = 0) (Ln : Nat) (hLn : long t.n = (Ln : Int)) (Q0 : Exit → Act → World → Prop) :
    Code.wp Try.prog loop5a (Exit.then (fun x w'' => I5a n k (some ⟨b, bo, none⟩) c l s W1 (j + 1) x w'') Q0) (frame5 u) wr := by
  obtain ⟨h3, h4, h5, h6, h7⟩ := hu
  obtain ⟨kd, th, tp, tn, tf⟩ := t
  dsimp only at *
  rw [frame5_open, h3, h4, h5, h6, h7, h9]
  clear h3 h4 h5 h6 h7 h9
  have HS : Hid (∀ W, Touch (s + 3) (s + 2) W1 W → W.cell? ⟨b, bo + j * 5, none⟩ = some (.int .i64 kd) ∧ W.cell? ⟨b, bo + j * 5 + 1, none⟩ = some (.int .i64 th) ∧ W.cell? ⟨b, bo + j * 5 + 2, none⟩ = some (.int .i64 tp) ∧ W.cell? ⟨b, bo + j * 5 + 3, none⟩ = some (.int .i64 tn) ∧ W.cell? ⟨b, bo + j * 5 + 4, none⟩ = some (.int .u8 (tf.toNat : Int)) ∧ Touch (s + 3) (s + 2) W1 W) := fun W hW => ⟨(HA W hW).c0, (HA W hW).c1, (HA W hW).c2, (HA W hW).c3, (HA W hW).c4, hW⟩
  clear HA
  obtain ⟨s0, s1, s2, s3, s4, _⟩ := HS.out _ ht
  conv => arg 2; whnf
  subst hk0
  have HL := long_any ⟨0, th, tp, tn, tf⟩
  dsimp only [opV] at HL
  rw [hLn] at HL
  have hLn2 : Ln ≤ 3000 := by have := long_le tn; omega
  have HSt : ∀ (w3 w4 : World), Dev w4 [] (s + 3) (s + 2) d → Buf w4 w3.heap.size (List.replicate Ln tf) → Calls Try.prog 16 #[.pointer (some ⟨s + 3, 0, none⟩), .int .i64 th, .int .i64 tp, .slice (some ⟨w3.heap.size, 0, none⟩) Ln Ln] w4 fun e w' => e = .returned (.int .i64 (startE d th tp (List.replicate Ln tf))) ∧ Dev w' [] (s + 3) (s + 2) (startD d th tp (List.replicate Ln tf)) ∧ Touch (s + 3) (s + 2) w4 w' := fun w3 w4 hd hB => by
    have := start_any (s + 3) (s + 2) th tp (some ⟨w3.heap.size, 0, none⟩) Ln (List.replicate Ln tf) d [] w4 hd (fun k hk => by simp at hk) hpl hB.slB0 (by simp; omega)
    rwa [List.length_replicate] at this
  have hbd := startD_b d th tp (List.replicate Ln tf)
  generalize startD d th tp (List.replicate Ln tf) = d' at *
  generalize startE d th tp (List.replicate Ln tf) = es at *
  go_wp2_with fail
  refine (HL wr).mono ?_
  rintro e w2 ⟨rfl, hb2⟩
  have ht2d := (ht.trans (Touch.of hb2)).drew
  have hd2d := (hd.below hb2).below (Below.refl _ _).drew
  have ht2 := ht.trans (Touch.of hb2)
  clear s0 s1 s2 s3 s4 hb2 ht hd
  obtain ⟨s0, s1, s2, s3, s4, _⟩ := HS.out _ ht2
  clear ht2
  go_wp2_with fail
  go_region_held3 (fun W => W.cell? ⟨b, bo + j * 5, none⟩ = some (.int .i64 0) ∧ W.cell? ⟨b, bo + j * 5 + 1, none⟩ = some (.int .i64 th) ∧ W.cell? ⟨b, bo + j * 5 + 2, none⟩ = some (.int .i64 tp) ∧ W.cell? ⟨b, bo + j * 5 + 3, none⟩ = some (.int .i64 tn) ∧ W.cell? ⟨b, bo + j * 5 + 4, none⟩ = some (.int .u8 (tf.toNat : Int)) ∧ Touch (s + 3) (s + 2) W1 W) (exact HS.out _ (by assumption)) (first | (go_at_call 22; refine (HL _).mono ?_; rintro e w3 ⟨rfl, hb3⟩; have ht3 := ht2d.trans (Touch.of hb3); have hd3 := hd2d.below hb3) | (go_at_call 17; refine (filled_any Ln tf _ (by omega)).mono ?_; rintro e w4 ⟨rfl, hB4, hz4, hb4⟩; have ht4 := ht3.trans (Touch.of hb4); have hd4 := hd3.below hb4) | (go_at_call 16; refine (HSt _ _ hd4 hB4).mono ?_; rintro e w5 ⟨rfl, hd5, ht5⟩; have ht6 := ht4.trans ht5))
  clear HL HSt s0 s1 s2 s3 s4
  obtain ⟨s0, s1, s2, s3, s4, _⟩ := HS.out _ ht6
  clear s1 s2 s3 s4 HS
  go_wp2_with fail
  exact ⟨_, frame5_lit _ rfl rfl, ⟨rfl, rfl, rfl, rfl, rfl⟩, by show Value.int .i64 _ = _; simp, d', hd5, by rw [hbd]; exact hdn, ht6⟩

end Go.Proofs.Ytbigclhfgcaccaa
