/-
  StableStays behind its first write.
-/
import Derived.Test.YtbigclhfgcaccaaSj
namespace Go.Proofs.Ytbigclhfgcaccaa
open Go.RowKit

set_option maxRecDepth 100000 in
set_option maxHeartbeats 3000000 in
theorem rest7_wp (A : Nat) (hA : A ≤ 63) (f : UInt8) (a : Option Addr) (c : Nat) (l : List Op) (w W1 : World) (h : SlO w a l) (hB1 : Below w.heap.size w W1) (hz : W1.heap.size = w.heap.size + 2) (hd : Dev W1 [] (w.heap.size + 1) w.heap.size (dev0 4096))
    (u : Nat → Value) (h0 : u 0 = .int .i64 (A : Int)) (h1 : u 1 = .int .u8 (f.toNat : Int)) (h2 : u 2 = .slice a l.length c) (h7 : u 7 = .pointer (some ⟨w.heap.size + 1, 0, none⟩)) :
    Code.wp Try.prog rest7 (bodyPost Try.prog Try.f7 fun e w'' => e = .returned (.bool true) ∧ Below w.heap.size w w'') (frame7 u) W1 := by
  rw [frame7_open, h0, h1, h2, h7]
  clear h0 h1 h2 h7
  obtain ⟨g1, g2, g3⟩ := first7 4096 A hA rfl f
  have HBW : Hid (∀ W, Touch (w.heap.size + 1) w.heap.size W1 W → Below w.heap.size w W) := fun W hW => hB1.trans (hW.below (by omega) (by omega) (by omega))
  have HSt : Hid (∀ (w3 w4 : World), Dev w4 [] (w.heap.size + 1) w.heap.size (dev0 4096) → Buf w4 w3.heap.size (List.replicate 64 f) → Calls Try.prog 16 #[.pointer (some ⟨w.heap.size + 1, 0, none⟩), .int .i64 0, .int .i64 (64 * (A : Int)), .slice (some ⟨w3.heap.size, 0, none⟩) 64 64] w4 fun e w' => e = .returned (.int .i64 (startE (dev0 4096) 0 (64 * (A : Int)) (List.replicate 64 f))) ∧ Dev w' [] (w.heap.size + 1) w.heap.size (startD (dev0 4096) 0 (64 * (A : Int)) (List.replicate 64 f)) ∧ Touch (w.heap.size + 1) w.heap.size w4 w') := fun w3 w4 hd hB => by
    have := start_any (w.heap.size + 1) w.heap.size 0 (64 * (A : Int)) (some ⟨w3.heap.size, 0, none⟩) 64 (List.replicate 64 f) _ [] w4 hd (fun k hk => by simp at hk) (by omega) hB.slB0 (by rw [List.length_replicate]; omega)
    rwa [List.length_replicate] at this
  rw [g1] at HSt
  generalize startD (dev0 4096) 0 (64 * (A : Int)) (List.replicate 64 f) = d1 at *
  generalize dev0 4096 = d0 at *
  clear g1
  have HZ : Hid _ := hz
  clear hz
  conv => arg 2; whnf
  go_wp2_with fail
  refine (filled_any 64 f W1 (by omega)).mono ?_
  rintro e w2 ⟨rfl, hB2, hz2, hb2⟩
  have hd2 := hd.below hb2
  have ht2 : Touch (w.heap.size + 1) w.heap.size W1 w2 := Touch.of hb2
  clear hb2 hd
  go_wp2_with fail
  refine (HSt.out W1 w2 hd2 hB2).mono ?_
  rintro e w3 ⟨rfl, hd3, ht3⟩
  have ht3' := ht2.trans ht3
  clear ht2 ht3 hd2 hB2 HSt
  have HF := finish_any (w.heap.size + 1) w.heap.size 0 d1 [] w3 hd3
  rw [g2] at HF
  generalize finD d1 0 1024 = d2 at *
  go_wp2_with fail
  refine HF.mono ?_
  rintro e w4 ⟨rfl, hd4, ht4⟩
  have ht4' := ht3'.trans ht4
  clear HF ht3' ht4 hd3 g2
  go_wp2_with fail
  refine wp7 rfl rfl (loop7_wp A f a c l w W1 h hB1 HZ.out _ _ ⟨rfl, rfl, rfl, rfl, rfl⟩ d2 hd4 g3 ht4' _ (fun _ _ t _ _ h => by cases t <;> exact h) ?_)
  intro u' w' ht'
  have HB5 : Hid _ := HBW.out _ ht'
  rw [frame7_open]
  clear hd4 ht4' ht' h HBW
  go_wp2_with fail
  refine (lives_any _).mono ?_
  rintro e w9 ⟨rfl, hb9⟩
  go_wp2_with fail
  go_ret
  exact ⟨rfl, below_on HB5.out hb9⟩

end Go.Proofs.Ytbigclhfgcaccaa
