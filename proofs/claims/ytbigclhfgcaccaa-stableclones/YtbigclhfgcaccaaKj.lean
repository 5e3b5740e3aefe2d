/-
  The walk of StableClones.
-/
import Derived.Test.YtbigclhfgcaccaaKe
import Derived.Test.YtbigclhfgcaccaaKf
import Derived.Test.YtbigclhfgcaccaaKg
import Derived.Test.YtbigclhfgcaccaaKh
import Derived.Test.YtbigclhfgcaccaaKi
namespace Go.Proofs.Ytbigclhfgcaccaa
open Go.RowKit

theorem rest8_wp (n : Nat) (a : Option Addr) (c : Nat) (l : List Op) (o : Op) (w W1 : World) (hB1 : Below w.heap.size w W1) (hz : W1.heap.size = w.heap.size + 3) (hx : W1.heap[w.heap.size]? = some (.cells (opV o) 49)) (ho : GoodO o) (Ln : Nat) (hLn : long o.n = (Ln : Int))
    (u : Nat → Value) (wr : World) (hu : Sl8 n a c l w.heap.size u) (d : Dv) (hd : Dev wr [] (w.heap.size + 2) (w.heap.size + 1) d) (hdn : d.b.length = n) (ht : Touch (w.heap.size + 2) (w.heap.size + 1) W1 wr) :
    Code.wp Try.prog (tailOf 4 body8) (bodyPost Try.prog Try.f8 fun e w'' => e = .returned (.bool true) ∧ Below w.heap.size w w'') (frame8 u) wr := by
  obtain ⟨tk, th, tp, tn, tf⟩ := o
  have hpl := ho.place
  dsimp only at *
  have hLn2 : Ln ≤ 3000 := by have := long_le tn; omega
  have HC : ∀ W, Below (w.heap.size + 1) W1 W → (fun W => (W.cell? ⟨w.heap.size, 0, none⟩ = some (.int .i64 tk) ∧ W.cell? ⟨w.heap.size, 1, none⟩ = some (.int .i64 th) ∧ W.cell? ⟨w.heap.size, 2, none⟩ = some (.int .i64 tp) ∧ W.cell? ⟨w.heap.size, 3, none⟩ = some (.int .i64 tn) ∧ W.cell? ⟨w.heap.size, 4, none⟩ = some (.int .u8 (tf.toNat : Int))) ∧ Below (w.heap.size + 1) W1 W) W := fun W h2 => by
    have y := hx
    rw [← h2.block w.heap.size (by omega)] at y
    simp only [opV] at y
    exact ⟨⟨by simp [World.cell?, y], by simp [World.cell?, y], by simp [World.cell?, y], by simp [World.cell?, y], by simp [World.cell?, y]⟩, h2⟩
  have HW : ∀ W, Below (w.heap.size + 1) W1 W → Below w.heap.size w W := fun W h2 => hB1.trans (h2.mono (by omega))
  refine rest8a tk th tp tn tf hpl w W1 w.heap.size (by omega) HC HW Ln hLn hLn2 n u wr hu.h0 hu.h5 hu.h7 d hd hdn (ht.below (by omega) (by omega) (by omega)) ?_
  intro u2 w2 Gu a0 a5 a7 a11 a13 a14 a15 hD2 hU2 hB2
  refine rest8b tk th tp tn tf w W1 w.heap.size (by omega) HC HW Ln hLn hLn2 n u2 w2 Gu d a0 a5 a7 a11 a13 a14 a15 hD2 hdn hU2 hB2 ?_
  intro u3 w3 Gb b5 b7 b21 hD3 hX3 hG3 hB3
  refine rest8c tk th tp tn tf hpl w W1 w.heap.size (by omega) HC HW Ln hLn2 u3 w3 Gb d b5 b7 b21 hD3 hX3 hG3 hB3 ?_
  intro hes u4 w4 c5 c7 hD4 hB4
  obtain ⟨f1, ⟨f2, f3⟩, f4⟩ := start_read hD3.good (by simp; omega) hes
  rw [List.length_replicate] at f3 f4
  refine rest8d tk th tp tn tf hpl w W1 w.heap.size (by omega) HC HW Ln hLn u4 w4 _ _ rfl f1 f2 f3 f4 c5 c7 hD4 hB4 ?_
  intro u5 w5 Gr e5 e23 e24 hR5 hB5
  exact rest8e tk th tp tn tf w W1 w.heap.size (by omega) HC HW Ln hLn hLn2 u5 w5 Gr e5 e23 e24 hR5 hB5

set_option maxRecDepth 100000 in
set_option maxHeartbeats 3000000 in
theorem walkClones (size : Int) (a : Option Addr) (c : Nat) (l : List Op) (o : Op) (w : World) (h : SlO w a l) (ho : GoodO o) :
    Calls Try.prog 8 #[.int .i64 size, .slice a l.length c, .agg (opV o)] w fun e w' => e = .returned (.bool true) ∧ Below w.heap.size w w' := by
  unfold opV
  go_enter Try.func8, Try.ntmps8
  obtain ⟨W0, hW0⟩ : ∃ W0, w.alloc (.cells #[.int .i64 o.kind, .int .i64 o.hand, .int .i64 o.place, .int .i64 o.n, .int .u8 (o.fill.toNat : Int)] 49) = W0 := ⟨_, rfl⟩
  have hB0 : Below w.heap.size w W0 := by rw [← hW0]; exact (Below.refl _ w).alloc (Nat.le_refl _) _
  have z0 : W0.heap.size = w.heap.size + 1 := by rw [← hW0]; simp
  have x0 : W0.heap[w.heap.size]? = some (.cells (opV o) 49) := by rw [← hW0]; exact heap_alloc_new w _
  by_cases hs : 0 ≤ size ∧ size ≤ 65536 ∧ size % 64 = 0
  · obtain ⟨n, rfl⟩ := Int.eq_ofNat_of_zero_le hs.1
    go_wp2_with fail
    clear hW0
    refine (new_yes n W0 (by omega) (by omega)).mono ?_
    rintro e W1 ⟨rfl, hW1⟩
    have hD := Dev.new n W0 [] (fun k hk => by simp at hk) (by omega) (by omega)
    have hb1 : Below W0.heap.size W0 W1 := by rw [hW1]; exact ((Below.refl _ W0).alloc (Nat.le_refl _) _).alloc (by simp) _
    have z1 : W1.heap.size = w.heap.size + 3 := by rw [hW1]; simp; omega
    rw [← hW1] at hD
    clear hW1
    rw [z0] at hD hb1 ⊢
    have x1 : W1.heap[w.heap.size]? = some (.cells (opV o) 49) := by rw [hb1.block _ (by omega)]; exact x0
    have hB1 := hB0.trans (hb1.mono (by omega))
    clear x0 hB0 hb1
    have y := x1
    simp only [opV] at y
    have y0 : W1.cell? ⟨w.heap.size, 0, none⟩ = some (.int .i64 o.kind) := by simp [World.cell?, y]
    have y1 : W1.cell? ⟨w.heap.size, 1, none⟩ = some (.int .i64 o.hand) := by simp [World.cell?, y]
    have y2 : W1.cell? ⟨w.heap.size, 2, none⟩ = some (.int .i64 o.place) := by simp [World.cell?, y]
    have y3 : W1.cell? ⟨w.heap.size, 3, none⟩ = some (.int .i64 o.n) := by simp [World.cell?, y]
    have y4 : W1.cell? ⟨w.heap.size, 4, none⟩ = some (.int .u8 (o.fill.toNat : Int)) := by simp [World.cell?, y]
    clear y
    by_cases hs2 : n ≤ 4096
    · go_wp2_with fail
      refine (long_any o W1).mono ?_
      rintro e W2 ⟨rfl, hb2⟩
      by_cases hlo : 0 ≤ long o.n
      · go_wp2_with fail
        obtain ⟨Ln, hLn⟩ := Int.eq_ofNat_of_zero_le hlo
        rename_i Kr hKr
        refine wp8 rfl rfl (loop8a_wp n a c l w W1 h hB1 z1 _ _ ⟨rfl, rfl, rfl, rfl⟩ rfl _ (hD.below hb2) (by simp) (Touch.of hb2) _ ?_)
        intro u' w' d' h1 h2 h3 h4
        exact hKr _ _ (rest8_wp n a c l o w W1 hB1 z1 x1 ho Ln hLn u' w' h1 d' h2 h3 h4)
      · go_wp2_with fail
        refine (lives_any _).mono ?_
        rintro e w4 ⟨rfl, hb4⟩
        go_wp2
        go_ret
        exact ⟨rfl, below_on (below_on hB1 hb2) hb4⟩
    · go_wp2_with fail
      refine (lives_any _).mono ?_
      rintro e w4 ⟨rfl, hb4⟩
      go_wp2
      go_ret
      exact ⟨rfl, below_on hB1 hb4⟩
  · go_wp2_with fail
    clear hW0
    refine (new_no size W0 hs).mono ?_
    rintro e W1 ⟨rfl, hW1⟩
    obtain rfl := hW1.symm
    go_wp2_with fail
    refine (lives_any _).mono ?_
    rintro e w4 ⟨rfl, hb4⟩
    go_wp2
    go_ret
    exact ⟨rfl, below_on hB0 hb4⟩

end Go.Proofs.Ytbigclhfgcaccaa
