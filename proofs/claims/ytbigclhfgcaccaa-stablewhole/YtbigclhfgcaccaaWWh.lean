/-
  The walk of StableWhole.
-/
import Derived.Test.YtbigclhfgcaccaaWWg
namespace Go.Proofs.Ytbigclhfgcaccaa
open Go.RowKit

set_option maxRecDepth 20000 in
set_option maxHeartbeats 3000000 in
theorem walkWhole (size : Int) (a : Option Addr) (c : Nat) (l : List Op) (o : Op) (k : Int) (w : World) (h : SlO w a l)  (ho : GoodO o) (hk : I64 k) :
    Calls Try.prog 5 #[.agg #[.int .i64 size, .slice a l.length c, .int .i64 o.kind, .int .i64 o.hand, .int .i64 o.place, .int .i64 o.n, .int .u8 (o.fill.toNat : Int), .int .i64 k]] w fun e w' => e = .returned (.bool true) ∧ Below w.heap.size w w' := by
  go_enter Try.func5, Try.ntmps5
  go_wp2_with fail
  go_region
  obtain ⟨W0, hW0⟩ : ∃ W0, ((w.alloc (.cells #[.int .i64 size, .slice a l.length c, .int .i64 o.kind, .int .i64 o.hand, .int .i64 o.place, .int .i64 o.n, .int .u8 (o.fill.toNat : Int), .int .i64 k] 55)).alloc (.cells #[.int .i64 o.kind, .int .i64 o.hand, .int .i64 o.place, .int .i64 o.n, .int .u8 (o.fill.toNat : Int)] 49)).drew = W0 := ⟨_, rfl⟩
  have hB0 : Below w.heap.size w W0 := by rw [← hW0]; exact (((Below.refl _ w).alloc (Nat.le_refl _) _).alloc (by simp) _).drew
  have z0 : W0.heap.size = w.heap.size + 2 := by rw [← hW0]; simp
  have x0 : W0.heap[w.heap.size + 1]? = some (.cells (opV o) 49) := by
    have := heap_alloc_new (w.alloc (.cells #[.int .i64 size, .slice a l.length c, .int .i64 o.kind, .int .i64 o.hand, .int .i64 o.place, .int .i64 o.n, .int .u8 (o.fill.toNat : Int), .int .i64 k] 55)) (.cells (opV o) 49)
    rw [World.size_alloc] at this
    rw [← hW0]; exact this
  rw [hW0]
  clear hW0
  by_cases hs : 0 ≤ size ∧ size ≤ 65536 ∧ size % 64 = 0
  · obtain ⟨n, rfl⟩ := Int.eq_ofNat_of_zero_le hs.1
    go_wp2_with fail
    refine (new_yes n W0 (by omega) (by omega)).mono ?_
    rintro e W1 ⟨rfl, hW1⟩
    have hD := Dev.new n W0 [] (fun k hk => by simp at hk) (by omega) (by omega)
    have hb1 : Below W0.heap.size W0 W1 := by rw [hW1]; exact ((Below.refl _ W0).alloc (Nat.le_refl _) _).alloc (by simp) _
    have z1 : W1.heap.size = w.heap.size + 4 := by rw [hW1]; simp; omega
    rw [← hW1] at hD
    clear hW1
    rw [z0] at hD hb1 ⊢
    have x1 : W1.heap[w.heap.size + 1]? = some (.cells (opV o) 49) := by rw [hb1.block _ (by omega)]; exact x0
    have hB1 := hB0.trans (hb1.mono (by omega))
    clear x0 hB0 hb1
    have y := x1
    simp only [opV] at y
    have y0 : W1.cell? ⟨w.heap.size + 1, 0, none⟩ = some (.int .i64 o.kind) := by simp [World.cell?, y]
    have y1 : W1.cell? ⟨w.heap.size + 1, 1, none⟩ = some (.int .i64 o.hand) := by simp [World.cell?, y]
    have y2 : W1.cell? ⟨w.heap.size + 1, 2, none⟩ = some (.int .i64 o.place) := by simp [World.cell?, y]
    have y3 : W1.cell? ⟨w.heap.size + 1, 3, none⟩ = some (.int .i64 o.n) := by simp [World.cell?, y]
    have y4 : W1.cell? ⟨w.heap.size + 1, 4, none⟩ = some (.int .u8 (o.fill.toNat : Int)) := by simp [World.cell?, y]
    clear y
    by_cases hs2 : n ≤ 4096
    · go_wp2_with fail
      refine (long_any o W1).mono ?_
      rintro e W2 ⟨rfl, hb2⟩
      by_cases hlo : 0 ≤ long o.n
      · go_wp2_with fail
        obtain ⟨Ln, hLn⟩ := Int.eq_ofNat_of_zero_le hlo
        rename_i Kr hKr
        refine wp5 rfl rfl (loop5a_wp n k a c l w W1 h hB1 z1 _ _ ⟨rfl, rfl, rfl, rfl, rfl⟩ rfl _ (hD.below hb2) (by simp) (Touch.of hb2) _ ?_)
        intro u' w' d' h1 h2 h3 h4
        exact hKr _ _ (rest5_wp n k a c l o w W1 hB1 z1 x1 ho hk hs2 (by omega) Ln hLn u' w' h1 d' h2 h3 h4)
      · go_wp2_with fail
        refine (lives_any _).mono ?_
        rintro e w4 ⟨rfl, hb4⟩
        go_wp2
        go_ret
        exact ⟨rfl, below_on (below_on hB1 hb2) hb4⟩
    · go_wp2_with fail
      refine (lives_any _).mono ?_
      rintro e w4 ⟨rfl, hb4⟩
      go_wp2
      go_ret
      exact ⟨rfl, below_on hB1 hb4⟩
  · go_wp2_with fail
    refine (new_no size W0 hs).mono ?_
    rintro e W1 ⟨rfl, hW1⟩
    obtain rfl := hW1.symm
    go_wp2_with fail
    refine (lives_any _).mono ?_
    rintro e w4 ⟨rfl, hb4⟩
    go_wp2
    go_ret
    exact ⟨rfl, below_on hB0 hb4⟩

end Go.Proofs.Ytbigclhfgcaccaa
