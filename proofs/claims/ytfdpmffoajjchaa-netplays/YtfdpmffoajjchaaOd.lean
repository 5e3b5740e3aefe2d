/-
  NetOrder, NetCuts: rounds.
-/
import Derived.Test.YtfdpmffoajjchaaOc
namespace Go.Proofs.Ytfdpmffoajjchaa
open Go.RowKit Go.Conc

set_option maxRecDepth 100000 in
set_option maxHeartbeats 3000000 in
theorem r22_own0 (w : World) (n : Nat) (a : Option Addr) (ln c : Nat) (inst : Int) (cuts : Bool) (f t : Int) (k S T j : Nat) (u : Nat → Value) (W : World) (x : Op1) (p : Pl) (B : Nat) (R : Nat → List Nat) (hu : Sl22 w.heap.size n a ln c inst cuts f t S T j u) (h18 : u 18 = .pointer (some ⟨B, 0, none⟩)) (h19 : u 19 = .bool true)
    (hS : S ≤ j) (hj : j < 100) (hr : rix n f t = some k) (hO : OrdR w W n k S T R) (hB : W.heap[B]? = some (.cells (opA x p) 50)) (hk : x.kind = 0) (Q0 : Exit → Act → World → Prop) :
    Code.wp Try.prog rest22 (Q22 w n a ln c inst cuts f t k j Q0) (frameN 164 u) W := by
  obtain ⟨h1, h2, h4, h11, h13, h14, h15, h16, h17⟩ := hu
  rw [frame_open164, h1, h2, h4, h11, h13, h14, h15, h16, h17, h18, h19]
  clear h1 h2 h4 h11 h13 h14 h15 h16 h17 h18 h19
  have HF := toHid (fun (A : Act) (W : World) (S T : Nat) (R : Nat → List Nat) => fin22 w n a ln c inst cuts f t k j hj Q0 A W S T R)
  generalize Q22 w n a ln c inst cuts f t k j Q0 = QA at HF ⊢
  have hT := hO.le
  have HO := toHid hO
  have HR := toHid hr
  have s0 : W.cell? ⟨B, 0, none⟩ = some (.int .i64 x.kind) := by simp [World.cell?, hB]
  have s1 : W.cell? ⟨B, 1, none⟩ = some (.int .i64 x.frm) := by simp [World.cell?, hB]
  have s2 : W.cell? ⟨B, 2, none⟩ = some (.int .i64 x.tow) := by simp [World.cell?, hB]
  have HB := toHid hB
  have z0 : (x.kind == 0) = true := by simp [hk]
  clear hk
  clear hO hr hB
  conv => arg 2; whnf
  go_wp2_with fail
  go_at_call 12
  refine Calls.mono (send_room HO.out.net f t HR.out (by rw [HO.out.len]; omega) (ownM ((S : Int) + 1)) zeroP (mi_own _ _) (lim_own _)) ?_
  rintro e w3 ⟨rfl, b3, p3, hN3, hM3, hO3, hb3, hT3⟩
  have HO3 := toHid (HO.out.sendOwn hN3 hM3 hT3)
  clear hN3 hM3 hT3 hO3 hb3
  have e9 : ((lenO (upd R k (R k ++ [b3])) (rix n f t) : Nat) : Int) = ((S + 1 : Nat) : Int) - ((T : Nat) : Int) := by
    rw [HR.out]
    have h1 := HO3.out.len
    have h2 := HO3.out.le
    simp only [lenO]
    rw [h1]
    omega
  go_wp2_with fail
  go_at_call 13
  refine Calls.mono (len_any _ _ n _ HO3.out.net f t) ?_
  rintro e w9 ⟨rfl, hw9⟩
  obtain rfl := hw9.symm
  rw [e9]
  clear e9
  go_wp2_with fail
  exact HF.out _ _ (S + 1) (T) _ rfl rfl ⟨rfl, rfl, rfl, rfl, rfl, rfl, rfl, rfl, rfl⟩ (by omega) HO3.out

end Go.Proofs.Ytfdpmffoajjchaa
