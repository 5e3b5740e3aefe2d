/-
  NetOrder, NetCuts: rounds.
-/
import Derived.Test.YtfdpmffoajjchaaOc
namespace Go.Proofs.Ytfdpmffoajjchaa
open Go.RowKit Go.Conc

set_option maxRecDepth 100000 in
set_option maxHeartbeats 3000000 in
theorem r22_cut (w : World) (n : Nat) (a : Option Addr) (ln c : Nat) (inst : Int) (cuts : Bool) (f t : Int) (k S T j : Nat) (u : Nat → Value) (W : World) (x : Op1) (p : Pl) (B : Nat) (own : Bool) (R : Nat → List Nat) (hu : Sl22 w.heap.size n a ln c inst cuts f t S T j u) (h18 : u 18 = .pointer (some ⟨B, 0, none⟩)) (h19 : u 19 = .bool own)
    (hS : S ≤ j) (hj : j < 100) (hr : rix n f t = some k) (hO : OrdR w W n k S T R) (hB : W.heap[B]? = some (.cells (opA x p) 50)) (hk : x.kind = 2) (hc : cuts = true) (hi : ¬ x.frm = inst) (hp : 1 ≤ x.frm → x.frm ≤ n → k ≠ x.frm.toNat - 1 ∧ k ≠ n + (x.frm.toNat - 1)) (Q0 : Exit → Act → World → Prop) :
    Code.wp Try.prog rest22 (Q22 w n a ln c inst cuts f t k j Q0) (frameN 164 u) W := by
  obtain ⟨h1, h2, h4, h11, h13, h14, h15, h16, h17⟩ := hu
  rw [frame_open164, h1, h2, h4, h11, h13, h14, h15, h16, h17, h18, h19]
  clear h1 h2 h4 h11 h13 h14 h15 h16 h17 h18 h19
  have HF := toHid (fun (A : Act) (W : World) (S T : Nat) (R : Nat → List Nat) => fin22 w n a ln c inst cuts f t k j hj Q0 A W S T R)
  generalize Q22 w n a ln c inst cuts f t k j Q0 = QA at HF ⊢
  have hT := hO.le
  have HO := toHid hO
  have HR := toHid hr
  have s0 : W.cell? ⟨B, 0, none⟩ = some (.int .i64 x.kind) := by simp [World.cell?, hB]
  have s1 : W.cell? ⟨B, 1, none⟩ = some (.int .i64 x.frm) := by simp [World.cell?, hB]
  have s2 : W.cell? ⟨B, 2, none⟩ = some (.int .i64 x.tow) := by simp [World.cell?, hB]
  have HB := toHid hB
  have z0 : (x.kind == 0) = false := by simp [hk]
  have z1 : (x.kind == 1) = false := by simp [hk]
  have z2 : (x.kind == 2) = true := by simp [hk]
  clear hk
  subst hc
  have hi2 : (x.frm == inst) = false := by simp [hi]
  clear hO hr hB
  conv => arg 2; whnf
  go_wp2_with fail
  go_at_call 15
  refine Calls.mono (cut_any HO.out.net x.frm) ?_
  rintro e w3 ⟨rfl, hN3, hT3⟩
  have HO3 := toHid (HO.out.cut hp hN3 hT3)
  clear hN3 hT3
  have e9 : ((lenO (cutR n R x.frm) (rix n f t) : Nat) : Int) = ((S : Nat) : Int) - ((T : Nat) : Int) := by
    rw [HR.out]
    have h1 := HO3.out.len
    have h2 := HO3.out.le
    simp only [lenO]
    rw [h1]
    omega
  go_wp2_with fail
  go_at_call 13
  refine Calls.mono (len_any _ _ n _ HO3.out.net f t) ?_
  rintro e w9 ⟨rfl, hw9⟩
  obtain rfl := hw9.symm
  rw [e9]
  clear e9
  go_wp2_with fail
  exact HF.out _ _ (S) (T) _ rfl rfl ⟨rfl, rfl, rfl, rfl, rfl, rfl, rfl, rfl, rfl⟩ (by omega) HO3.out

end Go.Proofs.Ytfdpmffoajjchaa
