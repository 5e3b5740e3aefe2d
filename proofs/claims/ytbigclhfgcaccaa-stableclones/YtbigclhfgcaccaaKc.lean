/-
  The first loop of StableClones.
-/
import Derived.Test.YtbigclhfgcaccaaKb
namespace Go.Proofs.Ytbigclhfgcaccaa
open Go.RowKit

theorem q8' {Q0 : Exit → Act → World → Prop} {e : Exit} {A : Act} {w : World} (hs : A.tmps.size = 243) (hd : A.defers = []) (h : Q0 e (frame8 fun i => A.tmps.getD i undef) w) : Q0 e A w := by
  rw [frame8_lit A hs hd]; exact h

set_option maxRecDepth 100000 in
set_option maxHeartbeats 3000000 in
theorem exit8a (n : Nat) (a : Option Addr) (c : Nat) (l : List Op) (s : Nat) (j : Nat) (hj : ¬ (j < l.length ∧ j < 60)) (u : Nat → Value) (wr : World) (hu : Sl8 n a c l s u) (h9 : u 9 = .int .i64 (j : Int)) (Q0 : Exit → Act → World → Prop) (R : Act → World → Prop)
    (hexit : ∀ u', Sl8 n a c l s u' → Q0 (.exit 0) (frame8 u') wr) :
    Code.wp Try.prog loop8a (Exit.then R Q0) (frame8 u) wr := by
  obtain ⟨h0, h1, h5, h7⟩ := hu
  have HX : Hid _ := hexit
  clear hexit
  rw [frame8_open, h0, h1, h5, h7, h9]
  clear h0 h1 h5 h7 h9
  conv => arg 2; whnf
  by_cases hlt : j < l.length
  · have h60 : ¬ j < 60 := fun e => hj ⟨hlt, e⟩
    go_wp2_with fail
    exact q8' rfl rfl (HX.out _ ⟨rfl, rfl, rfl, rfl⟩)
  · go_wp2_with fail
    exact q8' rfl rfl (HX.out _ ⟨rfl, rfl, rfl, rfl⟩)

theorem loop8a_wp (n : Nat) (a : Option Addr) (c : Nat) (l : List Op) (w W1 : World) (h : SlO w a l) (hB1 : Below w.heap.size w W1) (hz : W1.heap.size = w.heap.size + 3) (u : Nat → Value) (wr : World) (hu : Sl8 n a c l w.heap.size u) (h9 : u 9 = .int .i64 0) (d : Dv) (hd : Dev wr [] (w.heap.size + 2) (w.heap.size + 1) d) (hdn : d.b.length = n) (ht : Touch (w.heap.size + 2) (w.heap.size + 1) W1 wr)
    (Q0 : Exit → Act → World → Prop) (hexit : ∀ u' w' d', Sl8 n a c l w.heap.size u' → Dev w' [] (w.heap.size + 2) (w.heap.size + 1) d' → d'.b.length = n → Touch (w.heap.size + 2) (w.heap.size + 1) W1 w' → Q0 (.exit 0) (frame8 u') w') :
    Code.wp Try.prog (Code.loop loop8a) Q0 (frame8 u) wr := by
  refine wp_loop (fun x w' => ∃ j, j ≤ l.length ∧ I8a n a c l w.heap.size W1 j x w') (fun x _ => l.length - (intOf (x.tmps.getD 9 undef)).toNat) ⟨0, by omega, u, rfl, hu, h9, d, hd, hdn, ht⟩ ?_
  rintro x w' ⟨j, hjl, u', rfl, hu', g9, d', hd', hdn', ht'⟩
  by_cases hj : j < l.length ∧ j < 60
  · have key : Code.wp Try.prog loop8a (Exit.then (fun x w'' => I8a n a c l w.heap.size W1 (j + 1) x w'') Q0) (frame8 u') w' := by
      obtain ⟨b, bo, rfl, hbl, hC⟩ := h.at j hj.1
      have HA : ∀ W, Touch (w.heap.size + 2) (w.heap.size + 1) W1 W → OpAt W b (bo + j * 5) l[j] := fun W hW => hC.keep ((hW.block b (by omega) (by omega) (by omega)).trans (hB1.block b hbl))
      have hgo := h.good l[j] (List.getElem_mem hj.1)
      by_cases hk0 : l[j].kind = 0
      · by_cases hlg : 0 ≤ long l[j].n
        · obtain ⟨Ln, hLn⟩ := Int.eq_ofNat_of_zero_le hlg
          exact round8_start n c l w.heap.size W1 b bo j hj.1 hj.2 u' w' hu' g9 d' hd' hdn' ht' l[j] HA hgo.place hk0 Ln hLn Q0
        · exact round8_skip n c l w.heap.size W1 b bo j hj.1 hj.2 u' w' hu' g9 d' hd' hdn' ht' l[j] HA hk0 hlg Q0
      · by_cases hk1 : l[j].kind = 1
        · exact round8_fin n c l w.heap.size W1 b bo j hj.1 hj.2 u' w' hu' g9 d' hd' hdn' ht' l[j] HA hk1 Q0
        · exact round8_none n c l w.heap.size W1 b bo j hj.1 hj.2 u' w' hu' g9 d' hd' hdn' ht' l[j] HA hk0 hk1 Q0
    refine Code.wp_mono ?_ key
    intro e x w'' h'
    cases e <;> first | exact h' | skip
    refine ⟨⟨j + 1, by omega, h'⟩, ?_⟩
    obtain ⟨u'', rfl, _, k9, _⟩ := h'
    show l.length - (intOf (u'' 9)).toNat < l.length - (intOf (u' 9)).toNat
    rw [k9, g9]
    simp only [intOf]
    omega
  · exact exit8a n a c l w.heap.size j hj u' w' hu' g9 Q0 _ (fun u'' h1 => hexit u'' w' d' h1 hd' hdn' ht')

end Go.Proofs.Ytbigclhfgcaccaa
