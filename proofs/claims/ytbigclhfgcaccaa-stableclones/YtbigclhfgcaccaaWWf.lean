/-
  The first loop of StableWhole.
-/
import Derived.Test.YtbigclhfgcaccaaWWb
namespace Go.Proofs.Ytbigclhfgcaccaa
open Go.RowKit

theorem q5' {Q0 : Exit → Act → World → Prop} {e : Exit} {A : Act} {w : World} (hs : A.tmps.size = 207) (hd : A.defers = []) (h : Q0 e (frame5 fun i => A.tmps.getD i undef) w) : Q0 e A w := by
  rw [frame5_lit A hs hd]; exact h

set_option maxRecDepth 100000 in
set_option maxHeartbeats 3000000 in
theorem exit5a (n : Nat) (k : Int) (a : Option Addr) (c : Nat) (l : List Op) (s : Nat) (j : Nat) (hj : ¬ (j < l.length ∧ j < 60)) (u : Nat → Value) (wr : World) (hu : Sl5 n k a c l s u) (h9 : u 9 = .int .i64 (j : Int)) (Q0 : Exit → Act → World → Prop) (R : Act → World → Prop)
    (hexit : ∀ u', Sl5 n k a c l s u' → Q0 (.exit 0) (frame5 u') wr) :
    Code.wp Try.prog loop5a (Exit.then R Q0) (frame5 u) wr := by
  obtain ⟨h3, h4, h5, h6, h7⟩ := hu
  have HX : Hid _ := hexit
  clear hexit
  rw [frame5_open, h3, h4, h5, h6, h7, h9]
  clear h3 h4 h5 h6 h7 h9
  conv => arg 2; whnf
  by_cases hlt : j < l.length
  · have h60 : ¬ j < 60 := fun e => hj ⟨hlt, e⟩
    go_wp2_with fail
    exact q5' rfl rfl (HX.out _ ⟨rfl, rfl, rfl, rfl, rfl⟩)
  · go_wp2_with fail
    exact q5' rfl rfl (HX.out _ ⟨rfl, rfl, rfl, rfl, rfl⟩)

theorem loop5a_wp (n : Nat) (k : Int) (a : Option Addr) (c : Nat) (l : List Op) (w W1 : World) (h : SlO w a l) (hB1 : Below w.heap.size w W1) (hz : W1.heap.size = w.heap.size + 4) (u : Nat → Value) (wr : World) (hu : Sl5 n k a c l w.heap.size u) (h9 : u 9 = .int .i64 0) (d : Dv) (hd : Dev wr [] (w.heap.size + 3) (w.heap.size + 2) d) (hdn : d.b.length = n) (ht : Touch (w.heap.size + 3) (w.heap.size + 2) W1 wr)
    (Q0 : Exit → Act → World → Prop) (hexit : ∀ u' w' d', Sl5 n k a c l w.heap.size u' → Dev w' [] (w.heap.size + 3) (w.heap.size + 2) d' → d'.b.length = n → Touch (w.heap.size + 3) (w.heap.size + 2) W1 w' → Q0 (.exit 0) (frame5 u') w') :
    Code.wp Try.prog (Code.loop loop5a) Q0 (frame5 u) wr := by
  refine wp_loop (fun x w' => ∃ j, j ≤ l.length ∧ I5a n k a c l w.heap.size W1 j x w') (fun x _ => l.length - (intOf (x.tmps.getD 9 undef)).toNat) ⟨0, by omega, u, rfl, hu, h9, d, hd, hdn, ht⟩ ?_
  rintro x w' ⟨j, hjl, u', rfl, hu', g9, d', hd', hdn', ht'⟩
  by_cases hj : j < l.length ∧ j < 60
  · have key : Code.wp Try.prog loop5a (Exit.then (fun x w'' => I5a n k a c l w.heap.size W1 (j + 1) x w'') Q0) (frame5 u') w' := by
      obtain ⟨b, bo, rfl, hbl, hC⟩ := h.at j hj.1
      have HA : ∀ W, Touch (w.heap.size + 3) (w.heap.size + 2) W1 W → OpAt W b (bo + j * 5) l[j] := fun W hW => hC.keep ((hW.block b (by omega) (by omega) (by omega)).trans (hB1.block b hbl))
      have hgo := h.good l[j] (List.getElem_mem hj.1)
      by_cases hk0 : l[j].kind = 0
      · by_cases hlg : 0 ≤ long l[j].n
        · obtain ⟨Ln, hLn⟩ := Int.eq_ofNat_of_zero_le hlg
          exact round_start n k c l w.heap.size W1 b bo j hj.1 hj.2 u' w' hu' g9 d' hd' hdn' ht' l[j] HA hgo.place hk0 Ln hLn Q0
        · exact round_skip n k c l w.heap.size W1 b bo j hj.1 hj.2 u' w' hu' g9 d' hd' hdn' ht' l[j] HA hk0 hlg Q0
      · by_cases hk1 : l[j].kind = 1
        · exact round_fin n k c l w.heap.size W1 b bo j hj.1 hj.2 u' w' hu' g9 d' hd' hdn' ht' l[j] HA hk1 Q0
        · exact round_none n k c l w.heap.size W1 b bo j hj.1 hj.2 u' w' hu' g9 d' hd' hdn' ht' l[j] HA hk0 hk1 Q0
    refine Code.wp_mono ?_ key
    intro e x w'' h'
    cases e <;> first | exact h' | skip
    refine ⟨⟨j + 1, by omega, h'⟩, ?_⟩
    obtain ⟨u'', rfl, _, k9, _⟩ := h'
    show l.length - (intOf (u'' 9)).toNat < l.length - (intOf (u' 9)).toNat
    rw [k9, g9]
    simp only [intOf]
    omega
  · exact exit5a n k a c l w.heap.size j hj u' w' hu' g9 Q0 _ (fun u'' h1 => hexit u'' w' d' h1 hd' hdn' ht')

end Go.Proofs.Ytbigclhfgcaccaa
