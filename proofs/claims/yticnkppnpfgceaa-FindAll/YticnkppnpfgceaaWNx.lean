/-
  The walk of FindNexts.
-/
import Derived.Test.YticnkppnpfgceaaFCk
namespace Go.Proofs.Yticnkppnpfgceaa.Mg
open Go.RowKit Go.Maps

theorem lim_tot {l : List Rc} (h : tot l ≤ 300) : l.length ≤ 300 ∧ ∀ r, r ∈ l → Lim r := by
  refine ⟨by have := tot_len l; omega, fun r hr => ?_⟩
  have := tot_mem hr
  simp only [wt] at this
  exact ⟨by omega, by omega⟩
theorem below_drew {w : World} (n : Nat) : Below w.heap.size w (w.drewN n) := below_drewN1 w n

set_option maxRecDepth 100000 in
set_option maxHeartbeats 4000000 in
theorem nexts_walk (a : Option Addr) (c : Nat) (l : List Rc) (at_ : Nat) (w : World) (hL : SlR w a l) (hl : l.length ≤ 140737488355328) (hnil : a = none → c = 0) (hW : ∀ r, r ∈ l → Wd r) :
    Calls Try.prog 4 #[.slice a l.length c, .int .u64 (at_ : Int)] w fun e w' => e = .returned (.bool true) ∧ Below w.heap.size w w' := by
  have HS := toHid (small9 a c l w hL hl hW)
  have HL := toHid hL
  have HN := toHid hnil
  clear hL hW hnil
  go_enter Try.func4, Try.ntmps4
  go_wp2_with fail
  refine Calls.mono HS.out ?_
  rintro e w1 ⟨b, rfl, hb, n, rfl⟩
  have HB1 := toHid (below_drew (w := w) n)
  clear HS
  cases b
  · clear hb
    have HV := toHid (lives10 (w.drewN n))
    go_wp2_with fail
    refine Calls.mono HV.out ?_
    rintro e w2 ⟨rfl, hb2⟩
    go_wp2
    go_ret
    exact ⟨rfl, HB1.out.trans hb2⟩
  · obtain ⟨hl3, hlim⟩ := lim_tot (hb rfl)
    have HLim := toHid hlim
    have HL1 := toHid (HL.out.below HB1.out)
    generalize w.drewN n = W1 at *
    have HC := toHid (copied11 a c l W1 HL1.out (by omega) HN.out)
    clear hb hlim
    go_wp2_with fail
    refine Calls.mono HC.out ?_
    rintro e w2 ⟨a2, c2, rfl, hsh, hb2⟩
    have HB2 := toHid (HB1.out.trans (hb2.mono HB1.out.size))
    have HNx := toHid (next19 a2 c2 l at_ w2 w2 (hsh.slR hb2) (Below.refl _ _) (by omega) HLim.out)
    clear HC hsh hb2
    go_wp2_with fail
    refine Calls.mono HNx.out ?_
    rintro e w3 ⟨rfl, hb3⟩
    have HB3 := toHid (HB2.out.trans (hb3.mono HB2.out.size))
    have HNr := toHid (refnext20 a c l at_ w w3 HL.out HB3.out (by omega) HLim.out)
    clear hb3 HNx
    have hle : (if logB l then nextL l at_ else 0) ≤ at_ := by
      split
      · rename_i h; exact nextL_le (log_down h).1 _ _ (by omega)
      · omega
    generalize (if logB l then nextL l at_ else 0) = N at *
    have q1 : ((N : Int) == (N : Int)) = true := by simp
    have q2 : (N : Int) ≤ (at_ : Int) := by omega
    go_wp2_with fail
    refine Calls.mono HNr.out ?_
    rintro e w4 ⟨rfl, hb4⟩
    have HB4 := toHid (HB3.out.trans (hb4.mono HB3.out.size))
    clear hb4 HNr
    have HV := toHid (lives10 w4)
    go_wp2_with fail
    refine Calls.mono HV.out ?_
    rintro e w5 ⟨rfl, hb5⟩
    go_wp2
    go_ret
    exact ⟨rfl, HB4.out.trans (hb5.mono HB4.out.size)⟩
end Go.Proofs.Yticnkppnpfgceaa.Mg
