/-
  The second loop of StableWhole.
-/
import Derived.Test.YtbigclhfgcaccaaWWd
namespace Go.Proofs.Ytbigclhfgcaccaa
open Go.RowKit

/-- What stands there behind a crash, sector by sector. -/
theorem whole_math (b : List UInt8) (pl Ln n : Nat) (f : UInt8) (k : Int) (hb : b.length = n) (h1 : pl % 64 = 0) (h2 : Ln % 64 = 0) (h3 : pl + Ln ≤ n) (at' i : Nat) (ha : at' % 64 = 0) (hi1 : at' ≤ i) (hi2 : i < at' + 64) :
    (over b pl ((List.replicate Ln f).take (64 * k.toNat)))[i]? = if fresh (pl : Int) Ln k (at' : Int) then some f else b[i]? := by
  have hl : ((List.replicate Ln f).take (64 * k.toNat)).length = min (64 * k.toNat) Ln := by simp
  rw [over_get _ _ _ (by rw [hl]; omega), hl]
  by_cases hc : (pl : Int) ≤ at'
  · have e0 : ((at' : Int) - pl).tdiv 64 = (((at' - pl) / 64 : Nat) : Int) := by rw [Int.tdiv_eq_ediv_of_nonneg (by omega)]; omega
    have ef : fresh (pl : Int) Ln k (at' : Int) = decide (at' < pl + Ln ∧ (at' - pl) / 64 < k.toNat) := by
      unfold fresh
      rw [decide_eq_true hc, e0, Bool.eq_iff_iff]
      simp
      omega
    rw [ef]
    by_cases hd : at' < pl + Ln ∧ (at' - pl) / 64 < k.toNat
    · rw [if_pos (by omega), decide_eq_true hd]
      rw [List.getElem?_take_of_lt (by omega), List.getElem?_replicate, if_pos (by omega)]
      simp
    · rw [if_neg (by omega), decide_eq_false hd]
      simp
  · have ef : fresh (pl : Int) Ln k (at' : Int) = false := by unfold fresh; rw [decide_eq_false hc]; rfl
    rw [ef, if_neg (by omega)]
    simp

set_option maxRecDepth 100000 in
set_option maxHeartbeats 3000000 in
theorem exit5b (n : Nat) (k : Int) (s Gn Gw : Nat) (at' : Nat) (u : Nat → Value) (wr : World) (hu : Sm5 n k s Gn Gw u) (h14 : u 14 = .int .i64 (at' : Int)) (hn : n ≤ 4096) (hat : at' = n) (Q0 : Exit → Act → World → Prop) (R : Act → World → Prop)
    (hexit : ∀ u', Q0 (.exit 2) (frame5 u') wr) :
    Code.wp Try.prog loop5b (Exit.then R Q0) (frame5 u) wr := by
  obtain ⟨h3, h5, h6, h10, h12⟩ := hu
  have HX : Hid _ := hexit
  clear hexit
  rw [frame5_open, h3, h5, h6, h10, h12, h14]
  clear h3 h5 h6 h10 h12 h14
  subst hat
  conv => arg 2; whnf
  go_wp2_with fail
  exact q5 rfl rfl (HX.out _)

theorem loop5b_wp (n : Nat) (k : Int) (s Gn Gw : Nat) (o : Op) (now was : List UInt8) (u : Nat → Value) (w : World) (hu : Sm5 n k s Gn Gw u) (h14 : u 14 = .int .i64 0) (hM : Mm5 s Gn Gw o now was w)
    (hn : n ≤ 4096) (hn64 : n % 64 = 0) (hnn : now.length = n) (hwn : was.length = n) (Ln : Nat) (hLn : long o.n = (Ln : Int)) (hp0 : 0 ≤ o.place) (hp1 : o.place + Ln ≤ n) (hf : ∀ at' i, at' % 64 = 0 → at' ≤ i → i < at' + 64 → now[i]? = if fresh o.place Ln k (at' : Nat) then some o.fill else was[i]?) (Q0 : Exit → Act → World → Prop) (HQ : ∀ c (a : Act) t v w, Q0 (.panic c) (a.put t v) w → Q0 (.panic c) a w)
    (hexit : ∀ u' w', Below w.heap.size w w' → Q0 (.exit 2) (frame5 u') w') :
    Code.wp Try.prog (Code.loop loop5b) Q0 (frame5 u) w := by
  refine wp_loop (fun x w' => ∃ a', a' ≤ n ∧ a' % 64 = 0 ∧ I5b n k s Gn Gw o now was w a' x w') (fun x _ => n - (intOf (x.tmps.getD 14 undef)).toNat) ⟨0, by omega, rfl, u, rfl, hu, h14, hM, Below.refl _ _⟩ ?_
  rintro x w' ⟨a', hi1, hi2, u', rfl, hu', g14, hM', hb'⟩
  by_cases hlt : a' < n
  · have key : Code.wp Try.prog loop5b (Exit.then (fun x w'' => I5b n k s Gn Gw o now was w (a' + 64) x w'') Q0) (frame5 u') w' := by
      by_cases hc : o.place ≤ (a' : Int)
      · by_cases hc2 : (a' : Int) < o.place + Ln
        · exact round5b_a n k s Gn Gw o now was w a' u' w' hu' g14 hM' hb' hn (by omega) hnn hwn Ln hLn hp0 hp1 (fun i h1 h2 => hf a' i hi2 h1 h2) hc hc2 Q0 HQ
        · exact round5b_b n k s Gn Gw o now was w a' u' w' hu' g14 hM' hb' hn (by omega) hnn hwn Ln hLn hp0 hp1 (fun i h1 h2 => hf a' i hi2 h1 h2) hc hc2 Q0 HQ
      · exact round5b_c n k s Gn Gw o now was w a' u' w' hu' g14 hM' hb' hn (by omega) hnn hwn Ln hLn hp0 hp1 (fun i h1 h2 => hf a' i hi2 h1 h2) hc Q0 HQ
    refine Code.wp_mono ?_ key
    intro e x w'' h
    cases e <;> first | exact h | skip
    refine ⟨⟨a' + 64, by omega, by omega, h⟩, ?_⟩
    obtain ⟨u'', rfl, _, k14, _⟩ := h
    show n - (intOf (u'' 14)).toNat < n - (intOf (u' 14)).toNat
    rw [k14, g14]
    simp only [intOf]
    omega
  · exact exit5b n k s Gn Gw a' u' w' hu' g14 hn (by omega) Q0 _ (fun u'' => hexit u'' w' hb')

end Go.Proofs.Ytbigclhfgcaccaa
