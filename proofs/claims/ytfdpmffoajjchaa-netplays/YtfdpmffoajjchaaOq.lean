/-
  NetOrder: the loop; ordered; the walk of NetOrder.
-/
import Derived.Test.YtfdpmffoajjchaaOd
import Derived.Test.YtfdpmffoajjchaaOe
import Derived.Test.YtfdpmffoajjchaaOf
import Derived.Test.YtfdpmffoajjchaaOh
import Derived.Test.YtfdpmffoajjchaaOi
import Derived.Test.YtfdpmffoajjchaaOj
import Derived.Test.YtfdpmffoajjchaaOk
import Derived.Test.YtfdpmffoajjchaaOl
import Derived.Test.YtfdpmffoajjchaaOm
import Derived.Test.YtfdpmffoajjchaaOn
namespace Go.Proofs.Ytfdpmffoajjchaa
open Go.RowKit Go.Conc

theorem at13_below {w W : World} {b o : Nat} {x : Op1} {p : Pl} (h : At13 w b o x p) (hb : Below w.heap.size w W) (hlt : b < w.heap.size) : At13 W b o x p := fun j u hj => by
  rw [hb.cell (by exact hlt)]
  exact h j u hj

/-- What stands in row k is told by k alone. -/
def Far (n k : Nat) (inst : Int) : Prop := ∀ p : Int, ¬ p = inst → 1 ≤ p → p ≤ n → k ≠ p.toNat - 1 ∧ k ≠ n + (p.toNat - 1)

theorem round22 (w : World) (n : Nat) (a : Option Addr) (l : List Op1) (c : Nat) (inst : Int) (cuts : Bool) (f t : Int) (k : Nat) (hops : SlO w a l) (hr : rix n f t = some k) (hp : Far n k inst) (j : Nat) (hlt : j < l.length) (h100 : j < 100)
    (S T : Nat) (R : Nat → List Nat) (u : Nat → Value) (W : World) (hu : Sl22 w.heap.size n a l.length c inst cuts f t S T j u) (hS : S ≤ j) (hO : OrdR w W n k S T R) (Q0 : Exit → Act → World → Prop) :
    Code.wp Try.prog loop22 (Exit.then (fun x w'' => I22 w n a l.length c inst cuts f t k (j + 1) x w'') Q0) (frameN 164 u) W := by
  obtain ⟨b, o, p, rfl, hb, hA, hM⟩ := hops.get j hlt
  have hA' := at13_below hA hO.bel hb
  have hO' := hO.alloc (.cells (opA l[j] p) 50)
  have hB : (W.alloc (.cells (opA l[j] p) 50)).heap[W.heap.size]? = some (.cells (opA l[j] p) 50) := heap_alloc_new _ _
  -- whatever is no step of its own
  have key : ∀ (own : Bool), (own = true → l[j].frm = f ∧ l[j].tow = t) → (own = false → ¬ (l[j].frm = f ∧ l[j].tow = t)) → ∀ u' : Nat → Value, Sl22 w.heap.size n (some ⟨b, o, none⟩) l.length c inst cuts f t S T j u' → u' 18 = .pointer (some ⟨W.heap.size, 0, none⟩) → u' 19 = .bool own →
      Code.wp Try.prog rest22 (Q22 w n (some ⟨b, o, none⟩) l.length c inst cuts f t k j Q0) (frameN 164 u') (W.alloc (.cells (opA l[j] p) 50)) := by
    intro own hown hnot u' hu' h18 h19
    by_cases hk0 : l[j].kind = 0
    · cases own with
      | true => exact r22_own0 w n _ _ c inst cuts f t k S T j u' _ l[j] p _ R hu' h18 h19 hS h100 hr hO' hB hk0 Q0
      | false =>
        cases hx : rix n l[j].frm l[j].tow with
        | none => exact r22_oth0n w n _ _ c inst cuts f t k S T j u' _ l[j] p _ R hu' h18 h19 hS h100 hr hO' hB hk0 hx Q0
        | some i =>
          have hi : i ≠ k := fun e => hnot rfl (rix_inj hx (e ▸ hr))
          by_cases hlen : (R i).length < 256
          · exact r22_oth0r w n _ _ c inst cuts f t k S T j u' _ l[j] p _ R hu' h18 h19 hS h100 hr hO' hB hk0 i hx hi hlen Q0
          · exact r22_oth0f w n _ _ c inst cuts f t k S T j u' _ l[j] p _ R hu' h18 h19 hS h100 hr hO' hB hk0 i hx (by have := hO.net.len i (rix_lt hx); omega) Q0
    · by_cases hk1 : l[j].kind = 1
      · cases own with
        | true =>
          have hx : rix n l[j].frm l[j].tow = some k := by rw [(hown rfl).1, (hown rfl).2]; exact hr
          cases he : R k with
          | nil => exact r22_own1e w n _ _ c inst cuts f t k S T j u' _ l[j] p _ R hu' h18 h19 hS h100 hr hO' hB hk1 hx he Q0
          | cons b' l' =>
            obtain ⟨q, hq⟩ := hO'.own 0 b' (by rw [he]; rfl)
            have e : (T : Int) + ((0 : Nat) : Int) + 1 = (T : Int) + 1 := by omega
            rw [e] at hq
            exact r22_own1c w n _ _ c inst cuts f t k S T j u' _ l[j] p _ R hu' h18 h19 hS h100 hr hO' hB hk1 hx b' l' he q hq Q0
        | false =>
          cases hx : rix n l[j].frm l[j].tow with
          | none => exact r22_oth1n w n _ _ c inst cuts f t k S T j u' _ l[j] p _ R hu' h18 h19 hS h100 hr hO' hB hk1 hx Q0
          | some i =>
            have hi : i ≠ k := fun e => hnot rfl (rix_inj hx (e ▸ hr))
            cases he : R i with
            | nil => exact r22_oth1e w n _ _ c inst cuts f t k S T j u' _ l[j] p _ R hu' h18 h19 hS h100 hr hO' hB hk1 i hx he Q0
            | cons b' l' =>
              obtain ⟨q, hq⟩ := hO'.oth i (rix_lt hx) hi b' (by rw [he]; exact List.mem_cons_self ..)
              exact r22_oth1c w n _ _ c inst cuts f t k S T j u' _ l[j] p _ R hu' h18 h19 hS h100 hr hO' hB hk1 i hx hi b' l' he q hq Q0
      · by_cases hk2 : l[j].kind = 2
        · cases hc : cuts with
          | false => subst hc; exact r22_two_no w n _ _ c inst false f t k S T j u' _ l[j] p _ own R hu' h18 h19 hS h100 hr hO' hB hk2 rfl Q0
          | true =>
            subst hc
            by_cases hi : l[j].frm = inst
            · exact r22_two_own w n _ _ c inst true f t k S T j u' _ l[j] p _ own R hu' h18 h19 hS h100 hr hO' hB hk2 rfl hi Q0
            · exact r22_cut w n _ _ c inst true f t k S T j u' _ l[j] p _ own R hu' h18 h19 hS h100 hr hO' hB hk2 rfl hi (hp _ hi) Q0
        · exact r22_none w n _ _ c inst cuts f t k S T j u' _ l[j] p _ own R hu' h18 h19 hS h100 hr hO' hB ⟨hk0, hk1, hk2⟩ Q0
  by_cases hf : l[j].frm = f
  · by_cases ht : l[j].tow = t
    · exact pre22c w n b o l.length c inst cuts f t k S T j u W l[j] p hu hlt h100 hA' hf ht Q0 (key true (fun _ => ⟨hf, ht⟩) (fun e => by cases e))
    · exact pre22b w n b o l.length c inst cuts f t k S T j u W l[j] p hu hlt h100 hA' hf ht Q0 (key false (fun e => by cases e) (fun _ h => ht h.2))
  · exact pre22a w n b o l.length c inst cuts f t k S T j u W l[j] p hu hlt h100 hA' hf Q0 (key false (fun e => by cases e) (fun _ h => hf h.1))

set_option maxRecDepth 100000 in
set_option maxHeartbeats 3000000 in
theorem exit22 (s n : Nat) (a : Option Addr) (ln c : Nat) (inst : Int) (cuts : Bool) (f t : Int) (S T j : Nat) (hj : ¬ (j < ln ∧ j < 100)) (u : Nat → Value) (wr : World) (hu : Sl22 s n a ln c inst cuts f t S T j u) (Q0 : Exit → Act → World → Prop) (R : Act → World → Prop)
    (hexit : ∀ u' : Nat → Value, Q0 (.exit 0) (frameN 164 u') wr) : Code.wp Try.prog loop22 (Exit.then R Q0) (frameN 164 u) wr := by
  obtain ⟨h1, h2, h4, h11, h13, h14, h15, h16, h17⟩ := hu
  have HX := toHid hexit
  clear hexit
  rw [frame_open164, h1, h2, h4, h11, h13, h14, h15, h16, h17]
  clear h1 h2 h4 h11 h13 h14 h15 h16 h17
  conv => arg 2; whnf
  by_cases hlt : j < ln
  · have h60 : ¬ j < 100 := fun e => hj ⟨hlt, e⟩
    have e1 : (j : Int) < (ln : Int) := by omega
    have e2 : ¬ (j : Int) < 100 := by omega
    go_wp2_with fail
    rw [frameN_lit 164 ⟨_, _⟩ rfl rfl]
    exact HX.out _
  · have e1 : ¬ (j : Int) < (ln : Int) := by omega
    go_wp2_with fail
    rw [frameN_lit 164 ⟨_, _⟩ rfl rfl]
    exact HX.out _

theorem loop22_wp (w : World) (n : Nat) (a : Option Addr) (l : List Op1) (c : Nat) (inst : Int) (cuts : Bool) (f t : Int) (k : Nat) (hops : SlO w a l) (hr : rix n f t = some k) (hp : Far n k inst) (u : Nat → Value) (W : World) (hu : Sl22 w.heap.size n a l.length c inst cuts f t 0 0 0 u) (R : Nat → List Nat) (hO : OrdR w W n k 0 0 R)
    (Q0 : Exit → Act → World → Prop) (hexit : ∀ (u' : Nat → Value) (W' : World), Below w.heap.size w W' → Q0 (.exit 0) (frameN 164 u') W') : Code.wp Try.prog (Code.loop loop22) Q0 (frameN 164 u) W := by
  refine wp_loop (fun x w' => ∃ j, j ≤ l.length ∧ I22 w n a l.length c inst cuts f t k j x w') (fun x _ => l.length - (intOf (x.tmps.getD 17 undef)).toNat) ⟨0, by omega, u, 0, 0, R, rfl, hu, Nat.le_refl _, hO⟩ ?_
  rintro x w' ⟨j, hjl, u', S, T, R', rfl, hu', hS, hO'⟩
  by_cases hj : j < l.length ∧ j < 100
  · refine Code.wp_mono ?_ (round22 w n a l c inst cuts f t k hops hr hp j hj.1 hj.2 S T R' u' w' hu' hS hO' Q0)
    intro e x w'' h'
    cases e <;> first | exact h' | skip
    refine ⟨⟨j + 1, by omega, h'⟩, ?_⟩
    obtain ⟨u'', S', T', R'', rfl, hu'', _, _⟩ := h'
    show l.length - (intOf (u'' 17)).toNat < l.length - (intOf (u' 17)).toNat
    rw [hu''.h17, hu'.h17]
    simp only [intOf]
    omega
  · exact exit22 _ n a l.length c inst cuts f t S T j hj u' w' hu' Q0 _ (fun u'' => hexit u'' w' hO'.bel)

theorem wp164 {c : Code} {Q : Exit → Act → World → Prop} {A : Act} {w : World} (hs : A.tmps.size = 164) (hd : A.defers = []) (h : c.wp Try.prog Q (frameN 164 fun i => A.tmps.getD i undef) w) : c.wp Try.prog Q A w := by
  rw [frameN_lit 164 A hs hd]; exact h

theorem far_up {n : Nat} {i : Int} (h1 : 1 ≤ i) (h2 : i ≤ n) : Far n (i.toNat - 1) i := fun p hp h3 h4 => by omega
theorem far_down {n : Nat} {i : Int} (h1 : 1 ≤ i) (h2 : i ≤ n) : Far n (n + (i.toNat - 1)) i := fun p hp h3 h4 => by omega
--GEN

set_option maxRecDepth 100000 in
set_option maxHeartbeats 3000000 in
theorem ord_up (n : Nat) (inst : Int) (cuts : Bool) (a : Option Addr) (c : Nat) (l : List Op1) (w : World) (hops : SlO w a l) (hn : 1 ≤ n) (hn8 : n ≤ 8) (hi1 : 1 ≤ inst) (hi2 : inst ≤ n) :
    Calls Try.prog 22 #[.int .i64 n, .slice a l.length c, .int .i64 inst, .bool true, .bool cuts] w fun e w' => e = .returned (.bool true) ∧ Below w.heap.size w w' := by
  have HW := toHid (new_yes w n hn hn8)
  have HR := toHid (rix_up hi1 hi2)
  have HF := toHid (far_up hi1 hi2)
  have HS := toHid hops
  have HL := toHid lives17
  have hi3 : ¬ inst < 1 := by omega
  have hi4 : ¬ (n : Int) < inst := by omega
  clear hi1 hi2 hops
  go_enter Try.func22, Try.ntmps22
  go_wp2_with fail
  go_at_call 9
  refine Calls.mono HW.out ?_
  rintro e w1 ⟨rfl, hN1, hB1, hz1⟩
  have HO := toHid (OrdR.new (k := inst.toNat - 1) hN1 hB1)
  clear hN1 hB1 hz1 HW
  go_wp2_with fail
  refine wp164 rfl rfl (loop22_wp w n a l c inst cuts inst 0 _ HS.out HR.out HF.out _ w1 ⟨rfl, rfl, rfl, rfl, rfl, rfl, rfl, rfl, rfl⟩ _ HO.out _ ?_)
  intro u' W' hB
  have HB := toHid hB
  clear hB
  rw [frame_open164]
  go_wp2_with fail
  go_at_call 17
  refine Calls.mono (HL.out _) ?_
  rintro e w2 ⟨rfl, hB2⟩
  have HB2 := toHid (HB.out.trans (hB2.mono HB.out.size))
  clear hB2
  go_wp2_with fail
  go_ret
  exact ⟨rfl, HB2.out⟩

set_option maxRecDepth 100000 in
set_option maxHeartbeats 3000000 in
theorem ord_down (n : Nat) (inst : Int) (cuts : Bool) (a : Option Addr) (c : Nat) (l : List Op1) (w : World) (hops : SlO w a l) (hn : 1 ≤ n) (hn8 : n ≤ 8) (hi1 : 1 ≤ inst) (hi2 : inst ≤ n) :
    Calls Try.prog 22 #[.int .i64 n, .slice a l.length c, .int .i64 inst, .bool false, .bool cuts] w fun e w' => e = .returned (.bool true) ∧ Below w.heap.size w w' := by
  have HW := toHid (new_yes w n hn hn8)
  have HR := toHid (rix_down hi1 hi2)
  have HF := toHid (far_down hi1 hi2)
  have HS := toHid hops
  have HL := toHid lives17
  have hi3 : ¬ inst < 1 := by omega
  have hi4 : ¬ (n : Int) < inst := by omega
  clear hi1 hi2 hops
  go_enter Try.func22, Try.ntmps22
  go_wp2_with fail
  go_at_call 9
  refine Calls.mono HW.out ?_
  rintro e w1 ⟨rfl, hN1, hB1, hz1⟩
  have HO := toHid (OrdR.new (k := n + (inst.toNat - 1)) hN1 hB1)
  clear hN1 hB1 hz1 HW
  go_wp2_with fail
  refine wp164 rfl rfl (loop22_wp w n a l c inst cuts 0 inst _ HS.out HR.out HF.out _ w1 ⟨rfl, rfl, rfl, rfl, rfl, rfl, rfl, rfl, rfl⟩ _ HO.out _ ?_)
  intro u' W' hB
  have HB := toHid hB
  clear hB
  rw [frame_open164]
  go_wp2_with fail
  go_at_call 17
  refine Calls.mono (HL.out _) ?_
  rintro e w2 ⟨rfl, hB2⟩
  have HB2 := toHid (HB.out.trans (hB2.mono HB.out.size))
  clear hB2
  go_wp2_with fail
  go_ret
  exact ⟨rfl, HB2.out⟩

set_option maxRecDepth 100000 in
set_option maxHeartbeats 3000000 in
theorem ordered_any (n inst : Int) (up cuts : Bool) (a : Option Addr) (c : Nat) (l : List Op1) (w : World) (hops : SlO w a l) :
    Calls Try.prog 22 #[.int .i64 n, .slice a l.length c, .int .i64 inst, .bool up, .bool cuts] w fun e w' => e = .returned (.bool true) ∧ Below w.heap.size w w' := by
  by_cases hn : n < 1 ∨ 8 < n
  · have HW := toHid (new_no w n hn)
    have HL := toHid (lives17 w)
    clear hn hops
    go_enter Try.func22, Try.ntmps22
    go_wp2_with fail
    go_at_call 9
    refine Calls.mono HW.out ?_
    rintro e w1 ⟨rfl, hw⟩
    obtain rfl := hw.symm
    go_wp2_with fail
    go_at_call 17
    refine Calls.mono HL.out ?_
    rintro e w2 ⟨rfl, hB⟩
    have HB := toHid hB
    clear hB
    go_wp2_with fail
    go_ret
    exact ⟨rfl, HB.out⟩
  · obtain ⟨m, rfl⟩ : ∃ m : Nat, n = m := ⟨n.toNat, by omega⟩
    by_cases hi : 1 ≤ inst ∧ inst ≤ m
    · cases up
      · exact ord_down m inst cuts a c l w hops (by omega) (by omega) hi.1 hi.2
      · exact ord_up m inst cuts a c l w hops (by omega) (by omega) hi.1 hi.2
    · have HW := toHid (new_yes w m (by omega) (by omega))
      have HL := toHid lives17
      clear hops
      by_cases h1 : inst < 1
      · go_enter Try.func22, Try.ntmps22
        go_wp2_with fail
        go_at_call 9
        refine Calls.mono HW.out ?_
        rintro e w1 ⟨rfl, hN1, hB1, hz1⟩
        have HB1 := toHid hB1
        clear hB1 hN1 hz1
        go_wp2_with fail
        go_at_call 17
        refine Calls.mono (HL.out _) ?_
        rintro e w2 ⟨rfl, hB⟩
        have HB := toHid (HB1.out.trans (hB.mono HB1.out.size))
        clear hB
        go_wp2_with fail
        go_ret
        exact ⟨rfl, HB.out⟩
      · have h2 : (m : Int) < inst := by omega
        go_enter Try.func22, Try.ntmps22
        go_wp2_with fail
        go_at_call 9
        refine Calls.mono HW.out ?_
        rintro e w1 ⟨rfl, hN1, hB1, hz1⟩
        have HB1 := toHid hB1
        clear hB1 hN1 hz1
        go_wp2_with fail
        go_at_call 17
        refine Calls.mono (HL.out _) ?_
        rintro e w2 ⟨rfl, hB⟩
        have HB := toHid (HB1.out.trans (hB.mono HB1.out.size))
        clear hB
        go_wp2_with fail
        go_ret
        exact ⟨rfl, HB.out⟩

set_option maxRecDepth 100000 in
theorem order_walk (n inst : Int) (a : Option Addr) (c : Nat) (l : List Op1) (w : World) (hops : SlO w a l) :
    Calls Try.prog 5 #[.int .i64 n, .slice a l.length c, .int .i64 inst] w fun e w' => e = .returned (.bool true) ∧ Below w.heap.size w w' := by
  have H1 := toHid (ordered_any n inst true false a c l w hops)
  have H2 := toHid (fun (W : World) (hb : Below w.heap.size w W) => ordered_any n inst false false a c l W (hops.below hb))
  clear hops
  go_enter Try.func5, Try.ntmps5
  go_wp2_with fail
  go_at_call 22
  refine Calls.mono H1.out ?_
  rintro e w1 ⟨rfl, hB1⟩
  have HB1 := toHid hB1
  clear hB1
  go_wp2_with fail
  go_at_call 22
  refine Calls.mono (H2.out _ HB1.out) ?_
  rintro e w2 ⟨rfl, hB2⟩
  have HB2 := toHid (HB1.out.trans (hB2.mono HB1.out.size))
  clear hB2
  go_wp2_with fail
  go_ret
  exact ⟨rfl, HB2.out⟩

end Go.Proofs.Ytfdpmffoajjchaa
