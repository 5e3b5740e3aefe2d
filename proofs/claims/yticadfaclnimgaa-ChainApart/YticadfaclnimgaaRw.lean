/-
  Rows: of all that have a record, by rising number.
-/
import Derived.Test.YticadfaclnimgaaSo
import Derived.Test.YticadfaclnimgaaLk
import Derived.Deep.DeepCutAuto
namespace Go.Proofs.Yticadfaclnimgaa
open Go.RowKit Go.Maps Go.Shelf Go.Sort

theorem Try.info43 : (Try.prog.info? 43).map (fun i => (i.zero, i.size, i.bytes)) = some (some (.agg #[.int .i64 0, .int .i64 0, .int .u64 0]), 3, 24) := by kernel_rfl

/-- The rows of some transactions. -/
def rowsL (f : Int → Option Tn) (ts : List Int) : List (Int × Tn) := ts.filterMap fun t => match f t with
  | some x => if x.last = 0 then none else some (t, x)
  | none => none
def rcells (l : List (Int × Tn)) : List Value := l.flatMap fun p => [.int .i64 p.1, .int .i64 p.2.st, .int .u64 (p.2.last : Int)]
theorem rcells_len (l : List (Int × Tn)) : (rcells l).length = l.length * 3 := by
  induction l with
  | nil => rfl
  | cons a r ih => simp [rcells] at ih ⊢; omega
theorem rcells_snoc (l : List (Int × Tn)) (p : Int × Tn) : rcells (l ++ [p]) = rcells l ++ [.int .i64 p.1, .int .i64 p.2.st, .int .u64 (p.2.last : Int)] := by simp [rcells]
theorem rowsL_snoc (f : Int → Option Tn) (ts : List Int) (t : Int) : rowsL f (ts ++ [t]) = rowsL f ts ++ rowsL f [t] := by simp [rowsL]
theorem cell_three_at (w : World) (a b c : Value) (t : TypeId) : ∀ j u, [a, b, c][j]? = some u → (w.alloc (.cells #[a, b, c] t)).cell? ((⟨w.heap.size, 0, none⟩ : Addr).add j) = some u := by
  intro j u hu
  rw [addr_add]
  have hk : (w.alloc (.cells #[a, b, c] t)).heap[w.heap.size]? = some (.cells #[a, b, c] t) := heap_alloc_new w _
  obtain ⟨q0, q1, q2, _⟩ := cells3 hk
  match j, hu with
  | 0, hu => simp at hu; rw [← hu]; exact q0
  | 1, hu => simp at hu; rw [← hu]; exact q1
  | 2, hu => simp at hu; rw [← hu]; exact q2
  | j + 3, hu => simp at hu

/-- What Rows answers. -/
def RowsR (w : World) (f : Int → Option Tn) (e : Ending) (w' : World) : Prop := ∃ v ts, e = .returned v ∧ w'.ownsRow w.heap.size 43 3 v (rowsL f ts).length (rcells (rowsL f ts)) ∧ ts.Pairwise (· < ·) ∧ (∀ t, t ∈ ts ↔ f t ≠ none) ∧ ts.length ≤ 1000 ∧ Below w.heap.size w w'
section
variable {w : World} {B T A M : Nat} {K : List Lit} {σ : Sg}
set_option maxRecDepth 100000 in
set_option maxHeartbeats 4000000 in
theorem rows24 (h : Tb w B T A K M σ) (hwf : ∀ t x, σ.f t = some x → Wt t) : Calls Try.prog 24 #[.pointer (some ⟨T, 0, none⟩)] w fun e w' => RowsR w σ.f e w' := by
  obtain ⟨D, ho, hnd, hm, hsz⟩ := intKeys_spec h.map
  have hkt := h.kl
  have hT := h.cellT
  have hk := keys38 (some A) w
  have hs := sorted37 A _ D vEl w ho (by unfold maxLen; omega) (by omega)
  have hlen : (intKeys D).length ≤ 1000 := by
    have := ho.entries lawI
    obtain ⟨es, hE, _⟩ := this
    have h1 : (intKeys D).length = es.length := by rw [hE]; simp [intKeys]
    rw [h1]
    have h2 : Maps.size D = es.length := by rw [hE]; rfl
    omega
  have HF := toHid (show ∀ v ss w', ss.Perm (intKeys D) → w'.ownsRow (w.alloc (.cells #[.map (some A)] 69)).heap.size 3 1 v ss.length ((srtI ss).map (Value.int .i64)) → Below (w.alloc (.cells #[.map (some A)] 69)).heap.size (w.alloc (.cells #[.map (some A)] 69)) w' →
      ∃ ts, w'.ownsRow w.heap.size 3 1 v (List.length ts) (ts.map (Value.int .i64)) ∧ ts.Pairwise (· < ·) ∧ (∀ t, t ∈ ts ↔ σ.f t ≠ none) ∧ ts.length ≤ 1000 ∧ Below w.heap.size w w' from fun v ss w' hp hr hb => by
    have e1 : (srtI ss).length = ss.length := (srtI_perm ss).length_eq
    refine ⟨srtI ss, by rw [e1]; exact ownsRow_base hr (by simp), riseI_of (srtI_le ss) (((srtI_perm ss).trans hp).nodup_iff.2 hnd), fun t => ?_, by rw [e1, hp.length_eq]; exact hlen, bnext ((Below.refl _ _).alloc (Nat.le_refl _) _) hb⟩
    rw [(srtI_perm ss).mem_iff, hp.mem_iff, hm]
    simp only [ptF]
    cases σ.f t <;> simp)
  have HH := toHid h
  have HW := toHid hwf
  obtain ⟨i0, hi0, hz0, hz1, hz2⟩ := info_parts Try.info43
  clear h ho hnd hm hwf
  go_enter Try.func24, Try.ntmps24
  go_wp2_with (first
    | (go_at_call 38; refine hk.mono ?_; rintro e w1 ⟨rfl, hw1⟩; obtain rfl := hw1.symm)
    | (go_at_call 37; refine hs.mono ?_; rintro e w2 ⟨v, ss, rfl, hp, hr, _, hb⟩; obtain ⟨ts, hts⟩ := HF.out v ss w2 hp hr hb; have HR := toHid hts; obtain ⟨va, vc, rfl⟩ := ownsRow_shape2 hts.1; clear hp hr hb hts))
  have hl1000 := HR.out.2.2.2.1
  go_loopw [3, 17] (fun v i W => ∃ k : Nat, k ≤ ts.length ∧ i = .int .i64 k ∧ W.ownsRow w.heap.size 43 3 v (rowsL σ.f (ts.take k)).length (rcells (rowsL σ.f (ts.take k))) ∧ W.ownsRow w.heap.size 3 1 (.slice va ts.length vc) ts.length (ts.map (Value.int .i64)) ∧ Below w.heap.size w W) (fun _ i _ => ts.length - (intOf i).toNat)
  case atStart => exact ⟨0, by omega, rfl, ⟨rfl, .inl ⟨rfl, rfl⟩⟩, HR.out.1, HR.out.2.2.2.2⟩
  case round =>
    obtain ⟨k, hk1, rfl, hA, hK, hB⟩ := hrel
    obtain ⟨ya, yc, rfl⟩ := ownsRow_shape2 hA
    have HA := toHid hA
    have HK := toHid hK
    have HB := toHid hB
    clear hA hK hB hk hs HF
    by_cases hlt : k < ts.length
    · have hlt' : (k : Int) < (ts.length : Int) := by omega
      obtain ⟨t, hq⟩ : ∃ t, ts[k] = t := ⟨_, rfl⟩
      obtain ⟨x, hx⟩ : ∃ x, σ.f t = some x := by
        have := (HR.out.2.2.1 t).1 (by rw [← hq]; exact List.getElem_mem hlt)
        cases e : σ.f t with
        | none => exact absurd e this
        | some x => exact ⟨x, rfl⟩
      have HWt := toHid (HW.out t x hx)
      have hcell : ∃ g, va = some ⟨g, 0, none⟩ ∧ wr.cell? ⟨g, k, none⟩ = some (.int .i64 t) := by
        rcases HK.out.2 with ⟨h0, h1⟩ | ⟨g, cap, cur, e, _⟩
        · omega
        · injection e with e1 e2 e3
          subst e1
          refine ⟨g, rfl, ?_⟩
          have := HK.out.cells (g := g) rfl k (.int .i64 t) (by simp [hlt, hq])
          rw [addr_add] at this
          exact this
      obtain ⟨g, rfl, hc⟩ := hcell
      have HTr := toHid (row12 (HH.out.below HB.out) HWt.out)
      rw [hx] at HTr
      have HSt := toHid (show rowsL σ.f (ts.take (k + 1)) = rowsL σ.f (ts.take k) ++ (if x.last = 0 then [] else [(t, x)]) from by
        rw [List.take_succ_eq_append_getElem hlt, rowsL_snoc, hq]
        congr 1
        by_cases h : x.last = 0 <;> simp [rowsL, hx, h])
      have hll : (rowsL σ.f (ts.take k)).length ≤ 1000 := by
        have h1 : (rowsL σ.f (ts.take k)).length ≤ (ts.take k).length := List.length_filterMap_le _ _
        have h2 : (ts.take k).length ≤ k := List.length_take_le _ _
        omega
      generalize rowsL σ.f (ts.take k) = L at *
      have HOn := toHid (show ∀ W, Below wr.heap.size wr W → W.ownsRow w.heap.size 43 3 (.slice ya L.length yc) L.length (rcells L) ∧ W.ownsRow w.heap.size 3 1 (.slice (some ⟨g, 0, none⟩) ts.length vc) ts.length (ts.map (Value.int .i64)) ∧ Below w.heap.size w W from fun W hW => ⟨own_at HA.out fun j hj => hW.block j (own_blk HA.out hj).2, own_at HK.out fun j hj => hW.block j (own_blk HK.out hj).2, HB.out.trans (hW.mono HB.out.size)⟩)
      by_cases h0 : x.last = 0
      · have g0 : ((lastO (some x) : Int) == 0) = true := by simp [lastO, h0]
        rw [if_pos h0, List.append_nil] at HSt
        clear h0 hx hq
        go_wp2_with (go_at_call 12; refine Calls.mono HTr.out ?_; rintro e w3 ⟨rfl, hb3⟩; have HW3 := toHid (HOn.out _ (hb3.alloc hb3.size (.cells (txV t (some x)) 43))); clear hb3)
        go_roundw
        case rel => exact ⟨k + 1, by omega, by go_num, by rw [HSt.out]; exact HW3.out.1, HW3.out.2.1, HW3.out.2.2⟩
        case measure => simp [intOf]; omega
      · have g0 : ((lastO (some x) : Int) == 0) = false := by simp [lastO]; omega
        rw [if_neg h0] at HSt
        clear h0 hx hq
        go_upto_region 9 with (go_at_call 12; refine Calls.mono HTr.out ?_; rintro e w3 ⟨rfl, hb3⟩; have HW3 := toHid (HOn.out _ (hb3.alloc hb3.size (.cells (txV t (some x)) 43))); have hn3 : (w3.alloc (.cells (txV t (some x)) 43)).heap[w3.heap.size]? = some (.cells (txV t (some x)) 43) := heap_alloc_new w3 _; clear hb3)
        obtain ⟨c0, c1, c2⟩ := cellsB hn3
        simp only [txV] at HW3 c0 c1 c2
        generalize w3.alloc (.cells #[.int .i64 (idO t (some x)), .int .i64 (stO (some x)), .int .u64 (lastO (some x) : Int)] 43) = W3 at *
        have HG := toHid (HW3.out.1.alloc (.cells #[.int .i64 (idO t (some x)), .int .i64 (stO (some x)), .int .u64 (lastO (some x) : Int)] 43))
        have hsz3 := HW3.out.2.2.size
        clear hn3
        go_wp2_with (at_builtin; refine wpList_append_own _ rfl (.tmp 30) (.tmp 32) 31 rfl w.heap.size 43 i0 _ 3 24 Try.underlying31 hi0 hz0 hz1 hz2 rfl (by decide) _ L.length _ rfl HG.out ⟨W3.heap.size, 0, none⟩ 1 1 [_, _, _] rfl rfl (cell_three_at _ _ _ _ _) (by intro u hu; simp at hu; rcases hu with rfl | rfl | rfl <;> rfl) (by unfold maxLen; omega) (by omega) (by simp; omega) ?_; intro v7 w7 o1 o2 _; have HF7 := toHid (show w7.ownsRow w.heap.size 43 3 v7 (L ++ [(t, x)]).length (rcells (L ++ [(t, x)])) ∧ w7.ownsRow w.heap.size 3 1 (.slice (some ⟨g, 0, none⟩) ts.length vc) ts.length (ts.map (Value.int .i64)) ∧ Below w.heap.size w w7 from (by
          refine ⟨by rw [rcells_snoc, List.length_append]; exact o1, own_at (HW3.out.2.1.alloc _) fun j hj => o2.block j (own_blk (HW3.out.2.1.alloc (.cells #[.int .i64 (idO t (some x)), .int .i64 (stO (some x)), .int .u64 (lastO (some x) : Int)] 43)) hj).2 (fun e => ?_), (HW3.out.2.2.alloc hsz3 _).trans ((Turn.of_grown o2).below (by simp; omega) fun i hi e => ?_)⟩
          · obtain ⟨_, cur, h2⟩ := own_kind HG.out e.symm
            obtain ⟨_, cur', h3⟩ := own_kind (HW3.out.2.1.alloc (.cells #[.int .i64 (idO t (some x)), .int .i64 (stO (some x)), .int .u64 (lastO (some x) : Int)] 43)) hj
            rw [h2] at h3
            injection h3 with h3
            injection h3 with h4 h5
            exact absurd h5 (by decide)
          · have := (own_blk HG.out e.symm).1
            omega)); obtain ⟨ay, cy, rfl⟩ := ownsRow_shape2 o1; clear o1 o2)
        go_roundw
        case rel => exact ⟨k + 1, by omega, by go_num, by rw [HSt.out]; exact HF7.out.1, HF7.out.2.1, HF7.out.2.2⟩
        case measure => simp [intOf]; omega
    · have hlt' : ¬ (k : Int) < (ts.length : Int) := by omega
      obtain rfl : k = ts.length := by omega
      rw [List.take_length] at HA
      go_wp2
      go_ret
      exact ⟨_, ts, rfl, by simpa using HA.out, HR.out.2.1, HR.out.2.2.1, HR.out.2.2.2.1, HB.out⟩
end
end Go.Proofs.Yticadfaclnimgaa
