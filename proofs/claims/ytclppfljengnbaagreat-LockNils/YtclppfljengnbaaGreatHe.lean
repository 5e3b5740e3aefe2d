/-
  What somebody waits for, what somebody has.
-/
import Derived.Test.YtclppfljengnbaaGreatHd
import Derived.Laws.ResultCell
namespace Go.Proofs.YtclppfljengnbaaGreat
open Go.RowKit Go.Maps Go.Sort Go.Shelf

theorem res_cell_tmp {P : Program} {fn : Func} {p u : Tmp} {ty : TypeId} (h : fn.results = #[.cell p ty, .tmp u]) (tmps : Array Value) (w : World) (g : Nat) (t : TypeId) (cs : Array Value) (fr : Nat × Nat) (d : TypeDesc)
    (hp : tmps.getD p undef = .pointer (some ⟨g, 0, none⟩)) (hg : w.heap[g]? = some (.cells cs t fr))
    (hu : P.underlying ty = some d) (hd : (match d with | .struct _ | .array _ _ => true | _ => false) = true) (hi : (P.info? ty).map (·.size) = some cs.size) :
    (results fn tmps).run P w = .ok (.tuple #[.agg cs, tmps.getD u undef]) w := by
  rw [results_cell_tmp h, hp]
  simp [asAddr, run_loadVar_row w g t ty cs fr d hg hu hd hi]

def hcells (ks : List Name) (f : Name → Nat) : List Value := ks.flatMap fun k => [nmV k, .int .i64 ((f k : Nat) : Int)]
theorem hcells_snoc (ks : List Name) (f : Name → Nat) (k : Name) : hcells (ks ++ [k]) f = hcells ks f ++ [nmV k, .int .i64 ((f k : Nat) : Int)] := by simp [hcells]
theorem info34 : (Tryz.prog.info? 106).map (fun i => (i.zero, i.size, i.bytes)) = some (some (.agg #[.string ⟨#[]⟩, .int .i64 0]), 2, 24) := by kernel_rfl
theorem cell_two (w : World) (a b : Value) (t : TypeId) : ∀ j u, [a, b][j]? = some u → (w.alloc (.cells #[a, b] t)).cell? ((⟨w.heap.size, 0, none⟩ : Addr).add j) = some u := by
  intro j u hu
  rw [addr_add]
  have hk : (w.alloc (.cells #[a, b] t)).heap[w.heap.size]? = some (.cells #[a, b] t) := heap_alloc_new w _
  match j, hu with
  | 0, hu => simp at hu; rw [← hu]; unfold World.cell?; rw [hk]; rfl
  | 1, hu => simp at hu; rw [← hu]; unfold World.cell?; rw [hk]; rfl
  | j + 2, hu => simp at hu

section
variable {KT KN : List Lit} {w : World} {σ : Sg} {Q : Name → List Nat} {t : Int}

/-- What somebody waits for. -/
def wantV (σ : Sg) (t : Int) : Value × Bool := match σ.pw t with
  | some z => (.agg #[nmV (σ.nd z).n, .int .i64 (((σ.nd z).m : Nat) : Int)], true)
  | none => (.agg #[nmV [], .int .i64 0], false)

set_option maxRecDepth 100000 in
set_option maxHeartbeats 4000000 in
theorem waits9 (h : Mem KT KN w σ) (G : Good σ Q (fun _ => False) (fun _ => False)) (ht : (Lit.int .i64 t).wf = true) : Calls Tryz.prog 17 #[.pointer (some ⟨σ.T, 0, none⟩), .int .i64 t] w fun e w' => e = .returned (.tuple #[(wantV σ t).1, .bool (wantV σ t).2]) ∧ Below w.heap.size w w' := by
  have hba : ∀ o : Obj, Below w.heap.size w (w.alloc o) := fun o => (Below.refl _ _).alloc (Nat.le_refl _) _
  have h1 := h.below (hba (.cells #[nmV [], .int .i64 0] 31))
  have hpt := party_yes h1 ht
  have fin : ∀ (S : Name) (m : Int) tmps, Array.getD tmps 4 undef = .pointer (some ⟨w.heap.size, 0, none⟩) → (results Tryz.f17 tmps).run Tryz.prog (w.alloc (.cells #[nmV S, .int .i64 m] 31)) = .ok (.tuple #[.agg #[nmV S, .int .i64 m], tmps.getD 5 undef]) (w.alloc (.cells #[nmV S, .int .i64 m] 31)) := fun S m tmps hp =>
    res_cell_tmp rfl tmps _ w.heap.size 31 #[nmV S, .int .i64 m] (0, 0) _ hp (heap_alloc_new w _) Tryz.underlying31 rfl (by kernel_rfl)
  cases hp : σ.pb t with
  | none =>
    rw [hp, ptr_none] at hpt
    have hw := (G.dead t hp).1
    have e : wantV σ t = (.agg #[nmV [], .int .i64 0], false) := by unfold wantV; rw [hw]
    rw [e]
    clear h h1 G hw hp e
    go_enter Tryz.func17, Tryz.ntmps17
    go_wp2_with (first | (go_at_call 43; refine hpt.mono ?_; rintro e w' ⟨rfl, hw⟩; obtain rfl := hw.symm))
    exact bodyPost_ret (fin [] 0 _ rfl) rfl ⟨rfl, hba _⟩
  | some p =>
    rw [hp, ptr_some] at hpt
    obtain ⟨_, c1, _⟩ := (h1.hP t p hp).cells
    cases hw : σ.pw t with
    | none =>
      have e : wantV σ t = (.agg #[nmV [], .int .i64 0], false) := by unfold wantV; rw [hw]
      rw [e]
      rw [hw, ptr_none] at c1
      clear h h1 G hw hp e
      go_enter Tryz.func17, Tryz.ntmps17
      go_wp2_with (first | (go_at_call 43; refine hpt.mono ?_; rintro e w' ⟨rfl, hw⟩; obtain rfl := hw.symm))
      exact bodyPost_ret (fin [] 0 _ rfl) rfl ⟨rfl, hba _⟩
    | some z =>
      have e : wantV σ t = (.agg #[nmV (σ.nd z).n, .int .i64 (((σ.nd z).m : Nat) : Int)], true) := by unfold wantV; rw [hw]
      rw [e]
      rw [hw, ptr_some] at c1
      obtain ⟨_, z1, z2, _⟩ := (h1.hW z (by rw [(G.node _ z (G.wait t z hw).1).tag]; exact trivial)).cells
      clear h h1 G hw hp e
      generalize (σ.nd z).n = n at *
      generalize (((σ.nd z).m : Nat) : Int) = m at *
      go_enter Tryz.func17, Tryz.ntmps17
      go_wp2_with (first | (go_at_call 43; refine hpt.mono ?_; rintro e w' ⟨rfl, hw⟩; obtain rfl := hw.symm))
      exact bodyPost_ret (fin n m _ rfl) rfl ⟨rfl, hba _⟩

set_option maxRecDepth 100000 in
set_option maxHeartbeats 4000000 in
theorem held8 (h : Mem KT KN w σ) (G : Good σ Q (fun _ => False) (fun _ => False)) (ht : (Lit.int .i64 t).wf = true) : Calls Tryz.prog 23 #[.pointer (some ⟨σ.T, 0, none⟩), .int .i64 t] w fun e w' => ∃ v ks, e = .returned v ∧ w'.ownsRow w.heap.size 106 2 v (List.length ks) (hcells ks (σ.ph t)) ∧ ks.Pairwise (· < ·) ∧ (∀ k, k ∈ ks ↔ σ.ph t k ≠ 0) ∧ ks.length ≤ 1000 ∧ Below w.heap.size w w' := by
  have hpt := party_yes h ht
  cases hp : σ.pb t with
  | none =>
    rw [hp, ptr_none] at hpt
    have hd := (G.dead t hp).2
    have HR := toHid (show ∃ ks, w.ownsRow w.heap.size 106 2 (.slice none 0 0) (List.length ks) (hcells ks (σ.ph t)) ∧ ks.Pairwise (· < ·) ∧ (∀ k, k ∈ ks ↔ σ.ph t k ≠ 0) ∧ ks.length ≤ 1000 ∧ Below w.heap.size w w from ⟨[], World.ownsRow_nil _ _ _ _, List.Pairwise.nil, (fun k => by simp [hd k]), by simp, Below.refl _ _⟩)
    clear h G hp hd
    go_enter Tryz.func23, Tryz.ntmps23
    go_wp2_with (first | (go_at_call 43; refine hpt.mono ?_; rintro e w' ⟨rfl, hw⟩; obtain rfl := hw.symm))
    go_ret
    obtain ⟨ks, hks⟩ := HR.out
    exact ⟨_, ks, rfl, hks⟩
  | some p =>
    rw [hp, ptr_some] at hpt
    have hpp := h.hP t p hp
    obtain ⟨D, ho, hnd, hm, hsz⟩ := strKeys_spec hpp.map
    have hkn := h.kn
    obtain ⟨p0, _, _⟩ := hpp.cells
    have hk := keys25 (some (σ.pm t)) w
    have hs := sorted24 (σ.pm t) _ D vEl w ho (by unfold maxLen; omega) (by omega)
    have hlen : (strKeys D).length ≤ 1000 := by
      obtain ⟨es, hE, _⟩ := ho.entries lawS
      have h1 : (strKeys D).length = es.length := by rw [hE]; simp [strKeys]
      rw [h1]
      have h2 : Maps.size D = es.length := by rw [hE]; rfl
      omega
    have HF := toHid (show ∀ v ss w', ss.Perm (strKeys D) → w'.ownsRow (w.alloc (.cells #[.map (some (σ.pm t))] 95)).heap.size 9 1 v ss.length ((srtT ss).map encStr) → Below (w.alloc (.cells #[.map (some (σ.pm t))] 95)).heap.size (w.alloc (.cells #[.map (some (σ.pm t))] 95)) w' →
        ∃ ts, w'.ownsRow w.heap.size 9 1 v (List.length ts) (ts.map encStr) ∧ ts.Pairwise (· < ·) ∧ (∀ k, k ∈ ts ↔ σ.ph t k ≠ 0) ∧ ts.length ≤ 1000 ∧ Below w.heap.size w w' from fun v ss w' hp hr hb => by
      have e1 : (srtT ss).length = ss.length := (srtT_perm ss).length_eq
      refine ⟨srtT ss, by rw [e1]; exact ownsRow_base hr (by simp), riseT_of (srtT_le ss) (((srtT_perm ss).trans hp).nodup_iff.2 hnd), fun k => ?_, by rw [e1, hp.length_eq]; exact hlen, bnext ((Below.refl _ _).alloc (Nat.le_refl _) _) hb⟩
      rw [(srtT_perm ss).mem_iff, hp.mem_iff, hm]
      simp only [phF]
      by_cases e : σ.ph t k = 0 <;> simp [e])
    have HLk := toHid (show ∀ W, Below w.heap.size w W → ∀ k, σ.ph t k ≠ 0 → W.cell? ⟨p, 0, none⟩ = some (.map (some (σ.pm t))) ∧ (Instr.lookup 95 (.map (some (σ.pm t))) (nmV k) false).run Tryz.prog W = .ok (.int .i64 ((σ.ph t k : Nat) : Int)) W from fun W hW k hk => by
      have hpW := (h.below hW).hP t p hp
      have hkl : k.length ≤ 16 := by
        cases e : σ.lb k with
        | none => exact absurd ((G.gone k e).1 t) hk
        | some b => exact G.nm k b e
      have := hpW.map.look lawS Tryz.underlying95 zero29 (keyS hkl)
      rw [phF_get] at this
      exact ⟨hpW.cells.1, this⟩)
    obtain ⟨i0, hi0, hz0, hz1, hz2⟩ := info_parts info34
    clear h ho hnd hm hpp G
    go_enter Tryz.func23, Tryz.ntmps23
    go_wp2_with (first
      | (go_at_call 43; refine hpt.mono ?_; rintro e w' ⟨rfl, hw⟩; obtain rfl := hw.symm)
      | (go_at_call 52; refine hk.mono ?_; rintro e w1 ⟨rfl, hw1⟩; obtain rfl := hw1.symm)
      | (go_at_call 51; refine hs.mono ?_; rintro e w2 ⟨v, ss, rfl, hp, hr, _, hb⟩; obtain ⟨ts, t1, t2, t3, t4, t5⟩ := HF.out v ss w2 hp hr hb; obtain ⟨va, vc, rfl⟩ := ownsRow_shape t1; have O2 := toHid t1; have R2 := toHid t2; have N2 := toHid t3; have L2 := toHid t4; have B2 := toHid t5; clear hp hr hb t1 t2 t3 t4 t5))
    have hlt := L2.out
    have HRd := toHid (show ∀ W, Below w2.heap.size w2 W → ∀ i (hi : i < ts.length), ∃ g, va = some ⟨g, 0, none⟩ ∧ W.cell? ⟨g, i, none⟩ = some (nmV ts[i]) from fun W hW i hi => by
      have O := O2.out
      rcases O.2 with ⟨_, e⟩ | ⟨g, cap, cur, hv, hg, hh, _⟩
      · omega
      · injection hv with e1 e2 e3
        subst e1
        refine ⟨g, rfl, ?_⟩
        rw [hW.cell (p := ⟨g, i, none⟩) (lt_of_heap hh)]
        exact own_get O hi)
    clear hpt hk hs HF p0
    go_loopw [6, 21] (fun v k W => ∃ (i : Nat) (a : Option Addr) (c : Nat), i ≤ ts.length ∧ v = .slice a i c ∧ k = .int .i64 i ∧ Hid (W.ownsRow w2.heap.size 106 2 (.slice a i c) i (hcells (ts.take i) (σ.ph t))) ∧ Hid (Below w2.heap.size w2 W)) (fun _ k _ => ts.length - (intOf k).toNat)
    case atStart => exact ⟨0, none, 0, Nat.zero_le _, rfl, rfl, toHid (World.ownsRow_nil _ _ _ _), toHid (Below.refl _ _)⟩
    case round =>
      obtain ⟨i, a, c, hi, rfl, rfl, O, B⟩ := hrel
      have hq0 : 0 ≤ (i : Int) := by omega
      by_cases hlt2 : i < ts.length
      · have hq1 : (i : Int) < (ts.length : Int) := by omega
        obtain ⟨g, rfl, hcell⟩ := HRd.out wr B.out i hlt2
        obtain ⟨k, hk⟩ : ∃ k, ts[i] = k := ⟨_, rfl⟩
        rw [hk] at hcell
        obtain ⟨q0, q1⟩ := HLk.out wr (bnext B2.out B.out) k ((N2.out k).1 (by rw [← hk]; exact List.getElem_mem hlt2))
        have hw2 := B.out.size
        have HT := toHid (show ts.take (i + 1) = ts.take i ++ [k] from by rw [List.take_add_one, List.getElem?_eq_getElem hlt2, hk]; rfl)
        clear hk
        generalize hmk : ((σ.ph t k : Nat) : Int) = mk at *
        have HMK := toHid hmk
        clear hmk
        go_wp2_with (first
          | (at_builtin; refine wpList_append_own _ rfl _ _ 59 rfl w2.heap.size 106 i0 _ 2 24 Tryz.underlying59 hi0 hz0 hz1 hz2 rfl (by decide) _ i _ rfl (O.out.alloc _) ⟨wr.heap.size, 0, none⟩ 1 1 [nmV k, .int .i64 mk] rfl rfl (cell_two wr _ _ _) (by intro u hu; simp at hu; rcases hu with rfl | rfl <;> rfl) (by unfold maxLen; omega) (by omega) (by simp; omega) ?_; intro v7 w7 hown7 hgrow7 _)
          | fail)
        have HO7 := toHid hown7
        have HB7 := toHid (show Below w2.heap.size w2 w7 from by
          have hb6 : Below wr.heap.size wr (wr.alloc (.cells #[nmV k, .int .i64 mk] 106)) := (Below.refl _ _).alloc (Nat.le_refl _) _
          refine (bnext B.out hb6).trans ⟨hgrow7.os, hgrow7.tape, hgrow7.output, hgrow7.size, fun j hj => hgrow7.block j (by simp; omega) (fun e => ?_)⟩
          have := (ownsRow_blk O.out e.symm).1
          omega)
        obtain ⟨a7, c7, hv7⟩ : ∃ a c, v7 = .slice a (i + 1) c := by
          rcases hown7.2 with ⟨_, h0⟩ | ⟨g, cap, cur, rfl, _⟩
          · cases h0
          · exact ⟨_, _, rfl⟩
        subst hv7
        clear hown7 hgrow7
        go_roundw
        case rel => exact ⟨i + 1, a7, c7, by omega, rfl, by simp, toHid (by rw [HT.out, hcells_snoc, HMK.out]; exact HO7.out), HB7⟩
        case measure => first | omega | (simp only [intOf]; omega)
      · obtain rfl : i = ts.length := by omega
        have HR := toHid (show ∃ ks, wr.ownsRow w.heap.size 106 2 (.slice a ts.length c) (List.length ks) (hcells ks (σ.ph t)) ∧ ks.Pairwise (· < ·) ∧ (∀ k, k ∈ ks ↔ σ.ph t k ≠ 0) ∧ ks.length ≤ 1000 ∧ Below w.heap.size w wr from
          ⟨ts, by have := O.out; rw [List.take_length] at this; exact ownsRow_base this B2.out.size, R2.out, N2.out, L2.out, bnext B2.out B.out⟩)
        clear O B hlt2
        go_wp2_with fail
        go_ret
        obtain ⟨ks, hks⟩ := HR.out
        exact ⟨_, ks, rfl, hks⟩
end

end Go.Proofs.YtclppfljengnbaaGreat
