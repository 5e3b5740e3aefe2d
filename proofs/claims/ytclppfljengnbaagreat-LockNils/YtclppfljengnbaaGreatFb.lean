/-
  Free.
-/
import Derived.Test.YtclppfljengnbaaGreatFa
namespace Go.Proofs.YtclppfljengnbaaGreat
open Go.RowKit Go.Maps Go.Sort

/-- What t had goes, name by name: left tells what is still to go. -/
noncomputable def partS (σ : Sg) (t : Int) (left : Lit → Bool) : Sg := { σ with lh := fun n m => if left (.string n) = true then σ.lh n m else upd (σ.lh n m) t false }

theorem info9 : (Tryz.prog.info? 9).map (fun i => (i.zero, i.size, i.bytes)) = some (some (.string ⟨#[]⟩), 1, 16) := by kernel_rfl
theorem cell_one (w : World) (v : Value) (t : TypeId) : ∀ j u, [v][j]? = some u → (w.alloc (.cells #[v] t)).cell? ((⟨w.heap.size, 0, none⟩ : Addr).add j) = some u := by
  intro j u hj
  obtain rfl : j = 0 := by have := (List.getElem?_eq_some_iff.1 hj).1; simpa using this
  simp at hj
  subst hj
  have h1 := (MapKept.heap_alloc w (.cells #[v] t)).1
  show (w.alloc (.cells #[v] t)).cell? ⟨w.heap.size, 0, none⟩ = some v
  unfold World.cell?
  rw [h1]
  rfl

section
variable {KT KN : List Lit} {w : World} {σ : Sg} {Q : Name → List Nat} {p : Nat} {t : Int}

set_option maxRecDepth 100000 in
set_option maxHeartbeats 4000000 in
theorem free18 (h : Mem KT KN w σ) (G : Good σ Q (fun _ => False) (fun _ => False)) (ht : (Lit.int .i64 t).wf = true) :
    Calls Tryz.prog 18 #[.pointer (some ⟨σ.T, 0, none⟩), .int .i64 t] w fun e w' => ∃ v, e = .returned v ∧ ∃ σ' Q' l' ns, Mem KT KN w' σ' ∧ Good σ' Q' (fun _ => False) (fun _ => False) ∧ w'.ownsRow w.heap.size 53 3 v l'.length (gcells l') ∧ (∀ g, v.ownBlock = some g → σ'.own g = .no) ∧ Step w σ w' σ' ∧ LetA ns ((absS σ Q).free t) (absS σ' Q') l' ∧ ns.Pairwise (· < ·) ∧ (∀ k, k ∈ ns ↔ (∃ z, σ.pw t = some z ∧ k = (σ.nd z).n) ∨ σ.ph t k ≠ 0) ∧ l'.length ≤ 10000000 := by
  have hpt := party_yes h ht
  cases hp : σ.pb t with
  | none =>
    rw [hp, ptr_none] at hpt
    obtain ⟨hw, h0⟩ := G.dead t hp
    have e1 : (absS σ Q).free t = absS σ Q := by
      have := G.unwaitNone hw
      unfold AS.free
      rw [this]
      unfold absS
      simp only [AS.mk.injEq, and_true]
      exact upd_self' (funext h0)
    have HR := toHid (show ∃ σ' Q' l' ns, Mem KT KN w σ' ∧ Good σ' Q' (fun _ => False) (fun _ => False) ∧ w.ownsRow w.heap.size 53 3 (.slice none 0 0) (List.length l') (gcells l') ∧ (∀ g, (Value.slice none 0 0).ownBlock = some g → σ'.own g = .no) ∧ Step w σ w σ' ∧ LetA ns ((absS σ Q).free t) (absS σ' Q') l' ∧ ns.Pairwise (· < ·) ∧ (∀ k, k ∈ ns ↔ (∃ z, σ.pw t = some z ∧ k = (σ.nd z).n) ∨ σ.ph t k ≠ 0) ∧ l'.length ≤ 10000000 from
      ⟨σ, Q, [], [], h, G, World.ownsRow_nil _ _ _ _, (fun g hg => by cases hg), Step.refl _ _, (by rw [e1]; exact .nil), List.Pairwise.nil, (fun k => by simp [hw, h0]), by simp⟩)
    clear h G hw h0 e1
    go_enter Tryz.func18, Tryz.ntmps18
    go_wp2_with (first | (go_at_call 43; refine hpt.mono ?_; rintro e w' ⟨rfl, hw⟩; obtain rfl := hw.symm))
    go_ret
    exact ⟨_, rfl, HR.out⟩
  | some p =>
    rw [hp, ptr_some] at hpt
    have hst := stop_any h G hp
    have HM := toHid h
    have HP := toHid hp
    obtain ⟨T, hT⟩ : ∃ T, σ.T = T := ⟨_, rfl⟩
    have HT := toHid hT
    have HG := toHid G
    rw [hT] at hpt hst ⊢
    have hni := @run_range_nilMap
    clear h G hT hp hni
    go_enter Tryz.func18, Tryz.ntmps18
    go_wp2_with (first
      | (go_at_call 43; refine hpt.mono ?_; rintro e w' ⟨rfl, hw⟩; obtain rfl := hw.symm)
      | (go_at_call 44; refine hst.mono ?_; rintro e w1 ⟨va0, c0, ns0, σ1, Q1, rfl, o1, m1, s1, g1, pw1, own1, pb1, ph1, lb1, pm1, ab1, nz1⟩; have O1 := toHid o1; have M1 := toHid m1; have S1 := toHid s1; have G1 := toHid g1; have PW1 := toHid pw1; have OW1 := toHid own1; have PB1 := toHid pb1; have PH1 := toHid ph1; have LB1 := toHid lb1; have AB1 := toHid ab1; have NZ1 := toHid nz1; have P1 := toHid (show σ1.pb t = some p from by rw [pb1]; exact HP.out); obtain ⟨q0, q1, qf⟩ := (m1.hP t p P1.out).cells; obtain ⟨w2, cnt, r1, r2, r3, r4⟩ := (m1.hP t p P1.out).map.range lawS Tryz.underlying95; have R2 := toHid r2; have R3 := toHid r3; have R4 := toHid r4; have T1 := toHid (show σ1.T = T from s1.top.trans HT.out); clear r2 r3 r4 o1 m1 s1 g1 pw1 own1 pb1 ph1 lb1 ab1 nz1 pm1))
    try go_frame
    obtain ⟨r, hr⟩ : ∃ r, w1.heap.size = r := ⟨_, rfl⟩
    rw [hr] at R2 ⊢
    have Hr := toHid hr
    clear hr r1 q0 q1 qf hpt hst
    have hsz1 : w.heap.size ≤ w1.heap.size := S1.out.turn.size
    have HNo := toHid (show ∀ i, w.heap.size ≤ i → σ1.own i = .no from fun i hi => by rw [OW1.out]; exact own_new HM.out hi)
    have hb2 : Below w1.heap.size w1 w2 := ⟨R3.out.os, R3.out.tape, R3.out.output, R3.out.size, fun i hi => R3.out.block i hi (by simp)⟩
    have HSome := toHid (show ∀ k, σ1.ph t k ≠ 0 → ∃ b, σ1.lb k = some b from fun k hk => by
      cases e : σ1.lb k with
      | some b => exact ⟨b, rfl⟩
      | none => exact absurd ((G1.out.gone k e).1 t) hk)
    have HLh0 := toHid (show ∀ k b, σ1.lb k = some b → ∀ m, σ1.ph t k ≠ m → σ1.lh k m t = false from fun k b hb m hm => by
      cases e : σ1.lh k m t
      · rfl
      · exact absurd ((G1.out.lhm k b hb m t).1 e).2 hm)
    have HLh1 := toHid (show ∀ k b, σ1.lb k = some b → σ1.ph t k = 0 → ∀ m, σ1.lh k m t = false from fun k b hb h0 m => by
      cases e : σ1.lh k m t
      · rfl
      · obtain ⟨e1, e2⟩ := (G1.out.lhm k b hb m t).1 e
        exact absurd (e2.symm.trans h0) e1)
    have M2 := toHid (show Mem KT KN w2 (partS σ1 t fun x => (phF (σ1.ph t) x).isSome) from (M1.out.below hb2).lhCongr fun k b hb => by
      funext m
      show (if (phF (σ1.ph t) (.string k)).isSome = true then σ1.lh k m else upd (σ1.lh k m) t false) = σ1.lh k m
      by_cases e : σ1.ph t k = 0
      · rw [if_neg (by simp [phF, e])]
        exact upd_self' (HLh1.out k b hb e m)
      · rw [if_pos (by simp [phF, e])])
    have S2 := toHid (show Step w σ w2 (partS σ1 t fun x => (phF (σ1.ph t) x).isSome) from S1.out.trans ⟨Turn.of_below hb2 _, fun i hi => .inl hi, rfl, fun _ _ => rfl⟩)
    have O2 := toHid (ownsRow_at O1.out fun g hg => hb2.block g (ownsRow_blk O1.out hg).2)
    clear hb2 hsz1
    go_loopw [6] (fun v W => ∃ (va : Option Addr) (c : Nat) (L : List Name) (left : Lit → Bool) (cnt : Nat), v = .slice va L.length c ∧ Hid (RngV Tryz.prog 9 W (σ1.pm t) r KN (phF (σ1.ph t)) left cnt) ∧ Hid (W.ownsRow w.heap.size 9 1 (.slice va L.length c) L.length (L.map encStr)) ∧ Hid (Mem KT KN W (partS σ1 t left)) ∧ Hid (Step w σ W (partS σ1 t left)) ∧ Hid (∃ ns, L = ns0 ++ ns ∧ ns.Nodup ∧ ∀ k, k ∈ ns ↔ (σ1.ph t k ≠ 0 ∧ left (.string k) = false))) (fun _ W => W.rangeLeft (σ1.pm t) r)
    case atStart => exact ⟨va0, c0, ns0, _, cnt, rfl, R2, O2, M2, S2, toHid ⟨[], by simp, List.nodup_nil, fun k => by
      by_cases e : σ1.ph t k = 0
      · simp [e]
      · simp [phF, e]⟩⟩
    case round =>
      obtain ⟨va, c, L, left, cnt', rfl, R, O, M, S, N⟩ := hrel
      clear R2 O2 M2 S2
      have HLn := toHid (show L.length ≤ 4000 from by
        obtain ⟨ns, e, hnd, hm⟩ := N.out
        have h1 : ns.length ≤ KN.length := by
          have := nodup_le' (l := ns.map fun k => Lit.string k) (T := KN) (by
            rw [List.Nodup, List.pairwise_map]
            exact hnd.imp fun hab e1 => hab (by injection e1)) (fun x hx => by
            obtain ⟨k, hk, rfl⟩ := List.mem_map.1 hx
            obtain ⟨D, _, hD⟩ := R.out.map
            exact hD.keys _ (by simp [phF, ((hm k).1 hk).1]))
          simpa using this
        have h2 : ns0.length ≤ 1 := by rcases NZ1.out with ⟨_, e⟩ | ⟨z, _, e⟩ <;> rw [e] <;> simp
        have := M.out.kn
        rw [e]
        simp
        omega)
      go_wp2_with (first
        | (at_next; refine wpList_next_v _ rfl _ rfl lawS rfl R.out ?_ ?_)
        | fail)
      · intro hc0 hl0
        have hTB : wr.cell? ⟨T, 1, none⟩ = some (.map (some σ1.B)) := by
          have := M.out.cellsT.2
          rw [show (partS σ1 t left).T = T from T1.out] at this
          exact this
        have hdel := fun ty => MapV.drop M.out.hB lawI Tryz.underlying65 (keyI ht) ty
        have HD := toHid (show ∀ w3, MapV Tryz.prog 3 w3 σ1.B KT (upd (ptF σ1.pb) (.int .i64 t) none) → wr.mapTurned w3 σ1.B → Calls Tryz.prog 46 #[.pointer (some ⟨T, 0, none⟩), .slice va L.length c] w3 fun e w' => ∃ v, e = .returned v ∧ ∃ σ' Q' l' ns, Mem KT KN w' σ' ∧ Good σ' Q' (fun _ => False) (fun _ => False) ∧ w'.ownsRow w.heap.size 53 3 v l'.length (gcells l') ∧ (∀ g, v.ownBlock = some g → σ'.own g = .no) ∧ Step w σ w' σ' ∧ LetA ns ((absS σ Q).free t) (absS σ' Q') l' ∧ ns.Pairwise (· < ·) ∧ (∀ k, k ∈ ns ↔ (∃ z, σ.pw t = some z ∧ k = (σ.nd z).n) ∨ σ.ph t k ≠ 0) ∧ l'.length ≤ 10000000 from fun w3 r2 r3 => by
          have hlive : ∀ k, k ∈ L ↔ (∃ z, σ.pw t = some z ∧ k = (σ.nd z).n) ∨ σ.ph t k ≠ 0 := fun k => by
            obtain ⟨ns, e, _, hm⟩ := N.out
            rw [e, List.mem_append, hm, hl0, ← PH1.out]
            simp only [and_true]
            constructor
            · rintro (h1 | h1)
              · rcases NZ1.out with ⟨_, e0⟩ | ⟨z, hz, e0⟩
                · rw [e0] at h1; cases h1
                · rw [e0] at h1; exact .inl ⟨z, hz, by simpa using h1⟩
              · exact .inr h1
            · rintro (⟨z, hz, e1⟩ | h1)
              · rcases NZ1.out with ⟨e2, _⟩ | ⟨z', hz', e0⟩
                · rw [e2] at hz; cases hz
                · rw [hz'] at hz
                  cases hz
                  exact .inl (by rw [e0, e1]; simp)
              · exact .inr h1
          have m3 := M.out.chB (Turn.of_map r3) (f := upd σ1.pb t none) (r2.congr fun x => ptF_upd σ1.pb t none x) (fun q c hc => by
            by_cases e : q = t
            · subst e; rw [upd_same] at hc; cases hc
            · rw [upd_other _ _ e] at hc; exact M.out.hP q c hc)
          have m4 : Mem KT KN w3 (freeS σ1 t) := by
            have := (m3.phDead (t := t) (upd_same _ _ _) (fun _ => 0)).lhCongr (g := fun n m => upd (σ1.lh n m) t false) (fun k b hb => by
              funext m
              show upd (σ1.lh k m) t false = (if left (.string k) = true then σ1.lh k m else upd (σ1.lh k m) t false)
              rw [if_neg (by rw [hl0]; simp)])
            exact this
          have g4 : Good (freeS σ1 t) Q1 (fun k => k ∈ L) (fun _ => False) := G1.out.free PW1.out (fun k hk => by
            obtain ⟨ns, e, _, hm⟩ := N.out
            rw [e, List.mem_append, hm, hl0]
            rcases hk with hk | hk
            · exact .inl hk
            · exact .inr ⟨hk, rfl⟩) (fun s hs => .inl hs)
          have st4 : Step wr (partS σ1 t left) w3 (freeS σ1 t) := Step.of_turn (by show σ1.own σ1.B ≠ .no; rw [M1.out.tB]; simp) (Turn.of_map r3) rfl rfl
          have hno : ∀ g, (Value.slice va L.length c).ownBlock = some g → σ1.own g = .no := fun g hg => HNo.out g (ownsRow_blk O.out hg).1
          have hli := letIn35 (w0 := w) (σ0 := σ) (X := fun k => k ∈ L) (ns := L) (va := va) (c := c) (B := w.heap.size) m4 g4 (fun k => Iff.rfl) (fun k hk => by
            show ∃ b, σ1.lb k = some b
            rcases (hlive k).1 hk with ⟨z, hz, e⟩ | h1
            · rw [LB1.out, e]
              exact HG.out.liveQ (HG.out.wait t z hz).1
            · exact HSome.out k (by rw [PH1.out]; exact h1)) (ownsRow_at O.out fun g hg => st4.turn.block g (ownsRow_blk O.out hg).2 (fun e => e (hno g hg))) (Nat.le_refl _) (fun g hg => hno g hg) (by have := HLn.out; omega) (S.out.trans st4)
          rw [show (freeS σ1 t).T = T from T1.out] at hli
          refine hli.mono ?_
          rintro e w' ⟨v, rfl, σ', Q', l', m', g', o', no', s', a', b'⟩
          refine ⟨v, rfl, σ', Q', l', _, m', g', o', no', s', ?_, cmpT_rise L, fun k => ?_, b'⟩
          · have e1 : (absS σ Q).free t = absS (freeS σ1 t) Q1 := by
              unfold AS.free
              rw [← AB1.out]
              unfold absS freeS
              simp only [PH1.out]
            rw [e1]
            exact a'
          · rw [compact_mem, (srtT_perm L).mem_iff]
            exact hlive k)
        clear R O M S N HLn hl0 hc0
        go_wp2_with (first
          | (refine wpList_delete_any _ rfl _ _ _ _ rfl (fun w' => MapV Tryz.prog 3 w' σ1.B KT (upd (ptF σ1.pb) (.int .i64 t) none) ∧ wr.mapTurned w' σ1.B) _ _ rfl rfl hdel ?_; rintro w3 ⟨r2, r3⟩; have HL2 := toHid (HD.out w3 r2 r3); clear r2 r3)
          | (go_at_call 46; refine HL2.out.mono ?_; rintro e w4 ⟨v, rfl, hq⟩; have HR := toHid hq; clear hq))
        go_ret
        exact ⟨_, rfl, HR.out⟩
      · intro key v kl w4 cnt4 hk hlk hfv hrg4 hlt4 hg4 hs4 hen
        obtain ⟨k, rfl, hk0, rfl⟩ := phF_some hfv
        obtain rfl := keyS_inv hk
        obtain ⟨b, hb⟩ := HSome.out k hk0
        have hro : σ1.own r = .no := HNo.out r (by have := S1.out.turn.size; have := Hr.out; omega)
        have M4 := toHid (show Mem KT KN w4 (partS σ1 t left) from M.out.keep (Turn.of_grown hg4) fun i hi => by obtain rfl := Option.some.inj hi; exact hro)
        have T4 := toHid (Turn.of_grown hg4)
        have R4 := toHid hrg4
        have hT0 : w4.cell? ⟨T, 0, none⟩ = some (.map (some σ1.A)) := by
          have := M4.out.cellsT.1
          rw [show (partS σ1 t left).T = T from T1.out] at this
          exact this
        have hlk2 := M4.out.hA.look lawS Tryz.underlying64 zero83 hk
        rw [show lkF (partS σ1 t left).lb (.string k) = some (ptr (some b)) from by simp [lkF, partS, hb]] at hlk2
        simp only [Option.getD_some, ptr_some] at hlk2
        have hlk2 : (Instr.lookup 64 (.map (some σ1.A)) (nmV k) false).run Tryz.prog w4 = .ok (.pointer (some ⟨b, 0, none⟩)) w4 := hlk2
        have hpa := part34t (n := k) (b := b) (m := σ1.ph t k) (t := t) M4.out hb (G1.out.low t k) ht
        obtain ⟨i0, hi0, hz0, hz1, hz2⟩ := info_parts info9
        have O4 := toHid (show w4.ownsRow w.heap.size 9 1 (.slice va L.length c) L.length (L.map encStr) from ownsRow_at O.out fun g hg => hg4.block g (ownsRow_blk O.out hg).2 (fun e => by
          have e := Option.some.inj e
          obtain ⟨b', c', d', e', h3⟩ := R.out.iter
          rcases O.out.2 with ⟨h4, _⟩ | ⟨g', cap, cur, h4, _, h5, _⟩
          · rw [h4] at hg; cases hg
          · rw [h4] at hg
            have hg : g' = g := by simpa [Value.ownBlock] using hg
            rw [hg, e, h3] at h5
            cases h5))
        have hll := HLn.out
        have HK0 := toHid hk0
        have HB := toHid hb
        clear hfv hg4 hrg4 hk0 hb
        generalize hmm : σ1.ph t k = mk at *
        have HMK := toHid hmm
        clear hmm
        go_wp2_with (first
          | (go_at_call 45; refine hpa.mono ?_; rintro e w5 ⟨rfl, m5, s5, t5⟩; have M5 := toHid m5; have S5 := toHid s5; have T5 := toHid t5; clear m5 s5 t5; have O5 := toHid (show w5.ownsRow w.heap.size 9 1 (.slice va L.length c) L.length (L.map encStr) from ownsRow_at O4.out fun g hg => T5.out.block g (ownsRow_blk O4.out hg).2 (fun e => by obtain ⟨a1, a2, a3⟩ := e; have := HNo.out g (ownsRow_blk O4.out hg).1; rw [show (partS σ1 t left).own g = σ1.own g from rfl, this] at a3; cases a3)); have hw5 : w.heap.size ≤ w5.heap.size := Nat.le_trans S.out.turn.size (Nat.le_trans T4.out.size T5.out.size))
          | (at_builtin; refine wpList_append_own _ rfl _ _ 101 rfl w.heap.size 9 i0 _ 1 16 Tryz.underlying101 hi0 hz0 hz1 hz2 rfl (by decide) _ L.length _ rfl (O5.out.alloc _) ⟨w5.heap.size, 0, none⟩ 1 1 [nmV k] rfl rfl (cell_one w5 _ _) (by intro u hu; simp at hu; subst hu; rfl) (by unfold maxLen; omega) (by omega) (by simp; omega) ?_; intro v7 w7 hown7 hgrow7 _)
          | fail)
        have HO7 := toHid hown7
        have HG7 := toHid hgrow7
        obtain ⟨va7, vc7, hv7⟩ : ∃ a c, v7 = .slice a (L.length + 1) c := by
          rcases hown7.2 with ⟨_, h0⟩ | ⟨g, cap, cur, rfl, _⟩
          · cases h0
          · exact ⟨_, _, rfl⟩
        subst hv7
        clear hown7 hgrow7
        have HX := toHid (show ∃ (va' : Option Addr) (c' : Nat) (L' : List Name) (left' : Lit → Bool) (cnt' : Nat), (Value.slice va7 (L.length + 1) vc7) = .slice va' L'.length c' ∧ Hid (RngV Tryz.prog 9 w7 (σ1.pm t) r KN (phF (σ1.ph t)) left' cnt') ∧ Hid (w7.ownsRow w.heap.size 9 1 (.slice va' L'.length c') L'.length (L'.map encStr)) ∧ Hid (Mem KT KN w7 (partS σ1 t left')) ∧ Hid (Step w σ w7 (partS σ1 t left')) ∧ Hid (∃ ns, L' = ns0 ++ ns ∧ ns.Nodup ∧ ∀ k, k ∈ ns ↔ (σ1.ph t k ≠ 0 ∧ left' (.string k) = false)) ∧ w7.rangeLeft (σ1.pm t) r < wr.rangeLeft (σ1.pm t) r from by
          have hb6 : Below w5.heap.size w5 (w5.alloc (.cells #[nmV k] 9)) := (Below.refl _ _).alloc (Nat.le_refl _) _
          have hnb : ∀ g, (Value.slice va L.length c).ownBlock = some g → ∃ cur, (w5.alloc (.cells #[nmV k] 9)).heap[g]? = some (.cells cur 9 (0, 0)) := fun g hg => by
            rcases (O5.out.alloc (.cells #[nmV k] 9)).2 with ⟨h4, _⟩ | ⟨g', cap, cur, h4, _, h5, _⟩
            · rw [h4] at hg; cases hg
            · rw [h4] at hg
              have hg : g' = g := by simpa [Value.ownBlock] using hg
              rw [← hg]
              exact ⟨cur, h5⟩
          have R5 : RngV Tryz.prog 9 w5 (σ1.pm t) r KN (phF (σ1.ph t)) (upd left (.string k) false) cnt4 := R4.out.at
            (T5.out.block _ R4.out.map.lt (fun e => by obtain ⟨a1, a2, a3⟩ := e; rw [show (partS σ1 t left).own (σ1.pm t) = σ1.own (σ1.pm t) from rfl, (M1.out.hP t p P1.out).tagm] at a3; cases a3))
            (T5.out.block _ R4.out.lt (fun e => by obtain ⟨a1, a2, a3⟩ := e; rw [show (partS σ1 t left).own r = σ1.own r from rfl, hro] at a3; cases a3))
          have R6 := R5.at (w' := w5.alloc (.cells #[nmV k] 9)) (hb6.block _ R5.map.lt) (hb6.block _ R5.lt)
          have R7 := R6.at (w' := w7) (HG7.out.block _ R6.map.lt (fun e => by
              obtain ⟨cur, h5⟩ := hnb _ e.symm
              obtain ⟨es, cl, h6⟩ := R6.map.blk
              rw [h6] at h5
              cases h5)) (HG7.out.block _ R6.lt (fun e => by
              obtain ⟨cur, h5⟩ := hnb _ e.symm
              obtain ⟨_, _, _, _, h6⟩ := R6.iter
              rw [h6] at h5
              cases h5))
          have M6 : Mem KT KN w5 (partS σ1 t (upd left (.string k) false)) := by
            have := M5.out.lhCongr (g := (partS σ1 t (upd left (.string k) false)).lh) (fun n' b' hb' => by
              have hb' : σ1.lb n' = some b' := hb'
              funext m
              show (if upd left (.string k) false (.string n') = true then σ1.lh n' m else upd (σ1.lh n' m) t false) = upd (partS σ1 t left).lh k _ n' m
              by_cases e : n' = k
              · subst e
                rw [upd_same, upd_same, if_neg (by simp)]
                by_cases em : m = mk
                · subst em
                  rw [upd_same]
                  show upd (σ1.lh n' m) t false = upd (if left (.string n') = true then σ1.lh n' m else upd (σ1.lh n' m) t false) t false
                  rw [if_pos hlk]
                · rw [upd_other _ _ em]
                  show upd (σ1.lh n' m) t false = (if left (.string n') = true then σ1.lh n' m else upd (σ1.lh n' m) t false)
                  rw [if_pos hlk]
                  exact upd_self' (HLh0.out n' b' hb' m (by rw [HMK.out]; exact Ne.symm em))
              · rw [upd_other _ _ (fun e1 => e (by injection e1)), upd_other _ _ e]
                rfl)
            exact this
          have S6 : Step w σ w5 (partS σ1 t (upd left (.string k) false)) := by
            have h1 : Step w σ w4 (partS σ1 t left) := ⟨S.out.turn.trans T4.out (fun i hi => .inr (by
              obtain rfl := Option.some.inj hi
              have := S1.out.turn.size
              have := Hr.out
              omega)), S.out.own, S.out.top, S.out.tag⟩
            exact h1.trans ⟨S5.out.turn, S5.out.own, S5.out.top, S5.out.tag⟩
          have M7 : Mem KT KN w7 (partS σ1 t (upd left (.string k) false)) := (M6.below hb6).keep (Turn.of_grown HG7.out) fun i hi => HNo.out i (ownsRow_blk (O5.out.alloc (.cells #[nmV k] 9)) hi.symm).1
          refine ⟨va7, vc7, L ++ [k], upd left (.string k) false, cnt4, by simp, toHid R7, toHid (by simpa using HO7.out), toHid M7, toHid ?_, toHid ?_, by rw [R7.left_eq, R.out.left_eq]; exact hlt4⟩
          · exact ⟨(S6.turn.trans (Turn.of_below hb6 (fun _ => False)) fun _ hf => hf.elim).trans (Turn.of_grown HG7.out) fun i hi => .inr (ownsRow_blk (O5.out.alloc (.cells #[nmV k] 9)) hi.symm).1, S6.own, S6.top, S6.tag⟩
          · obtain ⟨ns, e, hnd, hm⟩ := N.out
            refine ⟨ns ++ [k], by rw [e]; simp, ?_, fun k' => ?_⟩
            · refine List.nodup_append.2 ⟨hnd, by simp, fun a ha b' hb' e1 => ?_⟩
              obtain rfl : b' = k := by simpa using hb'
              have := ((hm a).1 ha).2
              rw [e1, hlk] at this
              cases this
            · rw [List.mem_append, hm]
              by_cases e1 : k' = k
              · subst e1
                rw [upd_same]
                have := HK0.out
                rw [HMK.out]
                simp [this]
              · rw [upd_other _ _ (fun e2 => e1 (by injection e2))]
                simp [e1])
        obtain ⟨va8, vc8, L8, left8, cnt8, e8, h81, h82, h83, h84, h85, h86⟩ := HX.out
        have H86 := toHid h86
        clear h86 HX
        go_roundw
        case rel => exact ⟨va8, vc8, L8, left8, cnt8, e8, h81, h82, h83, h84, h85⟩
        case measure => exact H86.out
end

end Go.Proofs.YtclppfljengnbaaGreat
