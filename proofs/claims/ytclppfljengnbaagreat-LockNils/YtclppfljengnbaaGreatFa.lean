/-
  Somebody waits no more, as one answer; it has nothing any more.
-/
import Derived.Test.YtclppfljengnbaaGreatLi
namespace Go.Proofs.YtclppfljengnbaaGreat
open Go.RowKit Go.Maps Go.Sort

/-- It waits no more; it waits no more and has nothing any more. -/
noncomputable def AS.unwait (s : AS) (t : Int) : AS := ⟨s.H, fun k => (s.R k).filter fun x => decide (x.1 ≠ t)⟩
noncomputable def AS.free (s : AS) (t : Int) : AS := ⟨upd s.H t (fun _ => 0), (s.unwait t).R⟩

section
variable {KT KN : List Lit} {w w0 : World} {σ σ0 : Sg} {Q : Name → List Nat} {X : Name → Prop} {n : Name} {b m p : Nat} {t : Int}

set_option maxRecDepth 100000 in
set_option maxHeartbeats 4000000 in
theorem part34t (h : Mem KT KN w σ) (hb : σ.lb n = some b) (hm : m < 6) (ht : (Lit.int .i64 t).wf = true) :
    Calls Tryz.prog 45 #[.pointer (some ⟨b, 0, none⟩), .int .i64 ((m : Nat) : Int), .int .i64 t] w fun e w' => e = .returned (.tuple #[]) ∧ Mem KT KN w' { σ with lh := upd σ.lh n (upd (σ.lh n) m (upd (σ.lh n m) t false)) } ∧ Step w σ w' { σ with lh := upd σ.lh n (upd (σ.lh n) m (upd (σ.lh n m) t false)) } ∧ Turn (fun i => ∃ k j, σ.own i = .LM k j) w w' := by
  have hl := h.hL n b hb
  have hc := hl.cell hm
  have hmm := hl.maps m
  have hi1 : 0 ≤ ((m : Nat) : Int) := by omega
  have hi2 : ((m : Nat) : Int) < 6 := by omega
  cases e1 : σ.lm n m with
  | none =>
    rw [e1] at hc hmm
    have hf := lhF_none hmm t
    rw [lh_self hf]
    have hd := fun ty => Maps.drop_nil (w := w) (e := 133) lawI Tryz.underlying123 (keyI ht) ty
    have HQ := toHid (show Mem KT KN w { σ with } ∧ Step w σ w { σ with } ∧ Turn (fun i => ∃ k j, σ.own i = .LM k j) w w from ⟨h, Step.refl _ _, Turn.refl _ _⟩)
    clear hl hmm hf h
    go_enter Tryz.func45, Tryz.ntmps45
    go_wp2_with (refine wpList_delete_any w rfl _ _ _ _ rfl (fun w' => w' = w) _ _ rfl rfl (fun ty => ⟨w, hd ty, rfl⟩) ?_; rintro w' hw; obtain rfl := hw.symm)
    go_end0
    exact ⟨rfl, HQ.out⟩
  | some c =>
    rw [e1] at hc hmm
    have hd := fun ty => MapV.drop hmm lawI Tryz.underlying123 (keyI ht) ty
    have HQ := toHid (show ∀ w', MapV Tryz.prog 3 w' c KT (upd (lhF (σ.lh n m)) (.int .i64 t) none) → w.mapTurned w' c → Mem KT KN w' { σ with lh := upd σ.lh n (upd (σ.lh n) m (upd (σ.lh n m) t false)) } ∧ Step w σ w' { σ with lh := upd σ.lh n (upd (σ.lh n) m (upd (σ.lh n m) t false)) } ∧ Turn (fun i => ∃ k j, σ.own i = .LM k j) w w' from fun w' q1 q2 =>
      ⟨h.chLM hb e1 (Turn.of_map q2) (q1.congr fun x => lhF_upd (σ.lh n m) t false x), Step.of_turn (by rw [hl.tagm m c e1]; simp) (Turn.of_map q2) rfl rfl, (Turn.of_map q2).mono fun i hi => .inl ⟨n, m, by rw [hi]; exact hl.tagm m c e1⟩⟩)
    clear hl hmm h
    go_enter Tryz.func45, Tryz.ntmps45
    go_wp2_with (refine wpList_delete_any w rfl _ _ _ _ rfl (fun w' => MapV Tryz.prog 3 w' c KT (upd (lhF (σ.lh n m)) (.int .i64 t) none) ∧ w.mapTurned w' c) _ _ rfl rfl hd ?_; rintro w' ⟨q1, q2⟩)
    go_end0
    exact ⟨rfl, HQ.out _ q1 q2⟩

theorem Mem.lhCongr (h : Mem KT KN w σ) {g : Name → Nat → Int → Bool} (hg : ∀ n b, σ.lb n = some b → g n = σ.lh n) : Mem KT KN w { σ with lh := g } :=
  ⟨h.kt, h.kn, h.lt, h.tT, h.tA, h.tB, h.hT, h.hA, h.hB, h.hP, fun n b hb => by
    show LockOk KT w σ.own n b (σ.lm n) (g n) (σ.eb n) (σ.ls n)
    rw [hg n b hb]
    exact h.hL n b hb, h.hW⟩
theorem Mem.phDead (h : Mem KT KN w σ) (hp : σ.pb t = none) (g : Name → Nat) : Mem KT KN w { σ with ph := upd σ.ph t g } :=
  ⟨h.kt, h.kn, h.lt, h.tT, h.tA, h.tB, h.hT, h.hA, h.hB, fun q c hc => by
    have hc : σ.pb q = some c := hc
    have eq : q ≠ t := fun e => by rw [e, hp] at hc; cases hc
    show PartyOk KN w σ.own q c (σ.pm q) (σ.pw q) (upd σ.ph t g q)
    rw [upd_other _ _ eq]
    exact h.hP q c hc, h.hL, h.hW⟩

theorem row_one {w : World} {g : Nat} (h : w.heap[g]? = some (.cells #[nmV n] 9)) {B : Nat} (hB : B ≤ g) : w.ownsRow B 9 1 (.slice (some ⟨g, 0, none⟩) 1 1) 1 [nmV n] :=
  ⟨rfl, .inr ⟨g, 1, #[nmV n], rfl, hB, h, Nat.le_refl _, by simp [maxLen], rfl, rfl⟩⟩

theorem Good.unwaitNone {Y : Int → Prop} (G : Good σ Q X Y) (hw : σ.pw t = none) : (absS σ Q).unwait t = absS σ Q := by
  unfold absS AS.unwait
  simp only [AS.mk.injEq, true_and]
  funext k
  refine List.filter_eq_self.2 fun x hx => ?_
  obtain ⟨u, hu, rfl⟩ := List.mem_map.1 hx
  simp only [decide_eq_true_eq]
  intro e
  have := (G.node k u hu).pw
  rw [e, hw] at this
  cases this

theorem stop_any (h : Mem KT KN w σ) (G : Good σ Q (fun _ => False) (fun _ => False)) (hp : σ.pb t = some p) :
    Calls Tryz.prog 44 #[.pointer (some ⟨σ.T, 0, none⟩), .pointer (some ⟨p, 0, none⟩)] w fun e w' => ∃ va c ns0 σ1 Q1, e = .returned (.slice va (List.length ns0) c) ∧ w'.ownsRow w.heap.size 9 1 (.slice va (List.length ns0) c) (List.length ns0) (ns0.map encStr) ∧ Mem KT KN w' σ1 ∧ Step w σ w' σ1 ∧
      Good σ1 Q1 (fun k => k ∈ ns0) (fun s => s = t) ∧ σ1.pw t = none ∧ σ1.own = σ.own ∧ σ1.pb = σ.pb ∧ σ1.ph = σ.ph ∧ σ1.lb = σ.lb ∧ σ1.pm = σ.pm ∧ absS σ1 Q1 = (absS σ Q).unwait t ∧ (σ.pw t = none ∧ ns0 = [] ∨ ∃ z, σ.pw t = some z ∧ ns0 = [(σ.nd z).n]) := by
  cases hw : σ.pw t with
  | none =>
    refine (stop_no h hp hw).mono ?_
    rintro e w' ⟨rfl, hw'⟩
    obtain rfl := hw'.symm
    refine ⟨none, 0, [], σ, Q, rfl, World.ownsRow_nil _ _ _ _, h, Step.refl _ _, G.mono (fun _ hk => hk.elim) (fun _ hk => hk.elim), hw, rfl, rfl, rfl, rfl, rfl, ?_, .inl ⟨rfl, rfl⟩⟩
    unfold absS AS.unwait
    simp only [AS.mk.injEq, true_and]
    funext k
    refine (List.filter_eq_self.2 fun x hx => ?_).symm
    obtain ⟨u, hu, rfl⟩ := List.mem_map.1 hx
    simp only [decide_eq_true_eq]
    intro e
    have := (G.node k u hu).pw
    rw [e, hw] at this
    cases this
  | some z =>
    obtain ⟨hz, ht⟩ := G.wait t z hw
    obtain ⟨b, hb⟩ := G.liveQ hz
    obtain ⟨q1, q2, e12, gx, gy, wx, wy, wl, GS⟩ := G.stop (X' := fun k => k ∈ [(σ.nd z).n]) (Y' := fun s => s = t) hz ht (fun k hk => hk.elim (fun f => f.elim) (fun e => by simp [e])) (fun s hs => hs.elim (fun f => f.elim) id)
    refine (stop33 (n := (σ.nd z).n) (t := t) h hp hw (by rw [(G.node _ z hz).tag]; exact trivial) rfl hb (G.nm _ b hb) gx gy wx wy wl).mono ?_
    rintro e w' ⟨g, rfl, hg, hgc, _, m1, s1⟩
    refine ⟨some ⟨g, 0, none⟩, 1, [(σ.nd z).n], _, _, rfl, row_one hgc hg, m1, s1, GS, upd_same _ _ _, rfl, rfl, rfl, rfl, rfl, ?_, .inr ⟨z, rfl, rfl⟩⟩
    unfold absS AS.unwait
    simp only [AS.mk.injEq]
    refine ⟨rfl, ?_⟩
    funext k
    show (upd Q (σ.nd z).n (q1 ++ q2) k).map (fun z => ((σ.nd z).t, (σ.nd z).m)) = ((Q k).map fun z => ((σ.nd z).t, (σ.nd z).m)).filter fun x => decide (x.1 ≠ t)
    have hone : ∀ k u, u ∈ Q k → (σ.nd u).t = t → u = z := fun k u hu e => by
      have := (G.node k u hu).pw
      rw [e, hw] at this
      exact (Option.some.inj this).symm
    by_cases e : k = (σ.nd z).n
    · subst e
      rw [upd_same, e12]
      have hnd := (G.ring _ b hb).nd
      rw [e12] at hnd
      obtain ⟨d1, d2, d3⟩ := List.nodup_append.1 hnd
      obtain ⟨d4, _⟩ := List.nodup_cons.1 d2
      simp only [List.map_append, List.map_cons, List.filter_append]
      rw [List.filter_cons, if_neg (by simp [ht])]
      congr 1
      · refine (List.filter_eq_self.2 fun x hx => ?_).symm
        obtain ⟨u, hu, rfl⟩ := List.mem_map.1 hx
        simp only [decide_eq_true_eq]
        intro e
        exact d3 u hu z (by simp) (hone _ u (by rw [e12]; simp [hu]) e)
      · refine (List.filter_eq_self.2 fun x hx => ?_).symm
        obtain ⟨u, hu, rfl⟩ := List.mem_map.1 hx
        simp only [decide_eq_true_eq]
        intro e
        exact d4 (by rw [← hone _ u (by rw [e12]; simp [hu]) e]; exact hu)
    · rw [upd_other _ _ e]
      refine (List.filter_eq_self.2 fun x hx => ?_).symm
      obtain ⟨u, hu, rfl⟩ := List.mem_map.1 hx
      simp only [decide_eq_true_eq]
      intro e1
      have := hone k u hu e1
      subst this
      exact e (G.node k u hu).name.symm

theorem Good.unY {Y Y' : Int → Prop} (G : Good σ Q X Y) (hY : ∀ s, Y s → s = t ∨ Y' s) (ht : σ.pw t ≠ none ∨ ∃ n, σ.ph t n ≠ 0) : Good σ Q X Y' :=
  ⟨G.dead, G.wf, G.nm, G.low, G.lhm, G.gone, G.held, fun s b hb hy => by
    by_cases e : s = t
    · subst e; exact ht
    · exact G.par s b hb fun e1 => (hY s e1).elim e hy, G.ring, G.node, G.wait, G.bes⟩

theorem phF_some {g : Name → Nat} {x : Lit} {v : Value} (h : phF g x = some v) : ∃ k, x = .string k ∧ g k ≠ 0 ∧ v = .int .i64 ((g k : Nat) : Int) := by
  cases x with
  | string k =>
    simp only [phF] at h
    by_cases e : g k = 0
    · rw [if_pos e] at h; cases h
    · rw [if_neg e] at h
      injection h with h
      exact ⟨k, rfl, e, h.symm⟩
  | _ => cases h
theorem keyS_inv {key : Value} {k : Name} (h : keyOf Tryz.prog 9 key = some (.string k)) : key = nmV k := by
  cases key <;> simp [keyOf, Tryz.underlying9, mapKey] at h
  obtain ⟨_, rfl⟩ := h
  rfl

set_option maxRecDepth 100000 in
set_option maxHeartbeats 4000000 in
theorem cancel19 (h : Mem KT KN w σ) (G : Good σ Q (fun _ => False) (fun _ => False)) (ht : (Lit.int .i64 t).wf = true) :
    Calls Tryz.prog 22 #[.pointer (some ⟨σ.T, 0, none⟩), .int .i64 t] w fun e w' => ∃ v, e = .returned v ∧ ∃ σ' Q' l' ns, Mem KT KN w' σ' ∧ Good σ' Q' (fun _ => False) (fun _ => False) ∧ w'.ownsRow w.heap.size 53 3 v l'.length (gcells l') ∧ (∀ g, v.ownBlock = some g → σ'.own g = .no) ∧ Step w σ w' σ' ∧ LetA ns ((absS σ Q).unwait t) (absS σ' Q') l' ∧ (σ.pw t = none ∧ ns = [] ∨ ∃ z, σ.pw t = some z ∧ ns = [(σ.nd z).n]) ∧ l'.length ≤ 10000000 := by
  have hpt := party_yes h ht
  cases hp : σ.pb t with
  | none =>
    rw [hp, ptr_none] at hpt
    have hw := (G.dead t hp).1
    have HR := toHid (show ∃ σ' Q' l' ns, Mem KT KN w σ' ∧ Good σ' Q' (fun _ => False) (fun _ => False) ∧ w.ownsRow w.heap.size 53 3 (.slice none 0 0) (List.length l') (gcells l') ∧ (∀ g, (Value.slice none 0 0).ownBlock = some g → σ'.own g = .no) ∧ Step w σ w σ' ∧ LetA ns ((absS σ Q).unwait t) (absS σ' Q') l' ∧ (σ.pw t = none ∧ ns = [] ∨ ∃ z, σ.pw t = some z ∧ ns = [(σ.nd z).n]) ∧ l'.length ≤ 10000000 from
      ⟨σ, Q, [], [], h, G, World.ownsRow_nil _ _ _ _, (fun g hg => by cases hg), Step.refl _ _, (by rw [G.unwaitNone hw]; exact .nil), .inl ⟨hw, rfl⟩, by simp⟩)
    clear h G hw
    go_enter Tryz.func22, Tryz.ntmps22
    go_wp2_with (first | (go_at_call 43; refine hpt.mono ?_; rintro e w' ⟨rfl, hw⟩; obtain rfl := hw.symm))
    go_ret
    exact ⟨_, rfl, HR.out⟩
  | some p =>
    rw [hp, ptr_some] at hpt
    have hst := stop_any h G hp
    have HM := toHid h
    have HP := toHid hp
    obtain ⟨T, hT⟩ : ∃ T, σ.T = T := ⟨_, rfl⟩
    have HT := toHid hT
    have HG := toHid G
    rw [hT] at hpt hst ⊢
    clear h G hT hp
    go_enter Tryz.func22, Tryz.ntmps22
    go_wp2_with (first
      | (go_at_call 43; refine hpt.mono ?_; rintro e w' ⟨rfl, hw⟩; obtain rfl := hw.symm)
      | (go_at_call 44; refine hst.mono ?_; rintro e w1 ⟨va, c, ns0, σ1, Q1, rfl, o1, m1, s1, g1, pw1, own1, pb1, ph1, lb1, pm1, ab1, nz1⟩; have O1 := toHid o1; have M1 := toHid m1; have S1 := toHid s1; have G1 := toHid g1; have PW1 := toHid pw1; have OW1 := toHid own1; have PB1 := toHid pb1; have PH1 := toHid ph1; have LB1 := toHid lb1; have AB1 := toHid ab1; have NZ1 := toHid nz1; have P1 := toHid (show σ1.pb t = some p from by rw [pb1]; exact HP.out); obtain ⟨q0, q1, qf⟩ := (m1.hP t p P1.out).cells; obtain ⟨k, k1, k2, k3, _⟩ := (m1.hP t p P1.out).map.len lawS Tryz.underlying95; have HLen := toHid (fun ty => k1 w1 ty rfl); have K3 := toHid k3; have hT1 : w1.cell? ⟨T, 1, none⟩ = some (.map (some σ1.B)) := (show σ1.T = T from s1.top.trans HT.out) ▸ m1.cellsT.2; clear k1 k3 o1 m1 s1 g1 pw1 own1 pb1 ph1 lb1 ab1 nz1 pm1))
    have HLt := toHid (show ∀ w2 σ2, Mem KT KN w2 σ2 → Step w1 σ1 w2 σ2 → σ2.own = σ1.own → σ2.T = T → σ2.lb = σ1.lb → Good σ2 Q1 (fun k => k ∈ ns0) (fun _ => False) → absS σ2 Q1 = absS σ1 Q1 → Calls Tryz.prog 46 #[.pointer (some ⟨T, 0, none⟩), .slice va ns0.length c] w2 fun e w' => ∃ v, e = .returned v ∧ ∃ σ' Q' l' ns, Mem KT KN w' σ' ∧ Good σ' Q' (fun _ => False) (fun _ => False) ∧ w'.ownsRow w.heap.size 53 3 v l'.length (gcells l') ∧ (∀ g, v.ownBlock = some g → σ'.own g = .no) ∧ Step w σ w' σ' ∧ LetA ns ((absS σ Q).unwait t) (absS σ' Q') l' ∧ (σ.pw t = none ∧ ns = [] ∨ ∃ z, σ.pw t = some z ∧ ns = [(σ.nd z).n]) ∧ l'.length ≤ 10000000 from fun w2 σ2 m2 s2 own2 t2 lb2 g2 ab2 => by
      have hno : ∀ g, (Value.slice va ns0.length c).ownBlock = some g → σ1.own g = .no := fun g hg => by rw [OW1.out]; exact own_new HM.out (ownsRow_blk O1.out hg).1
      have hli := letIn35 (w0 := w) (σ0 := σ) (X := fun k => k ∈ ns0) (ns := ns0) (va := va) (c := c) (B := w.heap.size) m2 g2 (fun k => Iff.rfl) (fun k hk => by
        rw [lb2, LB1.out]
        rcases NZ1.out with ⟨_, e⟩ | ⟨z, hz, e⟩
        · rw [e] at hk; cases hk
        · rw [e] at hk
          obtain rfl : k = (σ.nd z).n := by simpa using hk
          exact HG.out.liveQ (HG.out.wait t z hz).1) (ownsRow_at O1.out fun g hg => s2.turn.block g (ownsRow_blk O1.out hg).2 (fun e => e (hno g hg))) (Nat.le_refl _) (fun g hg => by rw [own2]; exact hno g hg) (by
        rcases NZ1.out with ⟨_, e⟩ | ⟨z, hz, e⟩ <;> rw [e] <;> simp) (S1.out.trans s2)
      rw [t2] at hli
      refine hli.mono ?_
      rintro e w' ⟨v, rfl, σ', Q', l', m', g', o', no', s', a', b'⟩
      refine ⟨v, rfl, σ', Q', l', ns0, m', g', o', no', s', ?_, NZ1.out, b'⟩
      rw [← AB1.out, ← ab2]
      have e1 : Lib.compact (srtT ns0) = ns0 := by
        rcases NZ1.out with ⟨_, e⟩ | ⟨z, hz, e⟩
        · rw [e]; simp [srtT, Lib.compact, Lib.compactUpTo]
        · rw [e]; simp [srtT, Lib.compact, Lib.compactUpTo, Lib.keeps, List.range_succ]
      rw [e1] at a'
      exact a')
    by_cases hk0 : k = 0
    · subst hk0
      have h0 : ∀ n, σ1.ph t n = 0 := fun n => Classical.byContradiction fun e => by
        have := K3.out.2 ⟨.string n, by simp [phF, e]⟩
        omega
      have hdel := fun ty => MapV.drop M1.out.hB lawI Tryz.underlying65 (keyI ht) ty
      have HD := toHid (show ∀ w2, MapV Tryz.prog 3 w2 σ1.B KT (upd (ptF σ1.pb) (.int .i64 t) none) → w1.mapTurned w2 σ1.B → Calls Tryz.prog 46 #[.pointer (some ⟨T, 0, none⟩), .slice va ns0.length c] w2 fun e w' => ∃ v, e = .returned v ∧ ∃ σ' Q' l' ns, Mem KT KN w' σ' ∧ Good σ' Q' (fun _ => False) (fun _ => False) ∧ w'.ownsRow w.heap.size 53 3 v l'.length (gcells l') ∧ (∀ g, v.ownBlock = some g → σ'.own g = .no) ∧ Step w σ w' σ' ∧ LetA ns ((absS σ Q).unwait t) (absS σ' Q') l' ∧ (σ.pw t = none ∧ ns = [] ∨ ∃ z, σ.pw t = some z ∧ ns = [(σ.nd z).n]) ∧ l'.length ≤ 10000000 from fun w2 r2 r3 =>
        HLt.out w2 { σ1 with pb := upd σ1.pb t none } (M1.out.chB (Turn.of_map r3) (r2.congr fun x => ptF_upd σ1.pb t none x) (fun q c hc => by
            by_cases e : q = t
            · subst e; rw [upd_same] at hc; cases hc
            · rw [upd_other _ _ e] at hc; exact M1.out.hP q c hc)) (Step.of_turn (by rw [M1.out.tB]; simp) (Turn.of_map r3) rfl rfl) rfl (by rw [← HT.out]; exact S1.out.top) rfl (G1.out.dropP PW1.out h0 (fun s hs => .inl hs)) rfl)
      have hlen := HLen.out
      clear h0 K3 HLt HLen
      go_simp
      go_wp2_with (first
        | (refine wpList_delete_any w1 rfl _ _ _ _ rfl (fun w' => MapV Tryz.prog 3 w' σ1.B KT (upd (ptF σ1.pb) (.int .i64 t) none) ∧ w1.mapTurned w' σ1.B) _ _ rfl rfl hdel ?_; rintro w2 ⟨r2, r3⟩; have HL2 := toHid (HD.out w2 r2 r3); clear r2 r3)
        | (go_at_call 46; refine HL2.out.mono ?_; rintro e w3 ⟨v, rfl, hq⟩; have HR := toHid hq; clear hq))
      go_ret
      exact ⟨_, rfl, HR.out⟩
    · have hq2 : ¬ (((k : Nat) : Int) = 0) := by omega
      obtain ⟨n1, hn1⟩ : ∃ n, σ1.ph t n ≠ 0 := by
        obtain ⟨x, hx⟩ := K3.out.1 (by omega)
        cases e : phF (σ1.ph t) x with
        | none => exact absurd e hx
        | some v =>
          obtain ⟨k', _, h1, _⟩ := phF_some e
          exact ⟨k', h1⟩
      have HL2 := toHid (HLt.out w1 σ1 M1.out (Step.refl _ _) rfl (by rw [← HT.out]; exact S1.out.top) rfl (G1.out.unY (t := t) (fun s hs => .inl hs) (.inr ⟨n1, hn1⟩)) rfl)
      have hlen := HLen.out
      clear hn1 K3 HLt hk0 HLen
      go_simp
      go_wp2_with (first
        | (go_at_call 46; refine HL2.out.mono ?_; rintro e w3 ⟨v, rfl, hq⟩; have HR := toHid hq; clear hq))
      go_ret
      exact ⟨_, rfl, HR.out⟩
end

end Go.Proofs.YtclppfljengnbaaGreat
