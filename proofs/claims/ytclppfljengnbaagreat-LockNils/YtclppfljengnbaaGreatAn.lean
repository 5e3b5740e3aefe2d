/-
  Asking, as one answer; a party of which nothing was known.
-/
import Derived.Test.YtclppfljengnbaaGreatCa
namespace Go.Proofs.YtclppfljengnbaaGreat
open Go.RowKit Go.Maps

section
variable {KT KN : List Lit} {w : World} {σ : Sg} {Q : Name → List Nat} {X X' : Name → Prop} {Y Y' : Int → Prop} {n : Name} {b p m : Nat} {t : Int}

/-- It goes in: told by who has what. -/
def Goes (H : Int → Name → Nat) (t : Int) (n : Name) (m : Nat) : Prop := ∀ s, s ≠ t → besB (H s n) (joinN (H t n) m) = true
theorem Good.goes (h : Good σ Q X Y) (hb : σ.lb n = some b) (wd : Nat) (t : Int) : GoesIn (σ.lh n) t wd ↔ ∀ s, s ≠ t → besB (σ.ph s n) wd = true := by
  constructor
  · intro hg s hs
    by_cases e : σ.ph s n = 0
    · rw [e]; exact zero_bes _
    · exact hg _ (h.low s n) ⟨s, hs, (h.lhm n b hb _ s).2 ⟨e, rfl⟩⟩
  · intro hg m' _ ⟨s, hs1, hs2⟩
    obtain ⟨_, e⟩ := (h.lhm n b hb m' s).1 hs2
    rw [← e]
    exact hg s hs1

/-- What asking does. -/
structure AskR (σ : Sg) (Q : Name → List Nat) (σ' : Sg) (Q' : Name → List Nat) (t : Int) (n : Name) (m : Nat) (g : Bool) : Prop where
  yes : g = true → Goes σ.ph t n m ∧ (σ.ph t n ≠ 0 ∨ Q n = []) ∧ σ'.ph = upd σ.ph t (upd (σ.ph t) n (joinN (σ.ph t n) m)) ∧ σ'.pw = σ.pw ∧ Q' = Q ∧ ∀ k u, u ∈ Q k → σ'.nd u = σ.nd u
  no : g = false → ¬ (Goes σ.ph t n m ∧ (σ.ph t n ≠ 0 ∨ Q n = [])) ∧ σ'.ph = σ.ph ∧ ∃ z q1 q2, Q n = q1 ++ q2 ∧ (σ.ph t n = 0 → q2 = []) ∧ Q' = upd Q n (q1 ++ z :: q2) ∧ σ'.pw = upd σ.pw t (some z) ∧ σ'.nd z = ⟨t, n, m, σ.ph t n⟩ ∧ (∀ k u, u ∈ Q k → σ'.nd u = σ.nd u) ∧ ∀ k, z ∉ Q k

theorem ask_any (h : Mem KT KN w σ) (G : Good σ Q X Y) (hb : σ.lb n = some b) (hp : σ.pb t = some p) (hw : σ.pw t = none) (hm1 : 1 ≤ m) (hm6 : m < 6) (hX : X n → Q n = []) (hX' : ∀ k, X k → k = n) (hY : ∀ s, Y s → s = t) (hid : X n → ∀ s, σ.ph s n = 0) :
    Calls Tryz.prog 49 #[.pointer (some ⟨σ.T, 0, none⟩), .pointer (some ⟨p, 0, none⟩), .pointer (some ⟨b, 0, none⟩), .int .i64 t, .int .i64 ((m : Nat) : Int)] w fun e w' => ∃ g, e = .returned (.bool g) ∧ ∃ σ' Q', Mem KT KN w' σ' ∧ Step w σ w' σ' ∧ Good σ' Q' (fun _ => False) (fun _ => False) ∧ AskR σ Q σ' Q' t n m g := by
  by_cases hg : GoesIn (σ.lh n) t (joinN (σ.ph t n) m) ∧ (σ.ph t n ≠ 0 ∨ Q n = [])
  · refine (ask_yes (X' := fun _ => False) (Y' := fun _ => False) h G hb hp hw hm1 hm6 hg.1 hg.2 hX (fun k hk => .inl (hX' k hk)) (fun s hs => .inl (hY s hs))).mono ?_
    rintro e w' ⟨rfl, σ', h1, h2, h3, h4, h5, h6, h7, h8⟩
    exact ⟨true, rfl, σ', Q, h1, h2, h3, ⟨fun _ => ⟨(G.goes hb _ t).1 hg.1, hg.2, h5, h4, rfl, h6⟩, (fun e => by cases e)⟩⟩
  · have hgo : ¬ GoesIn (σ.lh n) t (joinN (σ.ph t n) m) ∨ (σ.ph t n = 0 ∧ Q n ≠ []) := by
      by_cases h1 : GoesIn (σ.lh n) t (joinN (σ.ph t n) m)
      · refine .inr (Classical.byContradiction fun hc => hg ⟨h1, ?_⟩)
        by_cases h2 : σ.ph t n = 0
        · exact .inr (Classical.byContradiction fun h3 => hc ⟨h2, h3⟩)
        · exact .inl h2
      · exact .inl h1
    have hXn : ¬ X n := fun hx => by
      rcases hgo with h1 | ⟨_, h2⟩
      · exact h1 ((G.goes hb _ t).2 fun s _ => by rw [hid hx s]; exact zero_bes _)
      · exact h2 (hX hx)
    refine (ask_no (Y' := fun _ => False) h G hb hp hw hm1 hm6 hgo (fun s hs => .inl (hY s hs))).mono ?_
    rintro e w' ⟨rfl, σ', z, q1, q2, h1, h2, h3, h4, h5, h6, h7, h8, h9, h10, h11, h12⟩
    exact ⟨false, rfl, σ', _, h1, h2, h5.mono (fun k hk => hXn (by rw [← hX' k hk]; exact hk)) (fun s hs => hs), ⟨(fun e => by cases e), fun _ => ⟨fun hc => hg ⟨(G.goes hb _ t).2 hc.1, hc.2⟩, h6, z, q1, q2, h3, h4, rfl, h7, h8, h9, h10⟩⟩⟩

theorem named_any (h : Mem KT KN w σ) (G : Good σ Q (fun _ => False) Y) (hn : n.length ≤ 16) (hKN : Lit.string n ∈ KN) :
    Calls Tryz.prog 50 #[.pointer (some ⟨σ.T, 0, none⟩), nmV n] w fun e w' => ∃ b, e = .returned (.pointer (some ⟨b, 0, none⟩)) ∧ ∃ σ' X', Mem KT KN w' σ' ∧ Step w σ w' σ' ∧ Good σ' Q X' Y ∧ σ'.lb n = some b ∧ (∀ k, X' k → k = n) ∧ (X' n → Q n = [] ∧ ∀ s, σ.ph s n = 0) ∧ σ'.ph = σ.ph ∧ σ'.pw = σ.pw ∧ σ'.pb = σ.pb ∧ ∀ k u, u ∈ Q k → σ'.nd u = σ.nd u := by
  cases e : σ.lb n with
  | some b =>
    refine (named_old h e hn).mono ?_
    rintro e1 w' ⟨rfl, hw⟩
    obtain rfl := hw.symm
    exact ⟨b, rfl, σ, fun _ => False, h, Step.refl _ _, G, e, fun _ hk => hk.elim, fun hk => hk.elim, rfl, rfl, rfl, fun _ _ _ => rfl⟩
  | none =>
    refine (named_new h e hn hKN).mono ?_
    rintro e1 w' ⟨c, b, rfl, h1, h2, h3, h4⟩
    have hno : ∀ i, w.heap.size ≤ i → σ.own i = .no := fun i hi => own_new h hi
    refine ⟨b, rfl, newLS σ n c b, fun k => k = n, h3, h4, G.newL e hn c b (hno c h1) (hno b (by omega)) (by omega) (fun k hk => hk.elim (fun f => f.elim) id), upd_same _ _ _, fun k hk => hk, fun _ => ⟨(G.gone n e).2, (G.gone n e).1⟩, rfl, rfl, rfl, fun k u hu => upd_other _ _ fun e2 => ?_⟩
    have := (G.node k u hu).tag
    rw [e2, hno c h1] at this
    cases this

/-- A party of which nothing was known. -/
noncomputable def newPS (σ : Sg) (t : Int) (s p : Nat) : Sg := { σ with own := upd (upd σ.own s (.PM t)) p (.P t), pm := upd σ.pm t s, pb := upd σ.pb t (some p) }

theorem Mem.newP (h : Mem KT KN w σ) (hp : σ.pb t = none) (hw0 : σ.pw t = none) (h0 : ∀ n, σ.ph t n = 0) (ht : (Lit.int .i64 t).wf = true) (hKT : Lit.int .i64 t ∈ KT) :
    ∃ w', (Instr.mapUpdate 65 (.map (some σ.B)) (.int .i64 t) (.pointer (some ⟨w.heap.size + 1, 0, none⟩))).run Tryz.prog ((w.alloc (.map #[] 0)).alloc (.cells #[.map (some w.heap.size), .pointer none] 98)) = .ok () w' ∧
      Mem KT KN w' (newPS σ t w.heap.size (w.heap.size + 1)) ∧ Step w σ w' (newPS σ t w.heap.size (w.heap.size + 1)) := by
  obtain ⟨s, hs⟩ : ∃ s, w.heap.size = s := ⟨_, rfl⟩
  have hba : Below w.heap.size w ((w.alloc (.map #[] 0)).alloc (.cells #[.map (some w.heap.size), .pointer none] 98)) := ((Below.refl _ _).alloc (Nat.le_refl _) _).alloc (by simp) _
  have hpb : ((w.alloc (.map #[] 0)).alloc (.cells #[.map (some w.heap.size), .pointer none] 98)).heap[w.heap.size + 1]? = some (.cells #[.map (some w.heap.size), .pointer none] 98) := by
    have := heap_alloc_new (w.alloc (.map #[] 0)) (.cells #[.map (some w.heap.size), .pointer none] 98)
    rw [show (w.alloc (.map #[] 0)).heap.size = w.heap.size + 1 from by simp] at this
    exact this
  have hmp : MapV Tryz.prog 9 ((w.alloc (.map #[] 0)).alloc (.cells #[.map (some w.heap.size), .pointer none] 98)) w.heap.size KN (fun _ => none) := (MapV.made w).at (heap_alloc_old (by simp))
  rw [hs] at hba hpb hmp ⊢
  generalize ((w.alloc (.map #[] 0)).alloc (.cells #[.map (some s), .pointer none] 98)) = w2 at *
  have hno : ∀ i, s ≤ i → σ.own i = .no := fun i hi => own_new h (by omega)
  have hb2 : Below w.heap.size w w2 := by rw [hs]; exact hba
  have M1 := (h.below hb2).tagged (b := s) (hno s (Nat.le_refl _)) hmp.lt (.PM t) (by simp [IsW])
  have M2 := M1.tagged (b := s + 1) (by show upd σ.own s (.PM t) (s + 1) = .no; rw [upd_other _ _ (by omega)]; exact hno _ (by omega)) (lt_of_heap hpb) (.P t) (by simp [IsW])
  have M3 : Mem KT KN w2 { σ with own := upd (upd σ.own s (.PM t)) (s + 1) (.P t), pm := upd σ.pm t s } :=
    ⟨M2.kt, M2.kn, M2.lt, M2.tT, M2.tA, M2.tB, M2.hT, M2.hA, M2.hB, fun q c hc => by
      have hc : σ.pb q = some c := hc
      have eq : q ≠ t := fun e => by rw [e, hp] at hc; cases hc
      show PartyOk KN w2 _ q c (upd σ.pm t s q) (σ.pw q) (σ.ph q)
      rw [upd_other _ _ eq]
      exact M2.hP q c hc, M2.hL, M2.hW⟩
  have hkt : KT.length < maxLen := by have := h.kt; simp [maxLen]; omega
  obtain ⟨w', r1, r2, r3⟩ := MapV.store M3.hB lawI Tryz.underlying65 hkt (keyI ht) hKT (.pointer (some ⟨s + 1, 0, none⟩))
  refine ⟨w', r1, M3.chB (Turn.of_map r3) (f := upd σ.pb t (some (s + 1))) (r2.congr fun x => ptF_upd σ.pb t (some (s + 1)) x) (fun q c hc => ?_), ?_⟩
  · by_cases eq : q = t
    · subst eq
      rw [upd_same] at hc
      cases hc
      show PartyOk KN w2 (upd (upd σ.own s (.PM q)) (s + 1) (.P q)) q (s + 1) (upd σ.pm q s q) (σ.pw q) (σ.ph q)
      rw [upd_same, hw0]
      refine ⟨upd_same _ _ _, ?_, hpb, hmp.congr fun x => ?_⟩
      · rw [upd_other _ _ (by omega), upd_same]
      · cases x with
        | string n => simp [phF, h0]
        | _ => rfl
    · rw [upd_other _ _ eq] at hc
      exact M3.hP q c hc
  · refine ⟨(Turn.of_below hb2 _).trans (Turn.of_map r3) fun i hi => .inl ?_, fun i hi => ?_, rfl, fun i hi => ?_⟩
    · have hi : i = σ.B := hi
      rw [hi, h.tB]
      simp
    · have hi : upd (upd σ.own s (.PM t)) (s + 1) (.P t) i ≠ .no := hi
      by_cases e1 : i = s + 1
      · exact .inr (by omega)
      · rw [upd_other _ _ e1] at hi
        by_cases e2 : i = s
        · exact .inr (by omega)
        · rw [upd_other _ _ e2] at hi
          exact .inl hi
    · have hlt := h.lt i hi
      show upd (upd σ.own s (.PM t)) (s + 1) (.P t) i = σ.own i
      rw [upd_other _ _ (by omega), upd_other _ _ (by omega)]
end

set_option maxRecDepth 100000 in
set_option maxHeartbeats 4000000 in
theorem isName28 (n : Name) (w : World) : Calls Tryz.prog 47 #[nmV n] w fun e w' => e = .returned (.bool (decide (1 ≤ n.length ∧ n.length ≤ 16))) ∧ w' = w := by
  have hs : (⟨n.toArray⟩ : ByteArray).size = n.length := by simp [ByteArray.size]
  by_cases h : 1 ≤ n.length
  · have h1 : (1 : Int) ≤ ((n.length : Nat) : Int) := by omega
    rw [show decide (1 ≤ n.length ∧ n.length ≤ 16) = decide (n.length ≤ 16) from by simp [h]]
    by_cases h2 : n.length ≤ 16
    · have h3 : ((n.length : Nat) : Int) ≤ 16 := by omega
      rw [show decide (n.length ≤ 16) = true from by simp [h2]]
      clear h h2
      go_enter Tryz.func47, Tryz.ntmps47
      go_wp2
      go_ret
      exact ⟨rfl, rfl⟩
    · have h3 : ¬ (((n.length : Nat) : Int) ≤ 16) := by omega
      rw [show decide (n.length ≤ 16) = false from by simp [h2]]
      clear h h2
      go_enter Tryz.func47, Tryz.ntmps47
      go_wp2
      go_ret
      exact ⟨rfl, rfl⟩
  · have h1 : ¬ ((1 : Int) ≤ ((n.length : Nat) : Int)) := by omega
    rw [show decide (1 ≤ n.length ∧ n.length ≤ 16) = false from by simp; omega]
    clear h
    go_enter Tryz.func47, Tryz.ntmps47
    go_wp2
    go_ret
    exact ⟨rfl, rfl⟩

end Go.Proofs.YtclppfljengnbaaGreat
