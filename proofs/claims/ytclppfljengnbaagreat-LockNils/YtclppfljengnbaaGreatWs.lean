/-
  LockStays: the walk.
-/
import Derived.Test.YtclppfljengnbaaGreatRc
namespace Go.Proofs.YtclppfljengnbaaGreat
open Go.RowKit Go.Maps Go.Sort Go.Shelf

/-- What somebody had, as it was told. -/
structure HeldR (B : Nat) (W : World) (σ : Sg) (v : Value) (ks : List Name) (f : Name → Nat) : Prop where
  row : W.ownsRow B 106 2 v ks.length (hcells ks f)
  no : ∀ g, v.ownBlock = some g → σ.own g = .no
  mem : ∀ k, k ∈ ks ↔ f k ≠ 0
  few : ks.length ≤ 1000
  low : ∀ k, f k < 6
theorem HeldR.step {B : Nat} {W W' : World} {σ σ' : Sg} {v : Value} {ks : List Name} {f : Name → Nat} (h : HeldR B W σ v ks f) (s : Step W σ W' σ') : HeldR B W' σ' v ks f :=
  ⟨ownsRow_at h.row fun g hg => s.turn.block g (ownsRow_blk h.row hg).2 (fun e => e (h.no g hg)), fun g hg => Classical.byContradiction fun e => (s.own g e).elim (fun e1 => e1 (h.no g hg)) (fun e1 => by have := (ownsRow_blk h.row hg).2; omega), h.mem, h.few, h.low⟩
theorem hcells_at : ∀ (ks : List Name) (f : Name → Nat) (i : Nat) (hi : i < ks.length), (hcells ks f)[2 * i]? = some (nmV ks[i]) ∧ (hcells ks f)[2 * i + 1]? = some (.int .i64 ((f ks[i] : Nat) : Int))
  | k :: ks, f, 0, _ => by simp [hcells]
  | k :: ks, f, i + 1, hi => by
    have := hcells_at ks f i (by simpa using hi)
    have e : hcells (k :: ks) f = nmV k :: .int .i64 ((f k : Nat) : Int) :: hcells ks f := by simp [hcells]
    rw [e, show 2 * (i + 1) = 2 * i + 2 by omega]
    simpa using this
theorem HeldR.at {B : Nat} {W : World} {σ : Sg} {a : Option Addr} {c : Nat} {ks : List Name} {f : Name → Nat} (h : HeldR B W σ (.slice a ks.length c) ks f) {i : Nat} (hi : i < ks.length) :
    ∃ g, a = some ⟨g, 0, none⟩ ∧ W.cell? ⟨g, i * 2, none⟩ = some (nmV ks[i]) ∧ W.cell? ⟨g, i * 2 + 1, none⟩ = some (.int .i64 ((f ks[i] : Nat) : Int)) ∧ g < W.heap.size := by
  rcases h.row.2 with ⟨_, h0⟩ | ⟨g, cap, cur, hv, _, hh, _⟩
  · omega
  · injection hv with e1
    subst e1
    obtain ⟨h1, h2⟩ := hcells_at ks f i hi
    have c1 := h.row.cells (g := g) rfl _ _ h1
    have c2 := h.row.cells (g := g) rfl _ _ h2
    rw [addr_add] at c1 c2
    exact ⟨g, rfl, by rw [Nat.mul_comm]; exact c1, by rw [Nat.mul_comm]; exact c2, lt_of_heap hh⟩

section
variable {KT KN : List Lit} {w : World} {σ : Sg} {Q : Name → List Nat} {t : Int}
theorem held_at (h : Mem KT KN w σ) (G : Good σ Q (fun _ => False) (fun _ => False)) (ht : (Lit.int .i64 t).wf = true) {B : Nat} (hB : B ≤ w.heap.size) : Calls Tryz.prog 23 #[.pointer (some ⟨σ.T, 0, none⟩), .int .i64 t] w fun e w' => ∃ a c ks, e = .returned (.slice a (List.length ks) c) ∧ HeldR B w' σ (.slice a (List.length ks) c) ks (σ.ph t) ∧ Below w.heap.size w w' ∧ ks.Pairwise (· < ·) := by
  refine (held8 h G ht).mono ?_
  rintro e w' ⟨v, ks, rfl, h1, h2, h3, h4, h5⟩
  obtain ⟨a, c, rfl⟩ := ownsRow_shape h1
  exact ⟨a, c, ks, rfl, ⟨ownsRow_base h1 hB, fun g hg => own_new h (ownsRow_blk h1 hg).1, h3, h4, G.low t⟩, h5, h2⟩

/-- One step of the law, whatever it is: what somebody has it keeps. -/
structure Stp (KT KN : List Lit) (w : World) (T : Nat) (W : World) (σ : Sg) (Q : Name → List Nat) : Prop where
  mem : Mem KT KN W σ
  good : Good σ Q (fun _ => False) (fun _ => False)
  bel : Below w.heap.size w W
  own : ∀ i, σ.own i ≠ .no → w.heap.size ≤ i
  top : σ.T = T
theorem Stp.next {W W' : World} {w : World} {T : Nat} {σ σ' : Sg} {Q Q' : Name → List Nat} (h : Stp KT KN w T W σ Q) (m : Mem KT KN W' σ') (g : Good σ' Q' (fun _ => False) (fun _ => False)) (s : Step W σ W' σ') : Stp KT KN w T W' σ' Q' :=
  ⟨m, g, (belowStep h.bel s h.own).1, (belowStep h.bel s h.own).2, s.top.trans h.top⟩
theorem Stp.quiet {W W' : World} {w : World} {T : Nat} {σ : Sg} {Q : Name → List Nat} (h : Stp KT KN w T W σ Q) (hb : Below W.heap.size W W') : Stp KT KN w T W' σ Q := h.next (h.mem.below hb) h.good (Step.quiet hb)

theorem stp_ask {W w : World} {T : Nat} (h : Stp KT KN w T W σ Q) {n : Name} {md : Int} (ht : (Lit.int .i64 t).wf = true) (hKT : Lit.int .i64 t ∈ KT) (hKN : Lit.string n ∈ KN) : Calls Tryz.prog 21 #[.pointer (some ⟨T, 0, none⟩), .int .i64 t, .agg #[nmV n, .int .i64 md]] W fun e w' => ∃ g er, e = .returned (.tuple #[.bool g, .int .i64 er]) ∧ ∃ σ' Q', Stp KT KN w T w' σ' Q' ∧ Step W σ w' σ' ∧ ∀ t n, joinN (σ.ph t n) (σ'.ph t n) = σ'.ph t n := by
  rw [← h.top]
  refine (ask_all h.mem h.good ht hKT hKN).mono ?_
  rintro e w' ⟨g, er, rfl, σ', Q', m', s', g', k', _⟩
  exact ⟨g, er, rfl, σ', Q', by rw [h.top]; exact h.next m' g' s', s', k'⟩
theorem stp_cancel {W w : World} {T : Nat} (h : Stp KT KN w T W σ Q) (ht : (Lit.int .i64 t).wf = true) : Calls Tryz.prog 22 #[.pointer (some ⟨T, 0, none⟩), .int .i64 t] W fun e w' => ∃ v, e = .returned v ∧ ∃ σ' Q', Stp KT KN w T w' σ' Q' ∧ Step W σ w' σ' ∧ ∀ t n, joinN (σ.ph t n) (σ'.ph t n) = σ'.ph t n := by
  rw [← h.top]
  refine (cancel19 h.mem h.good ht).mono ?_
  rintro e w' ⟨v, rfl, σ', Q', l', ns, m', g', _, _, s', a', _⟩
  refine ⟨v, rfl, σ', Q', by rw [h.top]; exact h.next m' g' s', s', (a'.keeps ?_).1⟩
  exact ⟨h.good.low, fun n x hx => h.good.lowA.2 n x (List.mem_filter.1 hx).1⟩
theorem stp_free {W w : World} {T : Nat} (h : Stp KT KN w T W σ Q) (ht : (Lit.int .i64 t).wf = true) : Calls Tryz.prog 18 #[.pointer (some ⟨T, 0, none⟩), .int .i64 t] W fun e w' => ∃ v, e = .returned v ∧ ∃ σ' Q', Stp KT KN w T w' σ' Q' ∧ Step W σ w' σ' ∧ ∀ s n, s ≠ t → joinN (σ.ph s n) (σ'.ph s n) = σ'.ph s n := by
  rw [← h.top]
  refine (free18 h.mem h.good ht).mono ?_
  rintro e w' ⟨v, rfl, σ', Q', l', ns, m', g', _, _, s', a', _⟩
  refine ⟨v, rfl, σ', Q', by rw [h.top]; exact h.next m' g' s', s', fun s n hs => ?_⟩
  have hk := (a'.keeps ⟨fun s n => ?_, fun n x hx => h.good.lowA.2 n x (List.mem_filter.1 hx).1⟩).1 s n
  · have e : ((absS σ Q).free t).H s n = σ.ph s n := by show upd σ.ph t (fun _ => 0) s n = _; rw [upd_other _ _ hs]
    rw [e] at hk
    exact hk
  · show upd σ.ph t (fun _ => 0) s n < 6
    by_cases e : s = t
    · rw [e, upd_same]; omega
    · rw [upd_other _ _ e]; exact h.good.low s n
end

end Go.Proofs.YtclppfljengnbaaGreat
