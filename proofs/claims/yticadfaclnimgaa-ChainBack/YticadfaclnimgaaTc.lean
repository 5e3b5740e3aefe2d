/-
  Savepoints: saved, Mark, Drop, Save; a need less so many.
-/
import Derived.Test.YticadfaclnimgaaAp
namespace Go.Proofs.Yticadfaclnimgaa
open Go.RowKit Go.Maps

theorem lsns_len (l : List Nat) : (lsns l).length = l.length := by simp [lsns]
/-- A savepoint that is read. -/
theorem own_read {w : World} {B : Nat} {v : Value} {l : List Nat} (h : w.ownsRow B 27 1 v l.length (lsns l)) {k : Nat} (hk : k < l.length) : ∃ g cap, v = .slice (some ⟨g, 0, none⟩) l.length cap ∧ w.cell? ⟨g, k, none⟩ = some (.int .u64 ((l.getD k 0 : Nat) : Int)) := by
  rcases h.2 with ⟨_, h0⟩ | ⟨g, cap, cur, rfl, hb, hg, h1, h2, h3, h4⟩
  · omega
  · refine ⟨g, cap, rfl, ?_⟩
    have hc := h.cells (g := g) rfl k (.int .u64 ((l.getD k 0 : Nat) : Int)) (by simp [lsns, hk])
    rw [addr_add] at hc
    exact hc
/-- A row that is shortened. -/
theorem own_cut {w : World} {B : Nat} {g cap : Nat} {l : List Nat} (h : w.ownsRow B 27 1 (.slice (some ⟨g, 0, none⟩) l.length cap) l.length (lsns l)) {k : Nat} (hk : k ≤ l.length) : w.ownsRow B 27 1 (.slice (some ⟨g, 0, none⟩) k cap) (l.take k).length (lsns (l.take k)) := by
  rcases h.2 with ⟨h0, _⟩ | ⟨g', cap', cur, hv, hb, hg, h1, h2, h3, h4⟩
  · cases h0
  · injection hv with e1 e2 e3
    injection e1 with e1
    injection e1 with e1
    subst e1
    subst e3
    have hl : (l.take k).length = k := by simp; omega
    rw [hl]
    refine ⟨by simp [lsns_len]; omega, .inr ⟨g, cap, cur, rfl, hb, hg, by omega, h2, h3, ?_⟩⟩
    have h5 := congrArg (List.take k) h4
    simp only [Nat.mul_one] at h5 ⊢
    rw [List.take_take, Nat.min_eq_left hk] at h5
    rw [h5]
    simp [lsns, List.map_take]

section
variable {w : World} {B T A M : Nat} {K : List Lit} {σ : Sg} {t : Int} {x : Tn}

theorem saved_nil (t n : Int) (w : World) : Calls Try.prog 35 #[.pointer none, .int .i64 t, .int .i64 n] w fun e w' => e = .returned (.tuple #[.pointer none, .int .i64 1]) ∧ w' = w := by
  have ha := look_nil t w
  go_enter Try.func35, Try.ntmps35
  go_wp2_with (go_at_call 28; refine ha.mono ?_; rintro e w1 ⟨rfl, hw⟩; obtain rfl := hw.symm)
  go_ret2
  exact ⟨rfl, rfl⟩
/-- Is there such a savepoint? -/
def hasS (σ : Sg) (t n : Int) : Prop := ∃ x, σ.f t = some x ∧ 0 ≤ n ∧ n < x.saves.length
theorem saved_no (h : Tb w B T A K M σ) (ht : Wt t) {n : Int} (hn : ¬ hasS σ t n) : Calls Try.prog 35 #[.pointer (some ⟨T, 0, none⟩), .int .i64 t, .int .i64 n] w fun e w' => e = .returned (.tuple #[.pointer none, .int .i64 8]) ∧ w' = w := by
  cases hx : σ.f t with
  | none =>
    have ha := look_no h ht hx
    clear h hx hn
    go_enter Try.func35, Try.ntmps35
    go_wp2_with (go_at_call 28; refine ha.mono ?_; rintro e w1 ⟨rfl, hw⟩; obtain rfl := hw.symm)
    go_ret2
    exact ⟨rfl, rfl⟩
  | some x =>
    have ha := look_yes h ht hx
    obtain ⟨c0, c1, c2, c3, c4⟩ := cells5 (h.blk t x hx).2
    obtain ⟨va, vc, hv⟩ := ownsRow_shape2 (h.row t x hx)
    rw [hv] at c4
    have hl := (h.lim t x hx).2
    by_cases h0 : n < 0
    · clear h hx hn
      go_enter Try.func35, Try.ntmps35
      go_wp2_with (go_at_call 28; refine ha.mono ?_; rintro e w1 ⟨rfl, hw⟩; obtain rfl := hw.symm)
      go_ret2
      exact ⟨rfl, rfl⟩
    · have h1 : (x.saves.length : Int) ≤ n := Classical.byContradiction fun hc => hn ⟨x, hx, by omega, by omega⟩
      clear h hx hn
      go_enter Try.func35, Try.ntmps35
      go_wp2_with (go_at_call 28; refine ha.mono ?_; rintro e w1 ⟨rfl, hw⟩; obtain rfl := hw.symm)
      go_ret2
      exact ⟨rfl, rfl⟩
theorem saved_yes (h : Tb w B T A K M σ) (ht : Wt t) (hx : σ.f t = some x) {n : Nat} (hn : n < x.saves.length) : Calls Try.prog 35 #[.pointer (some ⟨T, 0, none⟩), .int .i64 t, .int .i64 (n : Int)] w fun e w' => e = .returned (.tuple #[.pointer (some ⟨σ.b t, 0, none⟩), .int .i64 0]) ∧ w' = w := by
  have ha := look_yes h ht hx
  obtain ⟨c0, c1, c2, c3, c4⟩ := cells5 (h.blk t x hx).2
  obtain ⟨va, vc, hv⟩ := ownsRow_shape2 (h.row t x hx)
  rw [hv] at c4
  have hl := (h.lim t x hx).2
  have h0 : ¬ (n : Int) < 0 := by omega
  have h1 : ¬ (x.saves.length : Int) ≤ (n : Int) := by omega
  clear h hx hv
  go_enter Try.func35, Try.ntmps35
  go_wp2_with (go_at_call 28; refine ha.mono ?_; rintro e w1 ⟨rfl, hw⟩; obtain rfl := hw.symm)
  go_ret2
  exact ⟨rfl, rfl⟩

theorem mark_nil (t n : Int) (w : World) : Calls Try.prog 22 #[.pointer none, .int .i64 t, .int .i64 n] w fun e w' => e = .returned (.tuple #[.int .u64 0, .int .i64 1]) ∧ w' = w := by
  have ha := saved_nil t n w
  go_enter Try.func22, Try.ntmps22
  go_wp2_with (go_at_call 35; refine ha.mono ?_; rintro e w1 ⟨rfl, hw⟩; obtain rfl := hw.symm)
  go_ret2
  exact ⟨rfl, rfl⟩
theorem mark_no (h : Tb w B T A K M σ) (ht : Wt t) {n : Int} (hn : ¬ hasS σ t n) : Calls Try.prog 22 #[.pointer (some ⟨T, 0, none⟩), .int .i64 t, .int .i64 n] w fun e w' => e = .returned (.tuple #[.int .u64 0, .int .i64 8]) ∧ w' = w := by
  have ha := saved_no h ht hn
  clear h hn
  go_enter Try.func22, Try.ntmps22
  go_wp2_with (go_at_call 35; refine ha.mono ?_; rintro e w1 ⟨rfl, hw⟩; obtain rfl := hw.symm)
  go_ret2
  exact ⟨rfl, rfl⟩
theorem mark_yes (h : Tb w B T A K M σ) (ht : Wt t) (hx : σ.f t = some x) {n : Nat} (hn : n < x.saves.length) : Calls Try.prog 22 #[.pointer (some ⟨T, 0, none⟩), .int .i64 t, .int .i64 (n : Int)] w fun e w' => e = .returned (.tuple #[.int .u64 ((x.saves.getD n 0 : Nat) : Int), .int .i64 0]) ∧ w' = w := by
  have ha := saved_yes h ht hx hn
  obtain ⟨c0, c1, c2, c3, c4⟩ := cells5 (h.blk t x hx).2
  obtain ⟨g, cap, hv, hr⟩ := own_read (h.row t x hx) hn
  rw [hv] at c4
  have hl := (h.lim t x hx).2
  have h1 : (n : Int) < (x.saves.length : Int) := by omega
  clear h hx hv
  generalize x.saves.getD n 0 = q at *
  go_enter Try.func22, Try.ntmps22
  go_wp2_with (go_at_call 35; refine ha.mono ?_; rintro e w1 ⟨rfl, hw⟩; obtain rfl := hw.symm)
  go_ret2
  exact ⟨rfl, rfl⟩

theorem drop_nil (t n : Int) (w : World) : Calls Try.prog 21 #[.pointer none, .int .i64 t, .int .i64 n] w fun e w' => e = .returned (.int .i64 1) ∧ w' = w := by
  have ha := saved_nil t n w
  go_enter Try.func21, Try.ntmps21
  go_wp2_with (go_at_call 35; refine ha.mono ?_; rintro e w1 ⟨rfl, hw⟩; obtain rfl := hw.symm)
  go_ret
  exact ⟨rfl, rfl⟩
theorem drop_no (h : Tb w B T A K M σ) (ht : Wt t) {n : Int} (hn : ¬ hasS σ t n) : Calls Try.prog 21 #[.pointer (some ⟨T, 0, none⟩), .int .i64 t, .int .i64 n] w fun e w' => e = .returned (.int .i64 8) ∧ w' = w := by
  have ha := saved_no h ht hn
  clear h hn
  go_enter Try.func21, Try.ntmps21
  go_wp2_with (go_at_call 35; refine ha.mono ?_; rintro e w1 ⟨rfl, hw⟩; obtain rfl := hw.symm)
  go_ret
  exact ⟨rfl, rfl⟩
theorem drop_yes (h : Tb w B T A K M σ) (ht : Wt t) (hx : σ.f t = some x) {n : Nat} (hn : n < x.saves.length) : Calls Try.prog 21 #[.pointer (some ⟨T, 0, none⟩), .int .i64 t, .int .i64 (n : Int)] w fun e w' => e = .returned (.int .i64 0) ∧ ∃ v, Tb w' B T A K M (σ.put t { x with saves := x.saves.take n } (σ.b t) v) ∧ Step A w σ w' (σ.put t { x with saves := x.saves.take n } (σ.b t) v) := by
  have ha := saved_yes h ht hx hn
  obtain ⟨c0, c1, c2, c3, c4⟩ := cells5 (h.blk t x hx).2
  obtain ⟨_, _, _, _, f4⟩ := frozen5 (h.blk t x hx).2
  obtain ⟨g, cap, hv, hr⟩ := own_read (h.row t x hx) hn
  have hrow := h.row t x hx
  have hblk := (h.blk t x hx).2
  rw [hv] at c4 hrow hblk
  have hl := (h.lim t x hx)
  have hcap : x.saves.length ≤ cap ∧ cap ≤ maxLen := by
    rcases hrow.2 with ⟨h0, _⟩ | ⟨g', cap', cur, e, hb, hg, h1, h2, h3, h4⟩
    · cases h0
    · injection e with e1 e2 e3
      subst e3
      exact ⟨h1, h2⟩
  have HQ := toHid (show Tb (w.setCell ⟨σ.b t, 4, none⟩ (.slice (some ⟨g, 0, none⟩) n cap)) B T A K M (σ.put t { x with saves := x.saves.take n } (σ.b t) (.slice (some ⟨g, 0, none⟩) n cap)) ∧ Step A w σ (w.setCell ⟨σ.b t, 4, none⟩ (.slice (some ⟨g, 0, none⟩) n cap)) (σ.put t { x with saves := x.saves.take n } (σ.b t) (.slice (some ⟨g, 0, none⟩) n cap)) from by
    refine h.put hx (Nat.le_refl _) ((Turn.setCell w ⟨σ.b t, 4, none⟩ _).mono fun i hi => .inl (.inl hi)) ?_ (own_at (own_cut hrow (by omega)) fun k hk => ?_) (fun k hk => .inl ?_) hl.1 (by simp; omega)
    · exact heap_setCell_same w (σ.b t) 4 _ _ _ hblk
    · refine heap_setCell_other _ _ _ _ fun e => ?_
      have e : k = σ.b t := e
      have hk : g = k := by simpa [Value.ownBlock] using hk
      obtain ⟨_, cur, h2⟩ := own_kind hrow (g := g) rfl
      rw [hk, e, hblk] at h2
      injection h2 with h2
      injection h2 with h3 h4
      exact absurd h4 (by decide)
    · rw [hv]; exact hk)
  obtain ⟨hc1, hc2⟩ := hcap
  unfold maxLen at hc2
  have h1 : (n : Int) ≤ (cap : Int) := by omega
  have h2 : n ≤ cap := by omega
  clear h hx hv hrow hblk hr
  go_enter Try.func21, Try.ntmps21
  go_wp2_with (go_at_call 35; refine ha.mono ?_; rintro e w1 ⟨rfl, hw⟩; obtain rfl := hw.symm)
  go_ret
  exact ⟨rfl, _, HQ.out⟩

/-- A need less so many. -/
theorem less62 {b : Nat} {x : Tn} {v : Value} {n : Nat} (hb : w.heap[b]? = some (.cells (txC x v) 74)) (h1 : x.need ≤ 1000000000) (h2 : n ≤ 1000000000) : Calls Try.prog 62 #[.pointer (some ⟨b, 0, none⟩), .int .i64 (n : Int)] w fun e w' => e = .returned (.tuple #[]) ∧ w' = w.setCell ⟨b, 3, none⟩ (.int .i64 ((x.need - n : Nat) : Int)) := by
  obtain ⟨c0, c1, c2, c3, c4⟩ := cells5 hb
  obtain ⟨_, _, _, f3, _⟩ := frozen5 hb
  have HM := toHid (show max (0 : Int) ((x.need : Int) - (n : Int)) = ((x.need - n : Nat) : Int) by omega)
  clear hb
  go_enter Try.func62, Try.ntmps62
  go_wp2
  rw [HM.out]
  go_end0
  exact ⟨rfl, rfl⟩

theorem save_nil (t : Int) (w : World) : Calls Try.prog 20 #[.pointer none, .int .i64 t] w fun e w' => e = .returned (.tuple #[.int .i64 0, .int .i64 1]) ∧ w' = w := by
  have ha := look_nil t w
  go_enter Try.func20, Try.ntmps20
  go_wp2_with (go_at_call 28; refine ha.mono ?_; rintro e w1 ⟨rfl, hw⟩; obtain rfl := hw.symm)
  go_ret2
  exact ⟨rfl, rfl⟩
theorem save_none (h : Tb w B T A K M σ) (ht : Wt t) (hx : σ.f t = none) : Calls Try.prog 20 #[.pointer (some ⟨T, 0, none⟩), .int .i64 t] w fun e w' => e = .returned (.tuple #[.int .i64 0, .int .i64 8]) ∧ w' = w := by
  have ha := look_no h ht hx
  clear h hx
  go_enter Try.func20, Try.ntmps20
  go_wp2_with (go_at_call 28; refine ha.mono ?_; rintro e w1 ⟨rfl, hw⟩; obtain rfl := hw.symm)
  go_ret2
  exact ⟨rfl, rfl⟩
theorem save_state (h : Tb w B T A K M σ) (ht : Wt t) (hx : σ.f t = some x) (hs : x.st ≠ 0) : Calls Try.prog 20 #[.pointer (some ⟨T, 0, none⟩), .int .i64 t] w fun e w' => e = .returned (.tuple #[.int .i64 0, .int .i64 10]) ∧ w' = w := by
  have ha := look_yes h ht hx
  have hi := isOpen34 (h.blk t x hx).2
  rw [show (x.st == 0) = false by simpa using hs] at hi
  clear h hx hs
  go_enter Try.func20, Try.ntmps20
  go_wp2_with (first
    | (go_at_call 28; refine ha.mono ?_; rintro e w1 ⟨rfl, hw⟩; obtain rfl := hw.symm)
    | (go_at_call 34; refine hi.mono ?_; rintro e w1 ⟨rfl, hw⟩; obtain rfl := hw.symm))
  go_ret2
  exact ⟨rfl, rfl⟩
theorem save_full (h : Tb w B T A K M σ) (ht : Wt t) (hx : σ.f t = some x) (hs : x.st = 0) (h4 : x.saves.length = 4) : Calls Try.prog 20 #[.pointer (some ⟨T, 0, none⟩), .int .i64 t] w fun e w' => e = .returned (.tuple #[.int .i64 0, .int .i64 7]) ∧ w' = w := by
  have ha := look_yes h ht hx
  have hi := isOpen34 (h.blk t x hx).2
  obtain ⟨c0, c1, c2, c3, c4⟩ := cells5 (h.blk t x hx).2
  obtain ⟨va, vc, hv⟩ := ownsRow_shape2 (h.row t x hx)
  rw [hv, h4] at c4
  rw [show (x.st == 0) = true by simpa using hs] at hi
  clear h hx hs h4 hv
  go_enter Try.func20, Try.ntmps20
  go_wp2_with (first
    | (go_at_call 28; refine ha.mono ?_; rintro e w1 ⟨rfl, hw⟩; obtain rfl := hw.symm)
    | (go_at_call 34; refine hi.mono ?_; rintro e w1 ⟨rfl, hw⟩; obtain rfl := hw.symm))
  go_ret2
  exact ⟨rfl, rfl⟩
end
end Go.Proofs.Yticadfaclnimgaa
