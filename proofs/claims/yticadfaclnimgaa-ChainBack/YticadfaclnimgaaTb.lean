/-
  Row, New, Gone, Open; a need less so many.
-/
import Derived.Test.YticadfaclnimgaaTa
import Derived.BigRegion
namespace Go.Proofs.Yticadfaclnimgaa
open Go.RowKit Go.Maps

theorem cells3 {w : World} {g : Nat} {a b c : Value} {t : TypeId} (h : w.heap[g]? = some (.cells #[a, b, c] t)) :
    w.cell? ⟨g, 0, none⟩ = some a ∧ w.cell? ⟨g, 1, none⟩ = some b ∧ w.cell? ⟨g, 2, none⟩ = some c ∧ w.frozen? ⟨g, 0, none⟩ = false ∧ w.frozen? ⟨g, 1, none⟩ = false ∧ w.frozen? ⟨g, 2, none⟩ = false := by
  refine ⟨?_, ?_, ?_, ?_, ?_, ?_⟩ <;> simp [World.cell?, World.frozen?, h]

theorem wt_of {t : Int} (h1 : -9223372036854775808 ≤ t) (h2 : t ≤ 9223372036854775807) : Wt t := by
  show (decide (IntKind.i64.min ≤ t) && decide (t ≤ IntKind.i64.max)) = true
  rw [show IntKind.i64.min = -9223372036854775808 from by decide, show IntKind.i64.max = 9223372036854775807 from by decide]
  simp [h1, h2]
section
variable {w : World} {B T A M : Nat} {K : List Lit} {σ : Sg} {t : Int} {x : Tn}

theorem row_nil (t : Int) (w : World) : Calls Try.prog 12 #[.pointer none, .int .i64 t] w fun e w' => e = .returned (.tuple #[rowO t none, .bool false]) ∧ Below w.heap.size w w' := by
  have ha := at_nil t (w.alloc (.cells #[.int .i64 0, .int .i64 0, .int .u64 0] 43))
  go_enter Try.func12, Try.ntmps12
  go_wp2_with (go_at_call 25; refine ha.mono ?_; rintro e w1 ⟨rfl, hw⟩; obtain rfl := hw.symm)
  refine bodyPost_ret (v := .tuple #[rowO t none, .bool false]) (by simp [results, Try.results12, go_sem, rowO]) rfl ⟨rfl, ?_⟩
  first | exact (Below.refl _ _).alloc (Nat.le_refl _) _ | exact ((Below.refl _ _).alloc (Nat.le_refl _) _).drew | exact ((Below.refl _ _).drew).alloc (Nat.le_refl _) _
theorem row12_no (h : Tb w B T A K M σ) (ht : Wt t) (hx : σ.f t = none) : Calls Try.prog 12 #[.pointer (some ⟨T, 0, none⟩), .int .i64 t] w fun e w' => e = .returned (.tuple #[rowO t none, .bool false]) ∧ Below w.heap.size w w' := by
  have ha := at_no (h.below ((Below.refl _ _).alloc (Nat.le_refl _) (.cells #[.int .i64 0, .int .i64 0, .int .u64 0] 43))) ht hx
  clear h hx
  go_enter Try.func12, Try.ntmps12
  go_wp2_with (go_at_call 25; refine ha.mono ?_; rintro e w1 ⟨rfl, hw⟩; obtain rfl := hw.symm)
  refine bodyPost_ret (v := .tuple #[rowO t none, .bool false]) (by simp [results, Try.results12, go_sem, rowO]) rfl ⟨rfl, ?_⟩
  first | exact (Below.refl _ _).alloc (Nat.le_refl _) _ | exact ((Below.refl _ _).alloc (Nat.le_refl _) _).drew | exact ((Below.refl _ _).drew).alloc (Nat.le_refl _) _
theorem row12_yes (h : Tb w B T A K M σ) (ht : Wt t) (hx : σ.f t = some x) : Calls Try.prog 12 #[.pointer (some ⟨T, 0, none⟩), .int .i64 t] w fun e w' => e = .returned (.tuple #[rowO t (some x), .bool true]) ∧ Below w.heap.size w w' := by
  have h1 := h.below ((Below.refl _ _).alloc (Nat.le_refl _) (.cells #[.int .i64 0, .int .i64 0, .int .u64 0] 43))
  have ha := at_yes h1 ht hx
  obtain ⟨c0, c1, c2, c3, c4⟩ := cells5 (h.blk t x hx).2
  have hlt := some_lt (h.blk t x hx).2
  clear h hx h1
  go_enter Try.func12, Try.ntmps12
  go_wp2_with (go_at_call 25; refine ha.mono ?_; rintro e w1 ⟨rfl, hw⟩; obtain rfl := hw.symm)
  go_region
  all_goals
    go_wp2
    refine bodyPost_ret (v := .tuple #[rowO t (some x), .bool true]) (by simp [results, Try.results12, go_sem, rowO]) rfl ⟨rfl, ?_⟩
    first | exact (Below.refl _ _).alloc (Nat.le_refl _) _ | exact ((Below.refl _ _).alloc (Nat.le_refl _) _).drew | exact ((Below.refl _ _).drew).alloc (Nat.le_refl _) _

/-- A table without transactions. -/
def sg0 : Sg := ⟨fun _ => none, fun _ => 0, fun _ => .slice none 0 0⟩
theorem new8 (K : List Lit) (hk : K.length ≤ 1000) (w : World) : Calls Try.prog 8 #[] w fun e w' => e = .returned (.pointer (some ⟨w.heap.size + 1, 0, none⟩)) ∧ Tb w' w.heap.size (w.heap.size + 1) w.heap.size K 0 sg0 ∧ Below w.heap.size w w' := by
  have hmk := @run_makeMap Try.prog
  go_enter Try.func8, Try.ntmps8
  go_wp2
  go_ret
  have hm : MapV Try.prog 3 (w.alloc (.map #[] 0)) w.heap.size K fun _ => none := MapV.made w
  refine ⟨rfl, ⟨?_, by omega, Nat.le_refl _, (hm.at ?_).congr fun k => ?_, fun t x h => (by cases h), fun t x h => (by cases h), fun t u x y h => (by cases h), fun t x h => (by cases h), hk⟩, ((Below.refl _ _).alloc (Nat.le_refl _) _).alloc (by simp) _⟩
  · have := heap_alloc_new (w.alloc (.map #[] 0)) (.cells #[.map (some w.heap.size)] 71)
    simpa using this
  · exact heap_alloc_old (by simp)
  · cases k <;> try rfl
    rename_i kd u
    cases kd <;> rfl

theorem Tb.gone (h : Tb w B T A K M σ) {w' : World} (hm : MapV Try.prog 3 w' A K (upd (ptF σ) (.int .i64 t) none)) (ht : w.mapTurned w' A) : Tb w' B T A K M (σ.gone t) ∧ Step A w σ w' (σ.gone t) := by
  have tn := Turn.of_map ht
  have hf : ∀ u z, (σ.gone t).f u = some z → σ.f u = some z := fun u z hz => by
    by_cases e : u = t
    · subst e
      rw [show (σ.gone u).f u = none from upd_same _ _ _] at hz
      cases hz
    · rw [show (σ.gone t).f u = σ.f u from upd_other _ _ e] at hz
      exact hz
  have hne : ∀ k cs ty fr, w.heap[k]? = some (Obj.cells cs ty fr) → w'.heap[k]? = w.heap[k]? := fun k cs ty fr hk => tn.block k (some_lt hk) fun e => by
    obtain ⟨es, c, hb⟩ := h.map.blk
    rw [← e, hk] at hb
    cases hb
  refine ⟨⟨(hne _ _ _ _ h.tab).trans h.tab, h.hT, h.hA, hm.congr (ptF_gone t), fun u z hz => ⟨(h.blk u z (hf u z hz)).1, (hne _ _ _ _ (h.blk u z (hf u z hz)).2).trans (h.blk u z (hf u z hz)).2⟩, fun u z hz => own_at (h.row u z (hf u z hz)) fun g hg => ?_, fun u s x y hx hy => h.inj u s x y (hf u x hx) (hf s y hy), fun u z hz => h.lim u z (hf u z hz), h.kl⟩, tn.mono fun i hi => .inl (.inl hi), fun k hk => ?_⟩
  · obtain ⟨_, cur, h2⟩ := own_kind (h.row u z (hf u z hz)) hg
    exact hne _ _ _ _ h2
  · rcases hk with rfl | ⟨u, z, hz, hk⟩
    · exact .inl (.inl rfl)
    · exact .inl (.inr ⟨u, z, hf u z hz, hk⟩)

theorem gone_nil (t : Int) (w : World) : Calls Try.prog 19 #[.pointer none, .int .i64 t] w fun e w' => e = .returned (.bool false) ∧ w' = w := by
  have ha := at_nil t w
  go_enter Try.func19, Try.ntmps19
  go_wp2_with (go_at_call 25; refine ha.mono ?_; rintro e w1 ⟨rfl, hw⟩; obtain rfl := hw.symm)
  go_ret
  exact ⟨rfl, rfl⟩
set_option maxRecDepth 100000 in
set_option maxHeartbeats 4000000 in
theorem gone19 (h : Tb w B T A K M σ) (ht : Wt t) : Calls Try.prog 19 #[.pointer (some ⟨T, 0, none⟩), .int .i64 t] w fun e w' => e = .returned (.bool (σ.f t).isSome) ∧ Tb w' B T A K M (σ.gone t) ∧ Step A w σ w' (σ.gone t) := by
  cases hx : σ.f t with
  | none =>
    have ha := at_no h ht hx
    have HG := toHid (show Tb w B T A K M (σ.gone t) ∧ Step A w σ w (σ.gone t) from by
      have e : σ.gone t = σ := by
        show (⟨upd σ.f t none, σ.b, σ.v⟩ : Sg) = σ
        have : upd σ.f t none = σ.f := funext fun u => by
          by_cases e : u = t
          · subst e; rw [upd_same, hx]
          · rw [upd_other _ _ e]
        rw [this]
      rw [e]
      exact ⟨h, Step.refl _ _ _⟩)
    clear h hx
    go_enter Try.func19, Try.ntmps19
    go_wp2_with (go_at_call 25; refine ha.mono ?_; rintro e w1 ⟨rfl, hw⟩; obtain rfl := hw.symm)
    go_ret
    exact ⟨rfl, HG.out⟩
  | some x =>
    have ha := at_yes h ht hx
    have hT := h.cellT
    have hd := fun ty => h.map.drop lawI Try.underlying69 (keyI ht) ty
    have HH := toHid h
    clear h hx
    go_enter Try.func19, Try.ntmps19
    go_wp2_with (first
      | (go_at_call 25; refine ha.mono ?_; rintro e w1 ⟨rfl, hw⟩; obtain rfl := hw.symm)
      | (refine wpList_delete_any w rfl _ _ _ _ rfl (fun w' => MapV Try.prog 3 w' A K (upd (ptF σ) (.int .i64 t) none) ∧ w.mapTurned w' A) _ _ rfl rfl hd ?_; rintro w' ⟨q1, q2⟩))
    go_ret
    exact ⟨rfl, HH.out.gone q1 q2⟩

/-- One more transaction. -/
theorem Tb.open (h : Tb w B T A K M σ) {w' : World} (hn : σ.f t = none) (hm : MapV Try.prog 3 w' A K (upd (ptF σ) (.int .i64 t) (some (.pointer (some ⟨w.heap.size, 0, none⟩))))) (ht : (w.alloc (.cells (txC tn0 (.slice none 0 0)) 74)).mapTurned w' A) :
    Tb w' B T A K M (σ.put t tn0 w.heap.size (.slice none 0 0)) ∧ Step A w σ w' (σ.put t tn0 w.heap.size (.slice none 0 0)) := by
  have tn := Turn.of_map ht
  have hal := fun k (hk : k < w.heap.size) => heap_alloc_old (w := w) (o := .cells (txC tn0 (.slice none 0 0)) 74) hk
  have hBw : B ≤ w.heap.size := Nat.le_trans h.hT (Nat.le_of_lt h.lt)
  have hne : ∀ k cs ty fr, w.heap[k]? = some (Obj.cells cs ty fr) → w'.heap[k]? = some (Obj.cells cs ty fr) := fun k cs ty fr hk => by
    have hl := some_lt hk
    rw [tn.block k (by simp; omega) (fun e => by
      obtain ⟨es, c, hb⟩ := h.map.blk
      rw [← e, hk] at hb
      cases hb), hal k hl]
    exact hk
  have hnew : w'.heap[w.heap.size]? = some (.cells (txC tn0 (.slice none 0 0)) 74) := by
    rw [tn.block _ (by simp) (fun e => by have := h.ltA; omega)]
    exact heap_alloc_new w _
  have e1 : ∀ u, u ≠ t → (σ.put t tn0 w.heap.size (.slice none 0 0)).f u = σ.f u ∧ (σ.put t tn0 w.heap.size (.slice none 0 0)).b u = σ.b u ∧ (σ.put t tn0 w.heap.size (.slice none 0 0)).v u = σ.v u := fun u hu => ⟨upd_other _ _ hu, upd_other _ _ hu, upd_other _ _ hu⟩
  have e2 : (σ.put t tn0 w.heap.size (.slice none 0 0)).f t = some tn0 ∧ (σ.put t tn0 w.heap.size (.slice none 0 0)).b t = w.heap.size ∧ (σ.put t tn0 w.heap.size (.slice none 0 0)).v t = .slice none 0 0 := ⟨upd_same _ _ _, upd_same _ _ _, upd_same _ _ _⟩
  refine ⟨⟨hne _ _ _ _ h.tab, h.hT, h.hA, hm.congr (ptF_put t tn0 _ _), fun u z hz => ?_, fun u z hz => ?_, fun u s z1 z2 h1 h2 hus => ?_, fun u z hz => ?_, h.kl⟩, ?_, fun k hk => ?_⟩
  · by_cases hu : u = t
    · subst hu
      rw [e2.1] at hz
      cases hz
      rw [e2.2.1, e2.2.2]
      exact ⟨hBw, hnew⟩
    · obtain ⟨a1, a2, a3⟩ := e1 u hu
      rw [a1] at hz
      rw [a2, a3]
      exact ⟨(h.blk u z hz).1, hne _ _ _ _ (h.blk u z hz).2⟩
  · by_cases hu : u = t
    · subst hu
      rw [e2.1] at hz
      cases hz
      rw [e2.2.2]
      exact ⟨rfl, .inl ⟨rfl, rfl⟩⟩
    · obtain ⟨a1, a2, a3⟩ := e1 u hu
      rw [a1] at hz
      rw [a3]
      refine own_at (h.row u z hz) fun g hg => ?_
      obtain ⟨_, cur, h2⟩ := own_kind (h.row u z hz) hg
      rw [hne _ _ _ _ h2, h2]
  · by_cases hu : u = t
    · subst hu
      have hs' : s ≠ u := fun e => hus e.symm
      obtain ⟨a1, a2, a3⟩ := e1 s hs'
      rw [a1] at h2
      rw [e2.2.1, e2.2.2, a2, a3]
      exact ⟨fun e => by have := some_lt (h.blk s z2 h2).2; omega, fun g hg => by cases hg⟩
    · obtain ⟨a1, a2, a3⟩ := e1 u hu
      rw [a1] at h1
      by_cases hs' : s = t
      · subst hs'
        rw [e2.2.1, e2.2.2, a2, a3]
        exact ⟨fun e => by have := some_lt (h.blk u z1 h1).2; omega, fun g hg e => by cases e⟩
      · obtain ⟨c1, c2, c3⟩ := e1 s hs'
        rw [c1] at h2
        rw [a2, a3, c2, c3]
        exact h.inj u s z1 z2 h1 h2 hus
  · by_cases hu : u = t
    · subst hu
      rw [e2.1] at hz
      cases hz
      exact ⟨Nat.zero_le _, Nat.zero_le _⟩
    · rw [(e1 u hu).1] at hz
      exact h.lim u z hz
  · exact (Turn.alloc (Foot A σ) w _).trans tn fun i hi => .inl (.inl hi)
  · rcases hk with rfl | ⟨u, z, hz, hk⟩
    · exact .inl (.inl rfl)
    · by_cases hu : u = t
      · subst hu
        rw [e2.2.1, e2.2.2] at hk
        rcases hk with rfl | hk
        · exact .inr (Nat.le_refl _)
        · cases hk
      · obtain ⟨a1, a2, a3⟩ := e1 u hu
        rw [a1] at hz
        rw [a2, a3] at hk
        exact .inl (.inr ⟨u, z, hz, hk⟩)

set_option maxRecDepth 100000 in
set_option maxHeartbeats 4000000 in
theorem open_nil (t : Int) (w : World) : Calls Try.prog 11 #[.pointer none, .int .i64 t] w fun e w' => e = .returned (.int .i64 1) ∧ w' = w := by
  go_enter Try.func11, Try.ntmps11
  go_wp2
  go_ret
  exact ⟨rfl, rfl⟩
set_option maxRecDepth 100000 in
set_option maxHeartbeats 4000000 in
theorem open_arg (T : Nat) (w : World) (ht : t < 1 ∨ 1073741824 < t) : Calls Try.prog 11 #[.pointer (some ⟨T, 0, none⟩), .int .i64 t] w fun e w' => e = .returned (.int .i64 1) ∧ w' = w := by
  rcases ht with ht | ht
  · go_enter Try.func11, Try.ntmps11
    go_wp2
    go_ret
    exact ⟨rfl, rfl⟩
  · have h2 : ¬ t < 1 := by omega
    go_enter Try.func11, Try.ntmps11
    go_wp2
    go_ret
    exact ⟨rfl, rfl⟩
set_option maxRecDepth 100000 in
set_option maxHeartbeats 4000000 in
theorem open_twice (h : Tb w B T A K M σ) (h1 : 1 ≤ t) (h2 : t ≤ 1073741824) (hx : σ.f t = some x) : Calls Try.prog 11 #[.pointer (some ⟨T, 0, none⟩), .int .i64 t] w fun e w' => e = .returned (.int .i64 9) ∧ w' = w := by
  have hl := h.look (t := t) (wt_of (by omega) (by omega))
  rw [hx] at hl
  simp only [Option.map_some, ptr_some] at hl
  have hT := h.cellT
  clear h hx
  go_enter Try.func11, Try.ntmps11
  go_wp2
  go_ret
  exact ⟨rfl, rfl⟩
end
end Go.Proofs.Yticadfaclnimgaa
