/-
  A table behind some steps.
-/
import Derived.Test.YtclppfljengnbaaGreatAr
namespace Go.Proofs.YtclppfljengnbaaGreat
open Go.RowKit Go.Maps Go.Sort Go.Shelf

set_option maxRecDepth 100000 in
set_option maxHeartbeats 4000000 in
theorem short13 (o : OpL) (w : World) : Calls Tryz.prog 7 #[.agg #[.int .i64 o.kind, .int .i64 o.txn, nmV o.name, .int .i64 o.mode]] w fun e w' => e = .returned (.bool (decide (o.name.length ≤ 1000))) ∧ Below w.heap.size w w' := by
  have hB : Below w.heap.size w (w.alloc (.cells #[.int .i64 o.kind, .int .i64 o.txn, nmV o.name, .int .i64 o.mode] 33)) := (Below.refl _ _).alloc (Nat.le_refl _) _
  have hs : (⟨o.name.toArray⟩ : ByteArray).size = o.name.length := by simp [ByteArray.size]
  by_cases h : o.name.length ≤ 1000
  · have h1 : ((o.name.length : Nat) : Int) ≤ 1000 := by omega
    rw [show decide (o.name.length ≤ 1000) = true from by simp [h]]
    clear h
    go_enter Tryz.func7, Tryz.ntmps7
    go_wp2
    go_ret
    exact ⟨rfl, hB⟩
  · have h1 : ¬ (((o.name.length : Nat) : Int) ≤ 1000) := by omega
    rw [show decide (o.name.length ≤ 1000) = false from by simp [h]]
    clear h
    go_enter Tryz.func7, Tryz.ntmps7
    go_wp2
    go_ret
    exact ⟨rfl, hB⟩

theorem joinN_self {x : Nat} : joinN x x = x := by unfold joinN; split <;> omega
theorem joinN_left : ∀ x y : Fin 6, joinN x.val (joinN x.val y.val) = joinN x.val y.val := by decide
theorem joinN_l {x y : Nat} (hx : x < 6) (hy : y < 6) : joinN x (joinN x y) = joinN x y := joinN_left ⟨x, hx⟩ ⟨y, hy⟩
theorem joinN_tr : ∀ x y z : Fin 6, joinN x.val y.val = y.val → joinN y.val z.val = z.val → joinN x.val z.val = z.val := by decide
theorem joinN_trans {x y z : Nat} (hx : x < 6) (hy : y < 6) (hz : z < 6) (h1 : joinN x y = y) (h2 : joinN y z = z) : joinN x z = z := joinN_tr ⟨x, hx⟩ ⟨y, hy⟩ ⟨z, hz⟩ h1 h2

/-- What somebody has it keeps. -/
def Keeps (s s' : AS) : Prop := ∀ t n, joinN (s.H t n) (s'.H t n) = s'.H t n
def Low (s : AS) : Prop := (∀ t n, s.H t n < 6) ∧ ∀ n x, x ∈ s.R n → x.2 < 6
theorem ShiftA.keeps {n : Name} {s s' : AS} {l : List Gr} (h : ShiftA n s s' l) : Low s → Keeps s s' ∧ Low s' := by
  induction h with
  | stop _ => exact fun hl => ⟨fun _ _ => joinN_self, hl⟩
  | @step s s' t m r l e1 e2 _ ih =>
    intro hl
    have hm : m < 6 := hl.2 n (t, m) (by rw [e1]; simp)
    have hl2 : Low ((⟨s.H, upd s.R n r⟩ : AS).give t n m) := by
      refine ⟨fun t' n' => ?_, fun n' x hx => ?_⟩
      · show upd s.H t (upd (s.H t) n (joinN (s.H t n) m)) t' n' < 6
        by_cases e : t' = t
        · subst e
          rw [upd_same]
          by_cases e' : n' = n
          · subst e'; rw [upd_same]; exact joinN_lt _ _ (hl.1 _ _) hm
          · rw [upd_other _ _ e']; exact hl.1 _ _
        · rw [upd_other _ _ e]; exact hl.1 _ _
      · have hx : x ∈ upd s.R n r n' := hx
        by_cases e' : n' = n
        · subst e'; rw [upd_same] at hx; exact hl.2 n' x (by rw [e1]; simp [hx])
        · rw [upd_other _ _ e'] at hx; exact hl.2 n' x hx
    obtain ⟨h1, h2⟩ := ih hl2
    refine ⟨fun t' n' => ?_, h2⟩
    refine joinN_trans (hl.1 _ _) (hl2.1 t' n') (h2.1 _ _) ?_ (h1 t' n')
    show joinN (s.H t' n') (upd s.H t (upd (s.H t) n (joinN (s.H t n) m)) t' n') = upd s.H t (upd (s.H t) n (joinN (s.H t n) m)) t' n'
    by_cases e : t' = t
    · subst e
      rw [upd_same]
      by_cases e' : n' = n
      · subst e'; rw [upd_same]; exact joinN_l (hl.1 _ _) hm
      · rw [upd_other _ _ e']; exact joinN_self
    · rw [upd_other _ _ e]; exact joinN_self
theorem LetA.keeps {ns : List Name} {s s' : AS} {l : List Gr} (h : LetA ns s s' l) : Low s → Keeps s s' ∧ Low s' := by
  induction h with
  | nil => exact fun hl => ⟨fun _ _ => joinN_self, hl⟩
  | cons h1 _ ih =>
    intro hl
    obtain ⟨k1, l1⟩ := h1.keeps hl
    obtain ⟨k2, l2⟩ := ih l1
    exact ⟨fun t n => joinN_trans (hl.1 _ _) (l1.1 _ _) (l2.1 _ _) (k1 t n) (k2 t n), l2⟩
theorem Good.lowA {σ : Sg} {Q : Name → List Nat} {X : Name → Prop} {Y : Int → Prop} (G : Good σ Q X Y) : Low (absS σ Q) := by
  refine ⟨G.low, fun n x hx => ?_⟩
  obtain ⟨z, hz, rfl⟩ := List.mem_map.1 hx
  exact (G.node n z hz).m6

section
variable {KT KN : List Lit} {w : World} {σ : Sg} {Q : Name → List Nat}

/-- Ask, whatever is asked. -/
theorem ask_all {t : Int} {n : Name} {md : Int} (h : Mem KT KN w σ) (G : Good σ Q (fun _ => False) (fun _ => False)) (ht : (Lit.int .i64 t).wf = true) (hKT : Lit.int .i64 t ∈ KT) (hKN : Lit.string n ∈ KN) :
    Calls Tryz.prog 21 #[.pointer (some ⟨σ.T, 0, none⟩), .int .i64 t, .agg #[nmV n, .int .i64 md]] w fun e w' => ∃ g er, e = .returned (.tuple #[.bool g, .int .i64 er]) ∧ ∃ σ' Q', Mem KT KN w' σ' ∧ Step w σ w' σ' ∧ Good σ' Q' (fun _ => False) (fun _ => False) ∧ Keeps (absS σ Q) (absS σ' Q') ∧ ((er ≠ 0 ∧ g = false ∧ σ' = σ ∧ Q' = Q) ∨ (er = 0 ∧ ∃ m : Nat, md = m ∧ 1 ≤ m ∧ m < 6 ∧ σ.pw t = none ∧ AskR σ Q σ' Q' t n m g)) := by
  by_cases hbad : t < 1 ∨ n.length < 1 ∨ 16 < n.length ∨ md < 1 ∨ 5 < md
  · refine (ask_bad (some σ.T) w n md t (.inr hbad)).mono ?_
    rintro e w' ⟨rfl, hb⟩
    exact ⟨false, 1, rfl, σ, Q, h.below hb, Step.quiet hb, G, fun _ _ => joinN_self, .inl ⟨by omega, rfl, rfl, rfl⟩⟩
  · obtain ⟨m, rfl⟩ : ∃ m : Nat, md = m := ⟨md.toNat, by omega⟩
    cases hw : σ.pw t with
    | some z =>
      refine (ask_waits (n := n) (m := m) h G ht (by omega) (by omega) (by omega) (by omega) (by omega) (by rw [hw]; simp)).mono ?_
      rintro e w' ⟨rfl, hb⟩
      exact ⟨false, 10, rfl, σ, Q, h.below hb, Step.quiet hb, G, fun _ _ => joinN_self, .inl ⟨by omega, rfl, rfl, rfl⟩⟩
    | none =>
      refine (ask_ok (n := n) (m := m) h G ht (by omega) hKT (by omega) (by omega) hKN (by omega) (by omega) hw).mono ?_
      rintro e w' ⟨g, rfl, σ', Q', h1, h2, h3, h4⟩
      refine ⟨g, 0, rfl, σ', Q', h1, h2, h3, fun s k => ?_, .inr ⟨rfl, m, rfl, by omega, by omega, rfl, h4⟩⟩
      show joinN (σ.ph s k) (σ'.ph s k) = σ'.ph s k
      cases g with
      | false => rw [(h4.no rfl).2.1]; exact joinN_self
      | true =>
        rw [(h4.yes rfl).2.2.1]
        by_cases e : s = t
        · subst e
          rw [upd_same]
          by_cases e' : k = n
          · subst e'; rw [upd_same]; exact joinN_l (G.low _ _) (by omega)
          · rw [upd_other _ _ e']; exact joinN_self
        · rw [upd_other _ _ e]; exact joinN_self
end

end Go.Proofs.YtclppfljengnbaaGreat
