/-
  Note, Open, Need: one contract each.
-/
import Derived.Test.YticadfaclnimgaaNd
import Derived.Test.YticadfaclnimgaaNe
import Derived.Test.YticadfaclnimgaaNf
namespace Go.Proofs.Yticadfaclnimgaa
open Go.RowKit Go.Maps

theorem upd_upd {α β : Type} (f : α → β) (k : α) (a b : β) : upd (upd f k a) k b = upd f k b := funext fun u => by
  by_cases e : u = k
  · rw [e, upd_same, upd_same]
  · rw [upd_other _ _ e, upd_other _ _ e, upd_other _ _ e]

/-- What a call leaves of a table whose transactions are told by f then. -/
def Left (w : World) (B T A : Nat) (K : List Lit) (M : Nat) (σ : Sg) (w' : World) (f : Int → Option Tn) : Prop := ∃ σ', Tb w' B T A K M σ' ∧ Step A w σ w' σ' ∧ σ'.f = f

section
variable {w : World} {B T A M : Nat} {K : List Lit} {σ : Sg} {t : Int} {x : Tn} {r : Rc} {ta : Option Addr} {tc : Nat} {da : Option Addr} {dc : Nat}

theorem Left.same (h : Tb w B T A K M σ) {w' : World} (hb : Below w.heap.size w w') {M' : Nat} (hM : M ≤ M') : Left w B T A K M' σ w' σ.f := ⟨σ, (h.below hb).mono hM, Step.quiet hb, rfl⟩

theorem note16 (h : Tb w B T A K M σ) (hM : M ≤ 1000000000) (hr : RI w r ta da) (ht : Wt r.txn) : Calls Try.prog 16 #[.pointer (some ⟨T, 0, none⟩), recV r ta tc da dc] w fun e w' => e = .returned (.int .i64 (noteE (σ.f r.txn) r)) ∧ Left w B T A K (M + 200) σ w' (noteF σ.f r) := by
  have bad : ∀ {z : Int}, z ≠ 0 → noteE (σ.f r.txn) r = z → Calls Try.prog 16 #[.pointer (some ⟨T, 0, none⟩), recV r ta tc da dc] w (fun e w' => e = .returned (.int .i64 z) ∧ Below w.heap.size w w') → Calls Try.prog 16 #[.pointer (some ⟨T, 0, none⟩), recV r ta tc da dc] w fun e w' => e = .returned (.int .i64 (noteE (σ.f r.txn) r)) ∧ Left w B T A K (M + 200) σ w' (noteF σ.f r) := fun hz he hc => by
    refine hc.mono ?_
    rintro e w' ⟨rfl, hb⟩
    rw [note_same (by rw [he]; exact hz), he]
    exact ⟨rfl, Left.same h hb (by omega)⟩
  cases hm : mayB r with
  | false => exact bad (by decide) (by unfold noteE; rw [if_neg (by rw [hm]; simp)]) (note_arg _ hr hm)
  | true =>
    have hki := may_kind_le hm
    by_cases h7 : r.kind < 7
    · cases hx : σ.f r.txn with
      | none => rw [← hx]; exact bad (z := 8) (by decide) (by unfold noteE; rw [if_pos ⟨hm, h7⟩, hx]) (note_none h hr ht hm h7 hx)
      | some x =>
        rw [← hx]
        by_cases hp : r.prev = x.last
        · cases hl : letsB x r with
          | false =>
            refine bad (z := 10) (by decide) (by unfold noteE; rw [if_pos ⟨hm, h7⟩, hx]; simp [hl]) ?_
            have h6 : r.kind = 1 ∨ r.kind = 2 ∨ r.kind = 3 ∨ r.kind = 4 ∨ r.kind = 5 ∨ r.kind = 6 := by omega
            rcases h6 with hk | hk | hk | hk | hk | hk
            · exact note_no1 h hM hr ht hm hk hx hp hl
            · exact note_no2 h hM hr ht hm hk hx hp hl
            · exact note_no3 h hM hr ht hm hk hx hp hl
            · exact note_no4 h hM hr ht hm hk hx hp hl
            · exact note_no5 h hM hr ht hm hk hx hp hl
            · exact note_no6 h hM hr ht hm hk hx hp hl
          | true =>
            have he : noteE (σ.f r.txn) r = 0 := by unfold noteE; rw [if_pos ⟨hm, h7⟩, hx]; simp [hl, hp]
            have h6 : r.kind = 5 ∨ (r.kind ≠ 5 ∧ (r.kind = 1 ∨ r.kind = 2 ∨ r.kind = 3 ∨ r.kind = 4 ∨ r.kind = 6)) := by omega
            rcases h6 with hk | ⟨h5, h6⟩
            · refine (note_yes5 h hM hr ht hm hk hx hp hl).mono ?_
              rintro e w' ⟨rfl, h1, h2⟩
              refine ⟨by rw [he], _, h1, h2, ?_⟩
              show upd (upd σ.f r.txn _) r.txn none = _
              rw [upd_upd]
              unfold noteF
              rw [if_pos he, if_pos hk]
            · have fin : (σ.put r.txn (notedX x r) (σ.b r.txn) (σ.v r.txn)).f = noteF σ.f r := by
                show upd σ.f r.txn _ = _
                unfold noteF
                rw [if_pos he, if_neg h5, hx]
                rfl
              rcases h6 with hk | hk | hk | hk | hk
              · exact (note_yes1 h hM hr ht hm hk hx hp hl).mono (by rintro e w' ⟨rfl, h1, h2⟩; exact ⟨by rw [he], _, h1, h2, fin⟩)
              · exact (note_yes2 h hM hr ht hm hk hx hp hl).mono (by rintro e w' ⟨rfl, h1, h2⟩; exact ⟨by rw [he], _, h1, h2, fin⟩)
              · exact (note_yes3 h hM hr ht hm hk hx hp hl).mono (by rintro e w' ⟨rfl, h1, h2⟩; exact ⟨by rw [he], _, h1, h2, fin⟩)
              · exact (note_yes4 h hM hr ht hm hk hx hp hl).mono (by rintro e w' ⟨rfl, h1, h2⟩; exact ⟨by rw [he], _, h1, h2, fin⟩)
              · exact (note_yes6 h hM hr ht hm hk hx hp hl).mono (by rintro e w' ⟨rfl, h1, h2⟩; exact ⟨by rw [he], _, h1, h2, fin⟩)
        · exact bad (z := 10) (by decide) (by unfold noteE; rw [if_pos ⟨hm, h7⟩, hx]; simp [hp]) (note_prev h hr ht hm h7 hx hp)
    · exact bad (by decide) (by unfold noteE; rw [if_neg (by intro hc; exact h7 hc.2)]) (note_kind _ hr hm (by omega))

/-- Open. -/
def openE (o : Option Tn) (t : Int) : Int := if 1 ≤ t ∧ t ≤ 1073741824 then (if o.isSome = true then 9 else 0) else 1
noncomputable def openF (f : Int → Option Tn) (t : Int) : Int → Option Tn := if openE (f t) t = 0 then upd f t (some tn0) else f
set_option maxRecDepth 100000 in
set_option maxHeartbeats 4000000 in
theorem open_ok (h : Tb w B T A K M σ) (h1 : 1 ≤ t) (h2 : t ≤ 1073741824) (hx : σ.f t = none) (hin : (Lit.int .i64 t) ∈ K) : Calls Try.prog 11 #[.pointer (some ⟨T, 0, none⟩), .int .i64 t] w fun e w' => e = .returned (.int .i64 0) ∧ Tb w' B T A K M (σ.put t tn0 w.heap.size (.slice none 0 0)) ∧ Step A w σ w' (σ.put t tn0 w.heap.size (.slice none 0 0)) := by
  have ht : Wt t := wt_of (by omega) (by omega)
  have hl := h.look ht
  rw [hx] at hl
  simp only [Option.map_none, ptr_none] at hl
  have hT := h.cellT
  have hkl := h.kl
  have hT2 := (h.below ((Below.refl w.heap.size w).alloc (Nat.le_refl _) (.cells (txC tn0 (.slice none 0 0)) 74))).cellT
  obtain ⟨w9, hs1, hs2, hs3⟩ := (h.below ((Below.refl w.heap.size w).alloc (Nat.le_refl _) (.cells (txC tn0 (.slice none 0 0)) 74))).map.store lawI Try.underlying69 (by unfold maxLen; omega) (keyI ht) hin (.pointer (some ⟨w.heap.size, 0, none⟩))
  have HQ := toHid (h.open hx hs2 hs3)
  have g1 : ¬ t < 1 := by omega
  have g2 : ¬ 1073741824 < t := by omega
  clear h hx hs2 hs3
  have hs : (Instr.mapUpdate 69 (.map (some A)) (.int .i64 t) (.pointer (some ⟨w.heap.size, 0, none⟩))).run Try.prog (w.alloc (.cells #[.int .i64 0, .int .u64 0, .int .u64 0, .int .i64 0, .slice none 0 0] 74)) = .ok () w9 := hs1
  clear hs1 hT2
  go_enter Try.func11, Try.ntmps11
  go_wp2
  go_ret
  exact ⟨rfl, HQ.out⟩
theorem open11 (h : Tb w B T A K M σ) (hin : 1 ≤ t → t ≤ 1073741824 → (Lit.int .i64 t) ∈ K) : Calls Try.prog 11 #[.pointer (some ⟨T, 0, none⟩), .int .i64 t] w fun e w' => e = .returned (.int .i64 (openE (σ.f t) t)) ∧ Left w B T A K M σ w' (openF σ.f t) := by
  by_cases hr : 1 ≤ t ∧ t ≤ 1073741824
  · cases hx : σ.f t with
    | none =>
      refine (open_ok h hr.1 hr.2 hx (hin hr.1 hr.2)).mono ?_
      rintro e w' ⟨rfl, h1, h2⟩
      have he : openE none t = 0 := by unfold openE; rw [if_pos hr]; rfl
      refine ⟨by rw [he], _, h1, h2, ?_⟩
      unfold openF
      rw [hx, if_pos he]
      rfl
    | some x =>
      refine (open_twice h hr.1 hr.2 hx).mono ?_
      rintro e w' ⟨rfl, rfl⟩
      have he : openE (some x) t = 9 := by unfold openE; rw [if_pos hr]; rfl
      refine ⟨by rw [he], ?_⟩
      unfold openF
      rw [hx, if_neg (by rw [he]; decide)]
      exact Left.same h (Below.refl _ _) (Nat.le_refl _)
  · refine (open_arg T w (t := t) (by omega)).mono ?_
    rintro e w' ⟨rfl, rfl⟩
    have he : openE (σ.f t) t = 1 := by unfold openE; rw [if_neg hr]
    refine ⟨by rw [he], ?_⟩
    unfold openF
    rw [if_neg (by rw [he]; decide)]
    exact Left.same h (Below.refl _ _) (Nat.le_refl _)
end
end Go.Proofs.Yticadfaclnimgaa
