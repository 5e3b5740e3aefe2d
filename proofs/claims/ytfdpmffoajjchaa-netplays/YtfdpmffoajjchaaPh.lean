/-
  NetPlays: one message sent on both sides; the boxes of a step.
-/
import Derived.Test.YtfdpmffoajjchaaPg
namespace Go.Proofs.Ytfdpmffoajjchaa
open Go.RowKit Go.Conc

/-- What a Send is answered. -/
def ecd (n : Nat) (R : Nat → List Nat) (f t : Int) : Int := match rix n f t with
  | none => 1
  | some k => if (R k).length < 256 then 0 else 7

/-- What the document's Send has left. -/
def RefP (w' : World) (B : Nat) (v v' : Value) (its : List It) (x : It) (e : Int) : Prop := (e ≠ 0 ∧ v' = v) ∨ (e = 0 ∧ w'.ownsRow B 82 11 v' (its.length + 1) (itsC (its ++ [x])))
theorem RefP.keep {w w' : World} {B : Nat} {v v' : Value} {its : List It} {x : It} {e : Int} (h : RefP w B v v' its x e) (hk : KeepC w w') : RefP w' B v v' its x e := by
  rcases h with h | ⟨h1, h2⟩
  · exact .inl h
  · exact .inr ⟨h1, own_keep h2 hk⟩

theorem refAny {w W : World} {s n : Nat} {R : Nat → List Nat} {MM : Nat → Ms} {PL : Nat → Pl} {v : Value} {its : List It} (h : Sim w W s n R MM PL v its) (f t : Int) (m : Ms) (p : Pl) :
    Calls Try.prog 30 #[refN n v, .int .i64 f, .int .i64 t, msV m p] W fun e w' => ∃ v', e = .returned (.tuple #[refN n v', .int .i64 (ecd n R f t)]) ∧ Below W.heap.size W w' ∧ RefP w' w.heap.size v v' its ⟨f, t, m, p⟩ (ecd n R f t) := by
  obtain ⟨a, c, rfl⟩ := ownsRow_shape h.row
  have hl := h.len_le
  have hlens := h.lens f t
  have hnil : a = none → its.length = 0 ∧ c = 0 := fun e => by
    rcases own_addr h.row with ⟨_, e1, e2⟩ | ⟨g, cur, e1, _⟩
    · exact ⟨e1, e2⟩
    · rw [e] at e1; simp at e1
  have hwz := h.bel.size
  unfold ecd
  cases hr : rix n f t with
  | none =>
    refine Calls.mono (refSend_no n a c its f t m p W hr) ?_
    rintro e w' ⟨rfl, hB⟩
    exact ⟨_, rfl, hB, .inl ⟨show (1 : Int) ≠ 0 by decide, rfl⟩⟩
  | some k =>
    rw [hr] at hlens
    simp only [lenO] at hlens
    by_cases hk : (R k).length < 256
    · simp only [if_pos hk]
      refine Calls.mono (refSend_yes n a c its f t m p W (own_rd h.row) (by omega) hnil k hr (by omega)) ?_
      rintro e w' ⟨v', rfl, hv, hB⟩
      exact ⟨v', rfl, hB, .inr ⟨rfl, row_low hv hwz⟩⟩
    · simp only [if_neg hk]
      refine Calls.mono (refSend_full n a c its f t m p W (own_rd h.row) (by omega) k hr (by omega)) ?_
      rintro e w' ⟨rfl, hB⟩
      exact ⟨_, rfl, hB, .inl ⟨by decide, rfl⟩⟩

theorem sendAny {w W W3 : World} {s n : Nat} {R : Nat → List Nat} {MM : Nat → Ms} {PL : Nat → Pl} {v v' : Value} {its : List It} {C : Nat} (h : Sim w W s n R MM PL v its) (f t : Int) (m : Ms) (p1 p3 : Pl) (hL : Lim m) (hb3 : Below W.heap.size W W3)
    (hP : RefP W3 w.heap.size v v' its ⟨f, t, m, p3⟩ (ecd n R f t)) (ho3 : Own W3 C m p3) (hC : W.heap.size ≤ C) (hm : MI W3 m p1) (hfr : From W.heap.size p1) (htl : Till C p1) (htl3 : Till W3.heap.size p1) :
    Calls Try.prog 12 #[netP s n, .int .i64 f, .int .i64 t, msV m p1] W3 fun e w' => e = .returned (.int .i64 (ecd n R f t)) ∧ Tn s n W3 w' ∧ ∃ R' MM' PL' its', Sim w w' s n R' MM' PL' v' its' ∧ (∀ j, j < 2 * n → ∀ b, b ∈ R' j → Disj (PL' b) p1) ∧ (∀ x, x ∈ its' → Disj x.p p1) := by
  have hs3 := h.below hb3
  have hold : ∀ j, j < 2 * n → ∀ b, b ∈ R j → Disj (PL b) p1 := fun j hj b hb => disj_of (own_till (h.msg j hj b hb).2.1) hfr
  have holdi : ∀ x, x ∈ its → Disj x.p p1 := fun x hx => disj_of (own_till (h.ito x hx).1) hfr
  unfold ecd at hP ⊢
  cases hr : rix n f t with
  | none =>
    simp only [hr] at hP
    refine Calls.mono (send_none hs3.net f t hr m p1) ?_
    rintro e w' ⟨rfl, hB⟩
    rcases hP with ⟨_, rfl⟩ | ⟨e, _⟩
    · exact ⟨rfl, Tn.below hB, R, MM, PL, its, hs3.below hB, hold, holdi⟩
    · exact absurd e (by decide)
  | some k =>
    simp only [hr] at hP
    by_cases hk : (R k).length < 256
    · simp only [if_pos hk] at hP ⊢
      refine Calls.mono (send_room hs3.net f t hr hk m p1 hm hL) ?_
      rintro e w' ⟨rfl, b, p4, hN, hM, hO, hb, hT⟩
      rcases hP with ⟨e, _⟩ | ⟨_, hrow⟩
      · exact absurd rfl e
      · have hS := h.send hr hL hb3 hrow ho3 hC hN hM hO hb hT
        refine ⟨rfl, hT, _, _, _, _, hS, fun j hj c hc => ?_, fun x hx => ?_⟩
        · by_cases e : c = b
          · subst e
            rw [setM_same]
            exact (disj_of htl3 (own_from hO)).symm
          · rw [setM_other _ _ _ _ e]
            refine hold j hj c ?_
            by_cases ej : j = k
            · subst ej
              rw [upd_same] at hc
              rcases List.mem_append.1 hc with q | q
              · exact q
              · exact absurd (by simpa using q) e
            · rw [upd_other _ _ _ _ ej] at hc
              exact hc
        · rcases List.mem_append.1 hx with q | q
          · exact holdi x q
          · simp at q
            subst q
            exact (disj_of htl (own_from ho3)).symm
    · simp only [if_neg hk] at hP ⊢
      refine Calls.mono (send_full hs3.net f t hr (by have := h.net.len k (rix_lt hr); omega) m p1 hm hL) ?_
      rintro e w' ⟨rfl, hN, hT⟩
      rcases hP with ⟨_, rfl⟩ | ⟨e, _⟩
      · exact ⟨rfl, hT, R, MM, PL, its, hs3.same hN hT, hold, holdi⟩
      · exact absurd e (by decide)

/-- The boxes of a step: the document's net, the step, the answer. -/
structure BoxS (D : Nat × Array Value) (B : Nat) (W : World) (A O Z : Array Value) : Prop where
  h3 : W.heap[D.1]? = some (.cells D.2 45)
  hlt : D.1 < B
  h0 : W.heap[B]? = some (.cells A 45)
  h1 : W.heap[B + 1]? = some (.cells O 50)
  h2 : W.heap[B + 2]? = some (.cells Z 45)
theorem BoxS.keep {D : Nat × Array Value} {B : Nat} {W W' : World} {A O Z : Array Value} (h : BoxS D B W A O Z) (hk : KeepC W W') : BoxS D B W' A O Z := ⟨hk _ _ _ _ h.h3, h.hlt, hk _ _ _ _ h.h0, hk _ _ _ _ h.h1, hk _ _ _ _ h.h2⟩
theorem BoxS.spo {D : Nat × Array Value} {B C : Nat} {W W' : World} {A O Z : Array Value} {m : Ms} {q : Pl} (h : BoxS D B W A O Z) (hq : Own W C m q) (hs : Spo q W W') : BoxS D B W' A O Z :=
  ⟨hs.other hq h.h3 (by decide) (by decide), h.hlt, hs.other hq h.h0 (by decide) (by decide), hs.other hq h.h1 (by decide) (by decide), hs.other hq h.h2 (by decide) (by decide)⟩
theorem cell13 {w : World} {q : Nat} {x : Op1} {p : Pl} (h : w.heap[q]? = some (.cells (opA x p) 50)) :
    w.cell? ⟨q, 0, none⟩ = some (.int .i64 x.kind) ∧ w.cell? ⟨q, 1, none⟩ = some (.int .i64 x.frm) ∧ w.cell? ⟨q, 2, none⟩ = some (.int .i64 x.tow) ∧ w.cell? ⟨q, 3, none⟩ = some (.int .i64 x.n) ∧
    w.cell? ⟨q, 4, none⟩ = some (.int .i64 x.m.kind) ∧ w.cell? ⟨q, 5, none⟩ = some (.int .i64 x.m.txn) ∧ w.cell? ⟨q, 6, none⟩ = some (.int .i64 x.m.page) ∧ w.cell? ⟨q, 7, none⟩ = some (.int .i64 x.m.to) ∧ w.cell? ⟨q, 8, none⟩ = some (.bool x.m.fast) ∧ w.cell? ⟨q, 9, none⟩ = some (.int .u64 (x.m.lsn : Int)) ∧
    w.cell? ⟨q, 10, none⟩ = some (.slice p.wa x.m.wants.length p.wc) ∧ w.cell? ⟨q, 11, none⟩ = some (.slice p.pa x.m.pages.length p.pc) ∧ w.cell? ⟨q, 12, none⟩ = some (.string (txt x.m.body)) := by
  simp [World.cell?, h]

/-- A message with another number. -/
def num (m : Ms) (i : Int) : Ms := { m with txn := i }
theorem num_lim {m : Ms} (h : Lim m) (i : Int) : Lim (num m i) := h
theorem own_num {W : World} {B : Nat} {m : Ms} {p : Pl} (h : Own W B m p) (i : Int) : Own W B (num m i) p := ⟨h.ow, h.op⟩

end Go.Proofs.Ytfdpmffoajjchaa
