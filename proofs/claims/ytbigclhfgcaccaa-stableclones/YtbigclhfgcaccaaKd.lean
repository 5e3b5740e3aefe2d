/-
  StableClones: what is told of devices, and the frame.
-/
import Derived.Test.YtbigclhfgcaccaaKc
import Derived.Test.YtbigclhfgcaccaaPa
namespace Go.Proofs.Ytbigclhfgcaccaa
open Go.RowKit

theorem wp8 {c : Code} {Q : Exit → Act → World → Prop} {A : Act} {w : World} (hs : A.tmps.size = 243) (hd : A.defers = []) (h : c.wp Try.prog Q (frame8 fun i => A.tmps.getD i undef) w) : c.wp Try.prog Q A w := by
  rw [frame8_lit A hs hd]; exact h
theorem k8 {K : Act → World → Prop} {A : Act} {w : World} (hs : A.tmps.size = 243) (hd : A.defers = []) (h : K (frame8 fun i => A.tmps.getD i undef) w) : K A w := by
  rw [frame8_lit A hs hd]; exact h
noncomputable def body8 : Code := (Try.f8.body).getD .skip
theorem below_8 {s : Nat} {W1 W W' : World} (h : Below (s + 1) W1 W) (hz : s + 1 ≤ W1.heap.size) (h' : Below W.heap.size W W') : Below (s + 1) W1 W' := h.trans (h'.mono (by have := h.size; omega))
theorem touch_8 {s p o : Nat} {W1 W W' : World} (h : Below (s + 1) W1 W) (hz : s + 1 ≤ W1.heap.size) (ht : Touch p o W W') (hp : s + 1 ≤ p) (ho : s + 1 ≤ o) : Below (s + 1) W1 W' := h.trans (ht.below hp ho (by have := h.size; omega))

theorem Dev.loose {w : World} {av : List Nat} {p G : Nat} {d : Dv} (h : Dev w av p G d) : Dev w [] p G d := by
  obtain ⟨us, h1, h2, h3⟩ := h.us
  refine ⟨h.good, h.buf, h.ne, by simp, by simp, us, h1, h2, fun i hi => ?_⟩
  rcases h3 i hi with e | ⟨q, a, m, e1, e2, e3⟩
  · exact .inl e
  · refine .inr ⟨q, a, m, e1, e2, ?_⟩
    obtain ⟨r, f1, f2, f3, f4⟩ := e3.out
    refine ⟨r, f1, f2, fun e => f3 ?_, fun e => f4 ?_⟩ <;> (simp at e ⊢; rcases e with e | e <;> simp [e])

/-- What a hand has under way, in the three numbers of Flying. -/
def fl8 (d : Dv) (h : Int) : Option (Nat × List UInt8) := if 0 ≤ h ∧ h < 8 then (d.u[h.toNat]?).getD none else none
def flA (d : Dv) (h : Int) : Int := match fl8 d h with | none => 0 | some (a, _) => (a : Int)
def flN (d : Dv) (h : Int) : Int := match fl8 d h with | none => 0 | some (_, m) => (m.length : Int)
def flO (d : Dv) (h : Int) : Bool := (fl8 d h).isSome
theorem fly8 (p G : Nat) (h : Int) (d : Dv) (av : List Nat) (w : World) (hd : Dev w av p G d) :
    Calls Try.prog 13 #[.pointer (some ⟨p, 0, none⟩), .int .i64 h] w fun e w' => e = .returned (.tuple #[.int .i64 (flA d h), .int .i64 (flN d h), .bool (flO d h)]) ∧ Below w.heap.size w w' := by
  have e : ∀ x, fl8 d h = x → flyV x = .tuple #[.int .i64 (flA d h), .int .i64 (flN d h), .bool (flO d h)] := fun x hx => by
    unfold flA flN flO
    rw [hx]
    rcases x with _ | ⟨a, m⟩ <;> rfl
  by_cases hh : 0 ≤ h ∧ h < 8
  · have hl : h.toNat < d.u.length := by rw [hd.good.hands]; omega
    have hx : d.u[h.toNat]? = some (fl8 d h) := by unfold fl8; rw [if_pos hh, List.getElem?_eq_getElem hl]; rfl
    have := flying_any p G h.toNat d av w hd (by omega) _ hx
    rw [e _ rfl, show ((h.toNat : Nat) : Int) = h by omega] at this
    exact this
  · have hx : fl8 d h = none := by unfold fl8; rw [if_neg hh]
    refine (flying_no p G h d av w hd hh).mono ?_
    rintro e' w' ⟨rfl, rfl⟩
    exact ⟨by rw [e _ hx], Below.refl _ _⟩
theorem fl_start {d : Dv} {h : Int} (e : flO d h = true) (a : Int) (l : List UInt8) : ¬ startE d h a l = 0 := by
  intro hs
  obtain ⟨h1, _, h3, _⟩ := start_ok6 hs
  unfold flO fl8 at e
  rw [if_pos h1, h3] at e
  simp at e
/-- A write that is begun and ended stands where it was laid. -/
theorem start_read {d : Dv} (hg : GoodD d) {h a : Int} {l : List UInt8} (hl : l.length ≤ 3000) (e : startE d h a l = 0) : finE (startD d h a l) h = 0 ∧ (0 ≤ a ∧ a.toNat + l.length ≤ (finD (startD d h a l) h 1024).b.length) ∧ ((finD (startD d h a l) h 1024).b.drop a.toNat).take l.length = l := by
  obtain ⟨a1, a2, a3, a4⟩ := start_ok6 e
  obtain ⟨f1, f2⟩ := start_fin (k := 1024) hg e
  have el : l.take (64 * (1024 : Int).toNat) = l := List.take_of_length_le (by omega)
  rw [el] at f2
  have hle : a.toNat + l.length ≤ d.b.length := by omega
  refine ⟨f1, ⟨a2.1, ?_⟩, ?_⟩
  · rw [f2, over_length _ _ _ hle]; exact hle
  · rw [f2]
    unfold over
    rw [List.drop_left' (by simp; omega), List.take_left' rfl]

end Go.Proofs.Ytbigclhfgcaccaa
