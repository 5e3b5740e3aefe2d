/-
  GraphTexts: a graph of numbers, and the same of their texts.
-/
import Derived.Test.YtoihjkpjijncdaaTn
import Derived.Test.YtoihjkpjijncdaaRdT
namespace Go.Proofs.Ytoihjkpjijncdaa
open Go.RowKit Go.Maps

def phL : Lit → Lit
  | .int _ n => .string (nmL n.toNat)
  | x => x
def InR (x : Lit) : Prop := ∃ n : Nat, n ≤ 99 ∧ x = .int .i64 (n : Int)
theorem phL_int (n : Nat) : phL (.int .i64 (n : Int)) = .string (nmL n) := by simp [phL]
theorem phL_inj {x y : Lit} (hx : InR x) (hy : InR y) (h : phL x = phL y) : x = y := by
  obtain ⟨n, hn, rfl⟩ := hx
  obtain ⟨m, hm, rfl⟩ := hy
  rw [phL_int, phL_int] at h
  injection h with h
  rw [nm_inj hn hm h]
def phE (e : Lit × Lit) : Lit × Lit := (phL e.1, phL e.2)
def GoodE (E : List (Lit × Lit)) : Prop := ∀ e, e ∈ E → InR e.1 ∧ InR e.2
theorem mem_ph {E : List (Lit × Lit)} (hE : GoodE E) {x y : Lit} (hx : InR x) (hy : InR y) : (phL x, phL y) ∈ E.map phE ↔ (x, y) ∈ E := by
  constructor
  · intro h
    obtain ⟨e, he, h1⟩ := List.mem_map.1 h
    obtain ⟨g1, g2⟩ := hE e he
    have e1 := phL_inj g1 hx (congrArg Prod.fst h1)
    have e2 := phL_inj g2 hy (congrArg Prod.snd h1)
    rw [← e1, ← e2]
    exact he
  · intro h
    exact List.mem_map.2 ⟨(x, y), h, rfl⟩
theorem addE_ph {E : List (Lit × Lit)} (hE : GoodE E) {x y : Lit} (hx : InR x) (hy : InR y) : addE (E.map phE) (phL x, phL y) = (addE E (x, y)).map phE := by
  unfold addE
  by_cases h : (x, y) ∈ E
  · rw [if_pos h, if_pos ((mem_ph hE hx hy).2 h)]
  · rw [if_neg h, if_neg (fun h1 => h ((mem_ph hE hx hy).1 h1))]
    simp [phE]
theorem GoodE.add {E : List (Lit × Lit)} (hE : GoodE E) {x y : Lit} (hx : InR x) (hy : InR y) : GoodE (addE E (x, y)) := fun e he => by
  rcases mem_addE.1 he with h | h
  · exact hE e h
  · rw [h]; exact ⟨hx, hy⟩
theorem lds_ph {E : List (Lit × Lit)} {a b : Lit} (h : Lds (outE E) a b) : Lds (outE (E.map phE)) (phL a) (phL b) := by
  have hm : ∀ x y, outE E x y = true → outE (E.map phE) (phL x) (phL y) = true := fun x y e => by
    simp only [outE, decide_eq_true_iff] at *
    exact List.mem_map.2 ⟨(x, y), e, rfl⟩
  induction h with
  | one e => exact .one (hm _ _ e)
  | more _ e ih => exact .more ih (hm _ _ e)
theorem lds_ph' {E : List (Lit × Lit)} (hE : GoodE E) {a y : Lit} (ha : InR a) (h : Lds (outE (E.map phE)) (phL a) y) : ∃ b, InR b ∧ y = phL b ∧ Lds (outE E) a b := by
  induction h with
  | one e =>
    simp only [outE, decide_eq_true_iff] at e
    obtain ⟨z, hz, h1⟩ := List.mem_map.1 e
    obtain ⟨g1, g2⟩ := hE z hz
    have e1 := phL_inj g1 ha (congrArg Prod.fst h1)
    refine ⟨z.2, g2, (congrArg Prod.snd h1).symm, .one ?_⟩
    simp only [outE, decide_eq_true_iff]
    rw [← e1]
    exact hz
  | more _ e ih =>
    obtain ⟨b, hb, rfl, hl⟩ := ih
    simp only [outE, decide_eq_true_iff] at e
    obtain ⟨z, hz, h1⟩ := List.mem_map.1 e
    obtain ⟨g1, g2⟩ := hE z hz
    have e1 := phL_inj g1 hb (congrArg Prod.fst h1)
    refine ⟨z.2, g2, (congrArg Prod.snd h1).symm, .more hl ?_⟩
    simp only [outE, decide_eq_true_iff]
    rw [← e1]
    exact hz

theorem rise_eqT : ∀ {l m : List (List UInt8)}, l.Pairwise (· < ·) → m.Pairwise (· < ·) → (∀ x, x ∈ l ↔ x ∈ m) → l = m
  | [], [], _, _, _ => rfl
  | [], b :: s, _, _, h => by have := (h b).2 (by simp); simp at this
  | a :: r, [], _, _, h => by have := (h a).1 (by simp); simp at this
  | a :: r, b :: s, h1, h2, h => by
    obtain ⟨a1, a2⟩ := List.pairwise_cons.1 h1
    obtain ⟨b1, b2⟩ := List.pairwise_cons.1 h2
    have hab : a = b := by
      rcases List.mem_cons.1 ((h a).1 (by simp)) with e | ha
      · exact e
      · rcases List.mem_cons.1 ((h b).2 (by simp)) with e | hb
        · exact e.symm
        · exact absurd (List.lt_trans (a1 b hb) (b1 a ha)) (List.lt_irrefl _)
    subst hab
    rw [rise_eqT a2 b2 (fun p => ⟨fun hp => by
      rcases List.mem_cons.1 ((h p).1 (by simp [hp])) with e | hp'
      · exact absurd (e ▸ a1 p hp) (List.lt_irrefl _)
      · exact hp', fun hp => by
      rcases List.mem_cons.1 ((h p).2 (by simp [hp])) with e | hp'
      · exact absurd (e ▸ b1 p hp) (List.lt_irrefl _)
      · exact hp'⟩)]
theorem rise_ofT {l : List (List UInt8)} (h : l.Pairwise (· ≤ ·)) (hn : l.Nodup) : l.Pairwise (· < ·) := by
  refine (h.and hn).imp ?_
  intro a b ⟨h1, h2⟩
  exact Std.lt_of_le_of_ne h1 h2

theorem ring_ph {E : List (Lit × Lit)} (hE : GoodE E) {a : Nat} (ha : a ≤ 99) {R : List Int} {Q : List (List UInt8)} (hR : IsRingI E (.int .i64 (a : Int)) R) (hQ : IsRingT (E.map phE) (.string (nmL a)) Q) : Q = R.map fun z => nmL z.toNat := by
  have hA : InR (.int .i64 (a : Int)) := ⟨a, ha, rfl⟩
  have hin : ∀ z, z ∈ R → ∃ n : Nat, n ≤ 99 ∧ z = (n : Int) := fun z hz => by
    obtain ⟨h1, _⟩ := (hR.mem z).1 hz
    obtain ⟨c, e⟩ : ∃ c, outE E c (liI z) = true := by
      cases h1 with
      | one e => exact ⟨_, e⟩
      | more _ e => exact ⟨_, e⟩
    simp only [outE, decide_eq_true_iff] at e
    obtain ⟨n, hn, h2⟩ := (hE _ e).2
    refine ⟨n, hn, ?_⟩
    simpa [liI] using h2
  refine rise_eqT (rise_ofT hQ.srt hQ.nd) ?_ fun x => ?_
  · rw [List.pairwise_map]
    refine hR.rise.imp_of_mem ?_
    intro u v hu hv huv
    obtain ⟨n, hn, rfl⟩ := hin u hu
    obtain ⟨m, hm, rfl⟩ := hin v hv
    exact nm_lt hm (by simpa using huv)
  · rw [hQ.mem, List.mem_map]
    constructor
    · rintro ⟨h1, h2⟩
      rw [← phL_int] at h1 h2
      obtain ⟨b, hb, e1, l1⟩ := lds_ph' hE hA h1
      obtain ⟨n, hn, rfl⟩ := hb
      rw [phL_int] at e1
      have e1 : x = nmL n := by simpa [liT] using e1
      subst e1
      have h3 : Lds (outE (E.map phE)) (phL (.int .i64 (n : Int))) (phL (.int .i64 (a : Int))) := by rw [phL_int n]; exact h2
      obtain ⟨c, hc, e2, l2⟩ := lds_ph' hE ⟨n, hn, rfl⟩ h3
      have e3 := phL_inj hc hA e2.symm
      rw [e3] at l2
      exact ⟨(n : Int), (hR.mem _).2 ⟨l1, l2⟩, by simp⟩
    · rintro ⟨z, hz, rfl⟩
      obtain ⟨n, hn, rfl⟩ := hin z hz
      obtain ⟨h1, h2⟩ := (hR.mem _).1 hz
      have g1 := lds_ph h1
      have g2 := lds_ph h2
      rw [show liI (n : Int) = Lit.int .i64 (n : Int) from rfl, phL_int, phL_int] at g1 g2
      exact ⟨by simpa [liT] using g1, by simpa [liT] using g2⟩

end Go.Proofs.Ytoihjkpjijncdaa
