/-
  Of no program: who asks again and again: behind one round none is used, and then each is told in its turn.
-/
import Derived.Test.YthhjjnoeiaaekaaMb
namespace Go.Proofs.Ythhjjnoeiaaekaa

/-- How far a place lies behind the hand. -/
def bck (n h j : Nat) : Nat := if j < h then h - 1 - j else h + n - 1 - j
/-- Of so many places behind the hand none is used, unless it is pinned. -/
def Swept (n : Nat) (l : List Fr) (h t : Nat) : Prop := ∀ j (hj : j < l.length), bck n h j < t → ¬ 0 < l[j].pins → l[j].used = false
theorem Swept.zero (n : Nat) (l : List Fr) (h : Nat) : Swept n l h 0 := fun _ _ hb => absurd hb (by omega)
theorem Swept.mono {n : Nat} {l : List Fr} {h t t' : Nat} (H : Swept n l h t) (ht : t' ≤ t) : Swept n l h t' := fun j hj hb => H j hj (by omega)
theorem bck_next {n h j : Nat} (hh : h < n) (hj : j < n) (hne : j ≠ h) : bck n ((h + 1) % n) j = bck n h j + 1 := by
  rw [mod_next hh]
  unfold bck
  split <;> split <;> split <;> omega
theorem look_swept {n : Nat} : ∀ (k : Nat) (l : List Fr) (h t : Nat) (_ : l.length = n) (_ : h < n) (i : Nat) (l' : List Fr) (h' : Nat), Swept n l h t → lookN n k l h = some (i, l', h') → Swept n l' h' (t + 1)
  | 0, _, _, _, _, _, _, _, _, _, e => by simp [lookN] at e
  | k + 1, l, h, t, hl, hh, i, l', h', H, e => by
    have hh' : h < l.length := by omega
    have hb : (h + 1) % n < n := Nat.mod_lt _ (by omega)
    by_cases hp : 0 < l[h].pins
    · rw [lookN_pin hh' hp] at e
      refine (look_swept k l _ (t + 1) hl hb i l' h' (fun j hj hbj hpj => ?_) e).mono (by omega)
      by_cases ej : j = h
      · subst ej; exact absurd hp hpj
      · exact H j hj (by rw [bck_next hh (by omega) ej] at hbj; omega) hpj
    · cases hu : l[h].used
      · rw [lookN_told hh' hp hu] at e
        simp only [Option.some.injEq, Prod.mk.injEq] at e
        obtain ⟨rfl, rfl, rfl⟩ := e
        intro j hj hbj hpj
        by_cases ej : j = h
        · subst ej; exact hu
        · exact H j hj (by rw [bck_next hh (by omega) ej] at hbj; omega) hpj
      · rw [lookN_used hh' hp hu] at e
        refine (look_swept k _ _ (t + 1) (by simpa using hl) hb i l' h' (fun j hj hbj hpj => ?_) e).mono (by omega)
        simp only [List.length_set] at hj
        rw [List.getElem_set] at hpj ⊢
        by_cases ej : h = j
        · rw [if_pos ej]
        · rw [if_neg ej] at hpj ⊢
          exact H j hj (by rw [bck_next hh (by omega) (fun e => ej e.symm)] at hbj; omega) hpj

def Clean (l : List Fr) : Prop := ∀ j (hj : j < l.length), ¬ 0 < l[j].pins → l[j].used = false
theorem Swept.clean {n : Nat} {l : List Fr} {h t : Nat} (H : Swept n l h t) (hl : l.length = n) (hh : h < n) (ht : n ≤ t) : Clean l := fun j hj hp => H j hj (by unfold bck; split <;> omega) hp

/-- The place so far ahead of a hand. -/
def posn (n h t : Nat) : Nat := if h + t < n then h + t else h + t - n
theorem posn_lt {n h t : Nat} (hh : h < n) (ht : t < n) : posn n h t < n := by unfold posn; split <;> omega
theorem posn_next {n h t : Nat} (hh : h < n) (ht : t < n) : (posn n h t + 1) % n = posn n h (t + 1) := by
  rw [mod_next (posn_lt hh ht)]
  unfold posn
  split <;> split <;> split <;> omega
theorem posn_inj {n h t u : Nat} (_ : h < n) (ht : t < n) (hu : u < n) (e : posn n h t = posn n h u) : t = u := by
  unfold posn at e
  split at e <;> split at e <;> omega

/-- How many of the next places aren't pinned. -/
def cntP (n h : Nat) (l : List Fr) : Nat → Nat
  | 0 => 0
  | t + 1 => cntP n h l t + if (l.getD (posn n h t) default).pins = 0 then 1 else 0
theorem cnt_low {n h : Nat} {l : List Fr} (hl : l.length = n) (hh : h < n) : ∀ t, t ≤ n - h → cntP n h l t = looseN ((l.drop h).take t)
  | 0, _ => by simp [cntP, looseN]
  | t + 1, ht => by
    have ih := cnt_low hl hh t (by omega)
    have hk : t < (l.drop h).length := by simp; omega
    rw [looseN_snoc _ _ hk, ← ih]
    have hp : posn n h t = h + t := by unfold posn; rw [if_pos (by omega)]
    simp only [cntP, hp]
    rw [getD_at (by omega), List.getElem_drop]
theorem cnt_high {n h : Nat} {l : List Fr} (hl : l.length = n) (hh : h < n) : ∀ s, s ≤ h → cntP n h l (n - h + s) = looseN (l.drop h) + looseN (l.take s)
  | 0, _ => by
    rw [Nat.add_zero, cnt_low hl hh (n - h) (Nat.le_refl _), List.take_of_length_le (by simp; omega)]
    simp [looseN]
  | s + 1, hs => by
    have ih := cnt_high hl hh s (by omega)
    rw [looseN_snoc l s (by omega), ← Nat.add_assoc, ← Nat.add_assoc]
    simp only [cntP]
    rw [ih]
    have hp : posn n h (n - h + s) = s := by unfold posn; rw [if_neg (by omega)]; omega
    rw [hp, getD_at (by omega)]
theorem cnt_all {n h : Nat} {l : List Fr} (hl : l.length = n) (hh : h < n) : cntP n h l n = looseN l := by
  have := cnt_high hl hh h (Nat.le_refl _)
  rw [show n - h + h = n by omega] at this
  rw [this]
  unfold looseN
  rw [Nat.add_comm, ← List.countP_append, List.take_append_drop]
theorem look_clean {n h : Nat} {l : List Fr} (hl : l.length = n) (hh : h < n) (hc : Clean l) (hp0 : ∀ j (hj : j < l.length), 0 ≤ l[j].pins) :
    ∀ (d T k : Nat), T + d = n → cntP n h l T < cntP n h l n → d ≤ k → ∃ t, T ≤ t ∧ t < n ∧ lookN n k l (posn n h T) = some (posn n h t, l, posn n h (t + 1)) ∧ cntP n h l (t + 1) = cntP n h l T + 1
  | 0, T, _, hT, hlt, _ => by
    obtain rfl : T = n := by omega
    omega
  | d + 1, T, 0, _, _, hk => absurd hk (by omega)
  | d + 1, T, k + 1, hT, hlt, hk => by
    have hpl := posn_lt hh (show T < n by omega)
    have hpl' : posn n h T < l.length := by omega
    have hpn := posn_next hh (show T < n by omega)
    by_cases hp : 0 < l[posn n h T].pins
    · rw [lookN_pin hpl' hp, hpn]
      have hcT : cntP n h l (T + 1) = cntP n h l T := by
        simp only [cntP]
        rw [getD_at hpl', if_neg (by omega)]
        rfl
      obtain ⟨t, h1, h2, h3, h4⟩ := look_clean hl hh hc hp0 d (T + 1) k (by omega) (by rw [hcT]; exact hlt) (by omega)
      exact ⟨t, by omega, h2, h3, by rw [h4, hcT]⟩
    · have hz := hp0 (posn n h T) hpl'
      refine ⟨T, Nat.le_refl _, by omega, ?_, ?_⟩
      · rw [lookN_told hpl' hp (hc _ hpl' hp), hpn]
      · simp only [cntP]
        rw [getD_at hpl', if_pos (by omega)]
end Go.Proofs.Ythhjjnoeiaaekaa
