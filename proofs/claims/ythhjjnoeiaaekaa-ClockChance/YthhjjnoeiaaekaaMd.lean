/-
  Of no program: a frame that isn't used is told first; a page that is told is dropped and put again.
-/
import Derived.Test.YthhjjnoeiaaekaaMc
namespace Go.Proofs.Ythhjjnoeiaaekaa

theorem look_unused {n : Nat} : ∀ (k : Nat) (l : List Fr) (h j : Nat) (_ : l.length = n) (_ : h < n) (hj : j < l.length) (i : Nat) (l' : List Fr) (h' : Nat), ¬ 0 < l[j].pins → l[j].used = false → lookN n k l h = some (i, l', h') → dst n h i ≤ dst n h j ∧ (l.getD i default).used = false
  | 0, _, _, _, _, _, _, _, _, _, _, _, e => by simp [lookN] at e
  | k + 1, l, h, j, hl, hh, hj, i, l', h', hp, hu, e => by
    have hh' : h < l.length := by omega
    have hm := mod_next hh
    have hb : (h + 1) % n < n := Nat.mod_lt _ (by omega)
    by_cases ej : h = j
    · subst ej
      rw [lookN_told hh' hp hu] at e
      simp only [Option.some.injEq, Prod.mk.injEq] at e
      obtain ⟨rfl, rfl, rfl⟩ := e
      exact ⟨Nat.le_refl _, by rw [getD_at hh']; exact hu⟩
    · have hdj : dst n h j = dst n ((h + 1) % n) j + 1 := by
        rw [hm]; unfold dst; split <;> split <;> split <;> omega
      have hjn : dst n h j < n := by unfold dst; split <;> omega
      by_cases hp' : 0 < l[h].pins
      · rw [lookN_pin hh' hp'] at e
        have T := look_told k l _ hl hb i l' h' e
        obtain ⟨h1, h2⟩ := look_unused k l _ j hl hb hj i l' h' hp hu e
        refine ⟨?_, h2⟩
        have hTi := T.lt
        have : dst n h i ≤ dst n ((h + 1) % n) i + 1 := by
          rw [hm]; unfold dst; split <;> split <;> split <;> omega
        omega
      · cases hu' : l[h].used
        · rw [lookN_told hh' hp' hu'] at e
          simp only [Option.some.injEq, Prod.mk.injEq] at e
          obtain ⟨rfl, rfl, rfl⟩ := e
          exact ⟨by unfold dst; split <;> split <;> omega, by rw [getD_at hh']; exact hu'⟩
        · rw [lookN_used hh' hp' hu'] at e
          have eq : (l.set h ⟨l[h].page, false, l[h].pins⟩)[j]'(by simpa using hj) = l[j] := by rw [List.getElem_set_ne ej]
          have T := look_told k _ _ (by simpa using hl) hb i l' h' e
          obtain ⟨h1, h2⟩ := look_unused k _ _ j (by simpa using hl) hb (by simpa using hj) i l' h' (by rw [eq]; exact hp) (by rw [eq]; exact hu) e
          have hTi := T.lt
          have hne : h ≠ i := fun ei => by
            subst ei
            have : dst n ((h + 1) % n) h = n - 1 := by rw [hm]; unfold dst; split <;> split <;> omega
            omega
          have : dst n h i ≤ dst n ((h + 1) % n) i + 1 := by
            rw [hm]; unfold dst; split <;> split <;> split <;> omega
          refine ⟨by omega, ?_⟩
          rw [getD_at (by simp; omega), List.getElem_set_ne hne] at h2
          rw [getD_at (by omega)]
          exact h2

theorem fir_eq {r : Rg} (h : MayR r) {p : Int} {k : Nat} (hk : k < r.fr.length) (hp : r.fr[k].page = p) (hn : p ≠ -1) : firI r.fr p = (k : Int) :=
  firI_some hk hp fun j hj hjk => h.fir hk hp hn j hj (by omega)

/-- What Touch tells. -/
theorem touch_cases (r : Rg) (p : Int) : ((pinR r p 0 true).2 ≠ 0 ∧ atR r p = -1) ∨ ∃ k, ∃ hk : k < r.fr.length, MayR r ∧ knownB p = true ∧ r.fr[k].page = p ∧ pinR r p 0 true = (withR r k ⟨r.fr[k].page, true, r.fr[k].pins⟩, 0) := by
  rcases place_cases r p with ⟨hpl, hM⟩ | ⟨hpl, hM, hx⟩ | ⟨k, hk, hpl, hM, hkn, hf, hpg⟩
  · exact .inl ⟨by rw [pinR_err hpl (by decide)]; decide, atR_no hM⟩
  · refine .inl ⟨by rw [pinR_err hpl (by decide)]; decide, ?_⟩
    rcases hx with hx | hx
    · exact atR_un hx
    · cases hkn : knownB p
      · exact atR_un hkn
      · rw [atR_yes hM hkn]; exact hx
  · have hpn := mayF_pins (hM.up.may k hk hk)
    refine .inr ⟨k, hk, hM, hkn, hpg, ?_⟩
    rw [pinR_ok hpl hk (by omega)]
    simp

/-- A page that is told is dropped, is there no more, and is put again. -/
theorem told_again {r : Rg} {i : Nat} {l : List Fr} {h' : Nat} (hM : MayR r) (T : Told r.fr.length r.fr i l h') (hi : i < r.fr.length) (hp : 0 ≤ r.fr[i].page) :
    ∃ z, dropR ⟨l, (h' : Int)⟩ r.fr[i].page = (z, 0) ∧ MayR z ∧ atR z r.fr[i].page = -1 ∧ ∃ u, putR z r.fr[i].page = (u, 0) ∧ MayR u ∧ 0 ≤ atR u r.fr[i].page := by
  have hY := told_may hM T
  have hl := T.len
  have hil : i < l.length := by omega
  have e1 := T.page i hi
  have e2 := T.pins i hi
  have e3 := T.loose
  rw [getD_at hi, getD_at hil] at e1 e2
  rw [getD_at hi] at e3
  have hpn : r.fr[i].page ≠ -1 := by omega
  have hkn : knownB r.fr[i].page = true := by
    have := mayF_page (hM.up.may i hi hi)
    exact known_iff.2 (by omega)
  obtain ⟨p, hpd⟩ : ∃ p, r.fr[i].page = p := ⟨_, rfl⟩
  rw [hpd] at hp hpn hkn e1 ⊢
  have hfir := fir_eq hY (p := p) (k := i) hil (by simpa using e1) hpn
  have hpl : placeR ⟨l, (h' : Int)⟩ p = ((i : Int), 0) := by
    rw [placeR_yes hY (by rw [atR_yes hY hkn, hfir]; omega), atR_yes hY hkn, hfir]
  have hd := dropR_ok hpl (by simpa using hil) (by simp only; omega)
  have hzM : MayR (withR ⟨l, (h' : Int)⟩ i ⟨-1, false, 0⟩) := by
    have := drop_may (r := ⟨l, (h' : Int)⟩) (p := p) (by rw [hd])
    rw [hd] at this
    exact this
  have hzf : firI (withR ⟨l, (h' : Int)⟩ i ⟨-1, false, 0⟩).fr p = -1 := firI_none fun j hj => by
    simp only [withR, List.length_set] at hj
    simp only [withR, List.getElem_set]
    split
    · simp only; omega
    · rename_i hne
      exact hY.fir (p := p) (k := i) hil (by simpa using e1) hpn j hj (fun e => hne e.symm)
  refine ⟨_, hd, hzM, by rw [atR_yes hzM hkn]; exact hzf, ?_⟩
  rcases firI_cases (withR ⟨l, (h' : Int)⟩ i ⟨-1, false, 0⟩).fr (-1) with ⟨-, hno⟩ | ⟨j, hj, hf, hpj, -⟩
  · exact absurd (by simp [withR]) (hno i (by simpa [withR] using hil))
  · have hput := putR_ok (k := j) hzM hkn hzf hf
    have huM : MayR (withR (withR ⟨l, (h' : Int)⟩ i ⟨-1, false, 0⟩) j ⟨p, true, 0⟩) := by
      have := put_may (r := withR ⟨l, (h' : Int)⟩ i ⟨-1, false, 0⟩) (p := p) (by rw [hput])
      rw [hput] at this
      exact this
    refine ⟨_, hput, huM, ?_⟩
    rw [atR_yes huM hkn, fir_eq huM (p := p) (k := j) (by simpa [withR] using hj) (by simp [withR]) hpn]
    omega
end Go.Proofs.Ythhjjnoeiaaekaa
