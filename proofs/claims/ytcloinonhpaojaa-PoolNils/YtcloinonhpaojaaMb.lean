/-
  Of no program: what rings that may be become.
-/
import Derived.Test.YtcloinonhpaojaaFj
namespace Go.Proofs.Ytcloinonhpaojaa.Ck

theorem MayR.set {r : Rg} (h : MayR r) (k : Nat) (f : Fr) (hf : mayF f = true) (hp : f.page = -1 ∨ ∀ j (hj : j < r.fr.length), j ≠ k → r.fr[j].page ≠ f.page) : MayR (withR r k f) := by
  refine ⟨by simpa [withR] using h.one, by simpa [withR] using h.most, h.h0, by simpa [withR] using h.h1, ⟨fun j hj _ => ?_, fun i j hi hj hij _ hne => ?_⟩⟩
  · simp only [withR, List.length_set] at hj
    simp only [withR, List.getElem_set]
    split
    · exact hf
    · exact h.up.may j hj hj
  · simp only [withR, List.length_set] at hi hj
    simp only [withR, List.getElem_set] at hne ⊢
    by_cases e1 : k = i
    · rw [if_pos e1, if_neg (by omega)]
      rw [if_neg (by omega)] at hne
      rcases hp with hp | hp
      · rw [hp]; exact fun e => hne e.symm
      · exact fun e => hp j hj (by omega) e.symm
    · rw [if_neg e1]
      by_cases e2 : k = j
      · rw [if_pos e2] at hne ⊢
        rcases hp with hp | hp
        · exact absurd hp hne
        · exact hp i hi (by omega)
      · rw [if_neg e2] at hne ⊢
        exact h.up.apart i j hi hj hij hj hne

theorem MayR.fir {r : Rg} (h : MayR r) {p : Int} {k : Nat} (hk : k < r.fr.length) (hp : r.fr[k].page = p) (hn : p ≠ -1) : ∀ j (hj : j < r.fr.length), j ≠ k → r.fr[j].page ≠ p := by
  intro j hj hjk e
  rcases Nat.lt_or_gt_of_ne hjk with hlt | hlt
  · exact h.up.apart j k hj hk hlt hk (by rw [hp]; exact hn) (by rw [e, hp])
  · exact h.up.apart k j hk hj hlt hj (by rw [e]; exact hn) (by rw [e, hp])

theorem known_iff {p : Int} : knownB p = true ↔ 0 ≤ p ∧ p < 16 := by simp [knownB]

theorem put_may {r : Rg} {p : Int} (h : (putR r p).2 = 0) : MayR (putR r p).1 := by
  by_cases hM : MayR r ∧ knownB p = true
  · obtain ⟨hM, hk⟩ := hM
    have hk' := known_iff.1 hk
    rcases firI_cases r.fr p with ⟨hf, hfn⟩ | ⟨j, hj, hf, -⟩
    · rcases firI_cases r.fr (-1) with ⟨hg, -⟩ | ⟨j, hj, hg, -⟩
      · rw [putR_busy hM hk hf hg] at h
        simp at h
      · rw [putR_ok hM hk hf hg]
        refine hM.set j _ ?_ (.inr fun i hi _ => hfn i hi)
        unfold mayF
        simp only
        rw [if_neg (by omega), hk]
        simp
    · rw [putR_twice hM hk (by rw [hf]; omega)] at h
      simp at h
  · rw [putR_arg hM] at h
    simp at h
theorem drop_may {r : Rg} {p : Int} (h : (dropR r p).2 = 0) : MayR (dropR r p).1 := by
  rcases place_cases r p with ⟨hpl, -⟩ | ⟨hpl, -, -⟩ | ⟨k, hk, hpl, hM, hkn, hf, hpg⟩
  · rw [dropR_err hpl (by decide)] at h; simp at h
  · rw [dropR_err hpl (by decide)] at h; simp at h
  · by_cases hp : 0 < r.fr[k].pins
    · rw [dropR_pin hpl hk hp] at h; simp at h
    · rw [dropR_ok hpl hk hp]
      exact hM.set k _ (by decide) (.inl rfl)
theorem pin_may {r : Rg} {p n : Int} {t : Bool} (h : (pinR r p n t).2 = 0) : MayR (pinR r p n t).1 := by
  rcases place_cases r p with ⟨hpl, -⟩ | ⟨hpl, -, -⟩ | ⟨k, hk, hpl, hM, hkn, hf, hpg⟩
  · rw [pinR_err hpl (by decide)] at h; simp at h
  · rw [pinR_err hpl (by decide)] at h; simp at h
  · have hk' := known_iff.1 hkn
    by_cases hp : n < -r.fr[k].pins ∨ 1048576 - r.fr[k].pins < n
    · rw [pinR_state hpl hk hp] at h; simp at h
    · rw [pinR_ok hpl hk hp]
      refine hM.set k _ ?_ (.inr fun j hj hjk => ?_)
      · unfold mayF
        simp only
        rw [if_neg (by omega), hpg, hkn]
        simp
        omega
      · simp only
        rw [hpg]
        exact hM.fir hk hpg (by omega) j hj hjk
theorem told_may {r : Rg} {i : Nat} {l : List Fr} {h' : Nat} (hM : MayR r) (T : Told r.fr.length r.fr i l h') : MayR ⟨l, (h' : Int)⟩ := by
  have h1 := hM.one
  have hl := T.len
  have hlt : h' < r.fr.length := by rw [T.hand]; exact Nat.mod_lt _ (by omega)
  refine ⟨by simp only; omega, by have := hM.most; simp only; omega, by simp only; omega, by simp only; omega, ⟨fun j hj _ => ?_, fun a b ha hb hab _ hne => ?_⟩⟩
  · simp only at hj ⊢
    have hj' : j < r.fr.length := by omega
    have e1 := T.page j hj'
    have e2 := T.pins j hj'
    have e3 := T.used j hj'
    rw [getD_at hj, getD_at hj'] at e1 e2 e3
    have hm := hM.up.may j hj' hj'
    by_cases hp : l[j].page = -1
    · have h2 := mayF_none hm (by rw [← e1]; exact hp)
      have h3 : l[j].used = false := by
        cases h : l[j].used
        · rfl
        · have := e3 h; rw [h2.1] at this; simp at this
      simp [mayF, hp, h3, e2, h2.2]
    · have h2 := mayF_some hm (by rw [← e1]; exact hp)
      have hk : knownB l[j].page = true := known_iff.2 (by omega)
      simp only [mayF, if_neg hp, hk, e2]
      simp
      omega
  · simp only at ha hb hne ⊢
    have ha' : a < r.fr.length := by omega
    have hb' : b < r.fr.length := by omega
    have e1 := T.page a ha'
    have e2 := T.page b hb'
    rw [getD_at ha, getD_at ha'] at e1
    rw [getD_at hb, getD_at hb'] at e2
    rw [e1, e2]
    rw [e2] at hne
    exact hM.up.apart a b ha' hb' hab hb' hne
theorem next_cases (r : Rg) : (nextR r = (0, .zero, 1) ∧ ¬ MayR r) ∨ (nextR r = (0, .zero, 15) ∧ MayR r ∧ (∀ j (hj : j < r.fr.length), 0 < r.fr[j].pins)) ∨ ∃ (i : Nat) (l : List Fr) (h' : Nat), nextR r = ((i : Int), ⟨l, (h' : Int)⟩, 0) ∧ MayR r ∧ Told r.fr.length r.fr i l h' ∧ lookN r.fr.length (2 * r.fr.length) r.fr r.hand.toNat = some (i, l, h') := by
  by_cases hM : MayR r
  · right
    have h0 := hM.h0
    have h1 := hM.h1
    cases hn : lookN r.fr.length (2 * r.fr.length) r.fr r.hand.toNat with
    | none =>
      refine .inl ⟨nextR_busy hM hn, hM, fun j hj => ?_⟩
      refine Classical.byContradiction fun hp => ?_
      obtain ⟨x, hx⟩ := look_some (2 * r.fr.length) r.fr r.hand.toNat j rfl (by omega) hj hp (by unfold dst; split <;> omega)
      rw [hn] at hx
      simp at hx
    | some x =>
      obtain ⟨i, l, h'⟩ := x
      exact .inr ⟨i, l, h', nextR_told hM hn, hM, look_told _ _ _ rfl (by omega) _ _ _ hn, rfl⟩
  · exact .inl ⟨nextR_arg hM, hM⟩
theorem next_may {r : Rg} (h : (nextR r).2.2 = 0) : MayR (nextR r).2.1 := by
  rcases next_cases r with ⟨e, -⟩ | ⟨e, -, -⟩ | ⟨i, l, h', e, hM, T, -⟩
  · rw [e] at h; simp at h
  · rw [e] at h; simp at h
  · rw [e]; exact told_may hM T

theorem newR_yes {m : Nat} (h1 : 1 ≤ m) (h2 : m ≤ 16) : newR (m : Int) = (⟨List.replicate m ⟨-1, false, 0⟩, 0⟩, 0) := by
  unfold newR
  rw [if_pos ⟨by omega, by omega⟩, Int.toNat_natCast]
theorem newR_no {n : Int} (h : ¬ (1 ≤ n ∧ n ≤ 16)) : newR n = (.zero, 1) := by
  unfold newR
  rw [if_neg h]
theorem new_may {m : Nat} (h1 : 1 ≤ m) (h2 : m ≤ 16) : MayR ⟨List.replicate m ⟨-1, false, 0⟩, 0⟩ := by
  refine ⟨by simpa using h1, by simpa using h2, by simp, by simp; omega, ⟨fun j hj _ => ?_, fun i j hi hj _ _ hne => ?_⟩⟩
  · simp only [List.getElem_replicate]
    decide
  · simp only [List.getElem_replicate] at hne
    simp at hne
theorem zero_may : ¬ MayR .zero := fun h => by have := h.one; simp [Rg.zero] at this
end Go.Proofs.Ytcloinonhpaojaa.Ck
