/-
  PageReads, the mathematics: bytes from which slots are read one by one are a page's.
-/
import Derived.Test.YtoahcihhpimmgaaPm
namespace Go.Proofs.Ytoahcihhpimmgaa

theorem leV_inj (l m : List UInt8) (h : l.length = m.length) (e : leV l = leV m) : l = m := leN_inj l m h (by rw [leN_leV, leN_leV]; exact e)
theorem leB_leV (x : List UInt8) (k : Nat) (h : x.length = k) : leB (leV x) k = x := by
  refine leV_inj _ _ (by rw [leB_length, h]) ?_
  rw [leV_leB]
  have := leV_lt x
  rw [h] at this
  exact Nat.mod_eq_of_lt this

/-- The slots that were read so far, of n, and what they stand for. -/
structure SoF (b : List UInt8) (n : Nat) (l : List Cl) : Prop where
  cells : ∀ c ∈ l, goodC c
  once : ∀ i j (hi : i < l.length) (hj : j < l.length), l[i].used = true → l[j].used = true → l[i].key = l[j].key → i = j
  slots : (b.drop 16).take (4 * l.length) = layS 512 l
  cont : b.drop (512 - sumC l) = layC l
  room : 16 + 4 * n + sumC l ≤ 512

theorem SoF.start {b : List UInt8} {n : Nat} (hb : b.length = 512) (hn : n ≤ 64) : SoF b n [] :=
  ⟨by simp, by simp, by simp [layS], by simp [sumC, layC, hb], by simp [sumC]; omega⟩

theorem once_snoc {l : List Cl} {c : Cl} (h : ∀ i j (hi : i < l.length) (hj : j < l.length), l[i].used = true → l[j].used = true → l[i].key = l[j].key → i = j)
    (hc : c.used = true → ∀ d ∈ l, d.used = true → d.key ≠ c.key) : ∀ i j (hi : i < (l ++ [c]).length) (hj : j < (l ++ [c]).length), (l ++ [c])[i].used = true → (l ++ [c])[j].used = true → (l ++ [c])[i].key = (l ++ [c])[j].key → i = j := by
  intro i j hi hj h1 h2 h3
  simp at hi hj
  by_cases e1 : i < l.length
  · by_cases e2 : j < l.length
    · rw [List.getElem_append_left e1] at h1 h3
      rw [List.getElem_append_left e2] at h2 h3
      exact h i j e1 e2 h1 h2 h3
    · obtain rfl : j = l.length := by omega
      rw [List.getElem_append_left e1] at h1 h3
      simp at h2 h3
      exact absurd h3 (hc h2 _ (List.getElem_mem e1) h1)
  · obtain rfl : i = l.length := by omega
    by_cases e2 : j < l.length
    · rw [List.getElem_append_left e2] at h2 h3
      simp at h1 h3
      exact absurd h3.symm (hc h1 _ (List.getElem_mem e2) h2)
    · omega

theorem take_four (b : List UInt8) (k : Nat) : (b.drop 16).take (4 * (k + 1)) = (b.drop 16).take (4 * k) ++ (b.drop (16 + 4 * k)).take 4 := by
  rw [show 4 * (k + 1) = 4 * k + 4 by omega, List.take_add, List.drop_drop]

theorem SoF.free {b : List UInt8} {n : Nat} {l : List Cl} (h : SoF b n l) (h0 : (b.drop (16 + 4 * l.length)).take 4 = leB 0 4) : SoF b n (l ++ [Cl.none]) := by
  have hs : sumC (l ++ [Cl.none]) = sumC l := by simp [sumC_append, sumC, sizeC, Cl.none]
  refine ⟨fun c hc => ?_, once_snoc h.once (fun hu => by simp [Cl.none] at hu), ?_, ?_, by rw [hs]; exact h.room⟩
  · rcases List.mem_append.1 hc with h1 | h1
    · exact h.cells c h1
    · obtain rfl : c = Cl.none := by simpa using h1
      exact goodC_none
  · rw [List.length_append, List.length_singleton, take_four, h.slots, h0, layS_append]
    simp [layS, Cl.none]
  · rw [hs, h.cont, layC_append]
    simp [layC, cellB, Cl.none]

theorem SoF.cell {b : List UInt8} {n bg sz : Nat} {l : List Cl} {k : UInt8} {r : List UInt8} (hb : b.length = 512) (h : SoF b n l) (h1 : leV (((b.drop (16 + 4 * l.length)).take 4).take 2) = bg) (h2 : leV (((b.drop (16 + 4 * l.length)).take 4).drop 2) = sz)
    (hl : l.length < n) (h3 : 16 + 4 * n ≤ bg) (h4 : bg + sz = 512 - sumC l) (h5 : (b.drop bg).take sz = k :: r) (h6 : 1 + k.toNat ≤ sz) (h7 : mayK (r.take k.toNat) (r.drop k.toNat) = true) (h8 : l.findIdx? (isKey (r.take k.toNat)) = none) : SoF b n (l ++ [⟨true, r.take k.toNat, r.drop k.toNat⟩]) := by
  have hrl : r.length + 1 = sz := by
    have := congrArg List.length h5
    simp at this
    omega
  have hkl : (r.take k.toNat).length = k.toNat := by simp; omega
  have hvl : (r.drop k.toNat).length = sz - 1 - k.toNat := by simp; omega
  have hsz : sizeC ⟨true, r.take k.toNat, r.drop k.toNat⟩ = sz := by simp only [sizeC]; rw [hkl, hvl]; simp; omega
  have hs : sumC (l ++ [⟨true, r.take k.toNat, r.drop k.toNat⟩]) = sumC l + sz := by rw [sumC_append]; simp [sumC, hsz]
  have hcb : cellB ⟨true, r.take k.toNat, r.drop k.toNat⟩ = k :: r := by
    simp only [cellB]
    rw [hkl]
    simp
  have hroom := h.room
  refine ⟨fun c hc => ?_, once_snoc h.once (fun _ d hd hu he => ?_), ?_, ?_, by rw [hs]; omega⟩
  · rcases List.mem_append.1 hc with e | e
    · exact h.cells c e
    · obtain rfl : c = ⟨true, r.take k.toNat, r.drop k.toNat⟩ := by simpa using e
      simp only [mayK, Bool.and_eq_true, decide_eq_true_iff] at h7
      simp only [goodC]
      exact ⟨h7.1, h7.2.1, h7.2.2⟩
  · have := List.findIdx?_eq_none_iff.1 h8 d hd
    simp [isKey, hu] at this
    exact this he
  · rw [List.length_append, List.length_singleton, take_four, h.slots, layS_append]
    congr 1
    simp only [layS, if_true, List.append_nil]
    rw [hsz, show 512 - sumC l - sz = bg by omega, ← h1, ← h2, leB_leV _ 2 (by simp; omega), leB_leV _ 2 (by simp; omega), List.take_append_drop]
  · rw [hs, layC_append, show 512 - (sumC l + sz) = bg by omega]
    have e1 : b.drop bg = (b.drop bg).take sz ++ (b.drop bg).drop sz := (List.take_append_drop _ _).symm
    rw [e1, h5, List.drop_drop, h4, h.cont]
    simp only [layC, List.nil_append]
    rw [hcb]

/-- All slots were read: the bytes are a page's. -/
theorem SoF.page {b : List UInt8} {l : List Cl} (hb : b.length = 512) (h : SoF b l.length l) (hn : l.length ≤ 64) (ht : trimL l = l) (hz : (b.drop (16 + 4 * l.length)).take (496 - 4 * l.length - sumC l) = List.replicate (496 - 4 * l.length - sumC l) 0)
    (hc : leV ((b.drop 14).take 2) = l.length) (hs : b.take 4 = leB (more 0 (b.drop 4)) 4) : GoodL l ∧ b = pageB (leV ((b.drop 12).take 2)) (leV ((b.drop 4).take 8)) l := by
  have hroom := h.room
  refine ⟨⟨h.cells, by unfold freeL; omega, hn, ht, h.once⟩, ?_⟩
  have e16 : b.drop 16 = layS 512 l ++ (List.replicate (496 - 4 * l.length - sumC l) 0 ++ layC l) := by
    have e1 : b.drop 16 = (b.drop 16).take (4 * l.length) ++ (b.drop 16).drop (4 * l.length) := (List.take_append_drop _ _).symm
    rw [e1, h.slots, List.drop_drop]
    congr 1
    have e2 : b.drop (16 + 4 * l.length) = (b.drop (16 + 4 * l.length)).take (496 - 4 * l.length - sumC l) ++ (b.drop (16 + 4 * l.length)).drop (496 - 4 * l.length - sumC l) := (List.take_append_drop _ _).symm
    rw [e2, hz, List.drop_drop, show 16 + 4 * l.length + (496 - 4 * l.length - sumC l) = 512 - sumC l by omega, h.cont]
  have e4 : b.drop 4 = bodyP (leV ((b.drop 12).take 2)) (leV ((b.drop 4).take 8)) l := by
    have hcl : leB l.length 2 = (b.drop 14).take 2 := by rw [← hc]; exact leB_leV _ 2 (by simp; omega)
    unfold bodyP
    rw [leB_leV _ 8 (by simp; omega), leB_leV _ 2 (by simp; omega), hcl, ← e16]
    have a1 : b.drop 4 = (b.drop 4).take 8 ++ b.drop 12 := by have := List.take_append_drop 8 (b.drop 4); rw [List.drop_drop] at this; exact this.symm
    have a2 : b.drop 12 = (b.drop 12).take 2 ++ b.drop 14 := by have := List.take_append_drop 2 (b.drop 12); rw [List.drop_drop] at this; exact this.symm
    have a3 : b.drop 14 = (b.drop 14).take 2 ++ b.drop 16 := by have := List.take_append_drop 2 (b.drop 14); rw [List.drop_drop] at this; exact this.symm
    rw [← a3, ← a2, ← a1]
  unfold pageB
  rw [← e4, ← hs, List.take_append_drop]

end Go.Proofs.Ytoahcihhpimmgaa
