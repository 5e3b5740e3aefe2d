/-
  A page's bytes as they are laid bit by bit: of no program.
-/
import Derived.Test.YtebchgoaelamcaaDoorBb
namespace Go.Proofs.YtebchgoaelamcaaDoor

/-- The head of a page's bytes, its sum left out. -/
def headP (id lsn n : Nat) : List UInt8 := List.replicate 4 0 ++ (leB lsn 8 ++ (leB id 2 ++ leB n 2))
theorem headP_length (id lsn n : Nat) : (headP id lsn n).length = 16 := by simp [headP, leB_length]

/-- A page's bytes behind its first k slots. -/
def contP (id lsn : Nat) (l : List Cl) (k : Nat) : List UInt8 :=
  (headP id lsn l.length ++ layS 512 (l.take k)) ++ (List.replicate (496 - 4 * k - sumC (l.take k)) 0 ++ layC (l.take k))

theorem room_take (l : List Cl) (h : 0 ≤ freeL l) (k : Nat) (hk : k ≤ l.length) : 4 * k + sumC (l.take k) ≤ 496 := by
  have := sumC_le l k
  unfold freeL at h
  omega

theorem contP_length (id lsn : Nat) (l : List Cl) (h : 0 ≤ freeL l) (k : Nat) (hk : k ≤ l.length) : (contP id lsn l k).length = 512 := by
  have := room_take l h k hk
  simp [contP, headP_length, layS_length, layC_length]
  omega

theorem cont_zero (id lsn : Nat) (l : List Cl) : over (over (over (List.replicate 512 0) 4 (leB lsn 8)) 12 (leB id 2)) 14 (leB l.length 2) = contP id lsn l 0 := by
  have h1 := over_front (List.replicate 4 0) [] (leB lsn 8) 508 (by simp [leB_length])
  have h2 := over_front (List.replicate 4 0 ++ leB lsn 8) [] (leB id 2) 500 (by simp [leB_length])
  have h3 := over_front ((List.replicate 4 0 ++ leB lsn 8) ++ leB id 2) [] (leB l.length 2) 498 (by simp [leB_length])
  simp only [List.length_append, List.length_replicate, leB_length] at h1 h2 h3
  have e0 : List.replicate 512 (0 : UInt8) = List.replicate 4 0 ++ (List.replicate 508 0 ++ []) := by rw [List.append_nil, List.replicate_append_replicate]
  rw [e0, h1, h2, h3]
  have e9 : (498 - 2 : Nat) = 496 - 4 * 0 - sumC (l.take 0) := by simp [sumC]
  rw [e9]
  unfold contP headP
  generalize List.replicate (496 - 4 * 0 - sumC (l.take 0)) (0 : UInt8) = R
  generalize List.replicate 4 (0 : UInt8) = F
  simp [layS, layC]

theorem cont_free (id lsn : Nat) (l : List Cl) (h : 0 ≤ freeL l) (k : Nat) (hk : k < l.length) (hu : l[k].used = false) : contP id lsn l (k + 1) = contP id lsn l k := by
  have hr := room_take l h (k + 1) hk
  have hs := sumC_take l k hk
  have hz : sizeC l[k] = 0 := by simp [sizeC, hu]
  have et : l.take (k + 1) = l.take k ++ [l[k]] := by rw [List.take_add_one, List.getElem?_eq_getElem hk]; rfl
  unfold contP
  rw [hs, hz, et, layS_append, layC_append]
  have e1 : layS (512 - sumC (l.take k)) [l[k]] = List.replicate 4 0 := by simp [layS, hu, leB, List.replicate]
  have e2 : layC [l[k]] = [] := by simp [layC, cellB, hu]
  rw [e1, e2]
  have e3 : List.replicate (496 - 4 * k - sumC (l.take k)) (0 : UInt8) = List.replicate 4 0 ++ List.replicate (496 - 4 * (k + 1) - (sumC (l.take k) + 0)) 0 := by
    rw [List.replicate_append_replicate]
    congr 1
    omega
  rw [e3]
  simp

theorem cont_used (id lsn : Nat) (l : List Cl) (h : 0 ≤ freeL l) (k : Nat) (hk : k < l.length) (hu : l[k].used = true) (bg : Nat) (hb : bg + sizeC l[k] = 512 - sumC (l.take k)) :
    over (over (over (contP id lsn l k) bg (cellB l[k])) (16 + 4 * k) (leB bg 2)) (16 + 4 * k + 2) (leB (sizeC l[k]) 2) = contP id lsn l (k + 1) := by
  have hr := room_take l h (k + 1) hk
  have hs := sumC_take l k hk
  have hc := cellB_length l[k]
  have et : l.take (k + 1) = l.take k ++ [l[k]] := by rw [List.take_add_one, List.getElem?_eq_getElem hk]; rfl
  have htk : (l.take k).length = k := by simp; omega
  have hA : (headP id lsn l.length ++ layS 512 (l.take k)).length = 16 + 4 * k := by simp [headP_length, layS_length]; omega
  unfold contP
  rw [hs, et, layS_append, layC_append]
  have e1 : layS (512 - sumC (l.take k)) [l[k]] = leB bg 2 ++ leB (sizeC l[k]) 2 := by
    simp only [layS, hu, if_true, List.append_nil]
    congr 2
    omega
  have e2 : layC [l[k]] = cellB l[k] := by simp [layC]
  rw [e1, e2]
  generalize hAe : headP id lsn l.length ++ layS 512 (l.take k) = A at *
  generalize layC (l.take k) = Z at *
  generalize cellB l[k] = M at *
  have s1 := over_back A Z M (496 - 4 * k - sumC (l.take k)) (by omega)
  rw [show A.length + (496 - 4 * k - sumC (l.take k) - M.length) = bg by omega] at s1
  have s2 := over_front A (M ++ Z) (leB bg 2) (496 - 4 * k - sumC (l.take k) - M.length) (by rw [leB_length]; omega)
  rw [hA] at s2
  have s3 := over_front (A ++ leB bg 2) (M ++ Z) (leB (sizeC l[k]) 2) (496 - 4 * k - sumC (l.take k) - M.length - (leB bg 2).length) (by rw [leB_length, leB_length]; omega)
  rw [List.length_append, hA, leB_length] at s3
  rw [leB_length] at s2
  rw [s1, s2, s3]
  simp only [leB_length, List.append_assoc]
  rw [show 496 - 4 * k - sumC (l.take k) - M.length - 2 - 2 = 496 - 4 * (k + 1) - (sumC (l.take k) + sizeC l[k]) by omega]
  rw [← hAe]
  simp only [List.append_assoc]

theorem cont_end (id lsn : Nat) (l : List Cl) : over (contP id lsn l l.length) 0 (leB (more 0 ((contP id lsn l l.length).drop 4)) 4) = pageB id lsn l := by
  have e : contP id lsn l l.length = List.replicate 4 0 ++ bodyP id lsn l := by
    simp [contP, headP, bodyP, List.append_assoc]
  have ed : (contP id lsn l l.length).drop 4 = bodyP id lsn l := by
    rw [e]
    exact List.drop_left' (by simp)
  rw [ed]
  unfold over pageB
  rw [leB_length, Nat.zero_add, ed]
  simp

end Go.Proofs.YtebchgoaelamcaaDoor
