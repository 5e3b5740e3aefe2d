/-
  A page's bytes in pieces: of no program.
-/
import Derived.Test.YtcloinonhpaojaaBc
namespace Go.Proofs.Ytcloinonhpaojaa

theorem mid_at (A M Z : List UInt8) (a m : Nat) (ha : A.length = a) (hm : M.length = m) : ((A ++ (M ++ Z)).drop a).take m = M := by
  subst ha hm
  simp

theorem split_at (l : List Cl) (i : Nat) (hi : i < l.length) : l = l.take i ++ (l[i] :: l.drop (i + 1)) := by
  rw [List.getElem_cons_drop hi, List.take_append_drop]

theorem pg_sum (id lsn : Nat) (l : List Cl) : (pageB id lsn l).take 4 = leB (more 0 (bodyP id lsn l)) 4 := by
  have := mid_at [] (leB (more 0 (bodyP id lsn l)) 4) (bodyP id lsn l) 0 4 rfl (leB_length _ _)
  simpa [pageB] using this
theorem pg_body (id lsn : Nat) (l : List Cl) : (pageB id lsn l).drop 4 = bodyP id lsn l := by
  unfold pageB
  exact List.drop_left' (leB_length _ _)
theorem pg_lsn (id lsn : Nat) (l : List Cl) : ((pageB id lsn l).drop 4).take 8 = leB lsn 8 :=
  mid_at (leB (more 0 (bodyP id lsn l)) 4) (leB lsn 8) _ 4 8 (leB_length _ _) (leB_length _ _)
theorem pg_id (id lsn : Nat) (l : List Cl) : ((pageB id lsn l).drop 12).take 2 = leB id 2 := by
  have := mid_at (leB (more 0 (bodyP id lsn l)) 4 ++ leB lsn 8) (leB id 2) (leB l.length 2 ++ (layS 512 l ++ (List.replicate (496 - 4 * l.length - sumC l) 0 ++ layC l))) 12 2 (by simp [leB_length]) (leB_length _ _)
  rw [List.append_assoc] at this
  exact this
theorem pg_count (id lsn : Nat) (l : List Cl) : ((pageB id lsn l).drop 14).take 2 = leB l.length 2 := by
  have := mid_at ((leB (more 0 (bodyP id lsn l)) 4 ++ leB lsn 8) ++ leB id 2) (leB l.length 2) (layS 512 l ++ (List.replicate (496 - 4 * l.length - sumC l) 0 ++ layC l)) 14 2 (by simp [leB_length]) (leB_length _ _)
  rw [List.append_assoc, List.append_assoc] at this
  exact this

/-- The head with its sum. -/
def headS (id lsn : Nat) (l : List Cl) : List UInt8 := ((leB (more 0 (bodyP id lsn l)) 4 ++ leB lsn 8) ++ leB id 2) ++ leB l.length 2
theorem headS_length (id lsn : Nat) (l : List Cl) : (headS id lsn l).length = 16 := by simp [headS, leB_length]
theorem pg_eq (id lsn : Nat) (l : List Cl) : pageB id lsn l = headS id lsn l ++ (layS 512 l ++ (List.replicate (496 - 4 * l.length - sumC l) 0 ++ layC l)) := by
  generalize hb : more 0 (bodyP id lsn l) = x
  unfold pageB headS
  rw [hb]
  simp only [bodyP, List.append_assoc]

/-- A slot's four bytes. -/
def slotB (e : Nat) (c : Cl) : List UInt8 := if c.used then leB (e - sizeC c) 2 ++ leB (sizeC c) 2 else leB 0 4
theorem slotB_length (e : Nat) (c : Cl) : (slotB e c).length = 4 := by
  unfold slotB
  split <;> simp [leB_length]

theorem pg_slot (id lsn : Nat) (l : List Cl) (i : Nat) (hi : i < l.length) : ((pageB id lsn l).drop (16 + 4 * i)).take 4 = slotB (512 - sumC (l.take i)) l[i] := by
  have e : layS 512 l = layS 512 (l.take i) ++ (slotB (512 - sumC (l.take i)) l[i] ++ layS (512 - sumC (l.take i) - sizeC l[i]) (l.drop (i + 1))) := by
    conv => lhs; rw [split_at l i hi, layS_append]
    rfl
  rw [pg_eq, e]
  generalize List.replicate (496 - 4 * l.length - sumC l) (0 : UInt8) ++ layC l = Z
  have := mid_at (headS id lsn l ++ layS 512 (l.take i)) (slotB (512 - sumC (l.take i)) l[i]) (layS (512 - sumC (l.take i) - sizeC l[i]) (l.drop (i + 1)) ++ Z) (16 + 4 * i) 4 (by simp [headS_length, layS_length]; omega) (slotB_length _ _)
  simpa only [List.append_assoc] using this

theorem pg_cell (id lsn : Nat) (l : List Cl) (h : 0 ≤ freeL l) (i : Nat) (hi : i < l.length) : ((pageB id lsn l).drop (512 - sumC (l.take i) - sizeC l[i])).take (sizeC l[i]) = cellB l[i] := by
  have e : layC l = layC (l.drop (i + 1)) ++ (cellB l[i] ++ layC (l.take i)) := by
    conv => lhs; rw [split_at l i hi, layC_append]
    simp [layC]
  have es : sumC l = sumC (l.take i) + (sizeC l[i] + sumC (l.drop (i + 1))) := by
    conv => lhs; rw [split_at l i hi, sumC_append]
    simp [sumC]
  unfold freeL at h
  rw [pg_eq, e]
  have := mid_at (headS id lsn l ++ (layS 512 l ++ (List.replicate (496 - 4 * l.length - sumC l) 0 ++ layC (l.drop (i + 1))))) (cellB l[i]) (layC (l.take i)) (512 - sumC (l.take i) - sizeC l[i]) (sizeC l[i]) (by
    simp only [List.length_append, headS_length, layS_length, List.length_replicate, layC_length]
    omega) (cellB_length _)
  simpa only [List.append_assoc] using this

theorem pg_gap (id lsn : Nat) (l : List Cl) : ((pageB id lsn l).drop (16 + 4 * l.length)).take (496 - 4 * l.length - sumC l) = List.replicate (496 - 4 * l.length - sumC l) 0 := by
  rw [pg_eq]
  have := mid_at (headS id lsn l ++ layS 512 l) (List.replicate (496 - 4 * l.length - sumC l) 0) (layC l) (16 + 4 * l.length) (496 - 4 * l.length - sumC l) (by simp [headS_length, layS_length]) (by simp)
  simpa only [List.append_assoc] using this

/-- A slot's bytes are all noughts where it is free, and never else. -/
theorem slot_noughts (e : Nat) (c : Cl) (hc : sizeC c ≤ 49) : (slotB e c).all (· == 0) = !c.used := by
  unfold slotB
  by_cases hu : c.used = true
  · have h1 : 1 ≤ sizeC c := by simp [sizeC, hu]; omega
    have h2 : leB (sizeC c) 2 = [UInt8.ofNat (sizeC c), 0] := by
      have h3 : sizeC c / 256 = 0 := by omega
      simp [leB, h3]
    rw [if_pos hu, h2]
    simp [hu]
    intro _ h0
    have := congrArg UInt8.toNat h0
    simp at this
    omega
  · simp [hu, leB]

theorem slot_begin (e : Nat) (c : Cl) (hu : c.used = true) (he : e ≤ 512) : leV ((slotB e c).take 2) = e - sizeC c := by
  rw [slotB, if_pos hu, List.take_left' (leB_length _ _), leV_leB]
  omega
theorem slot_size (e : Nat) (c : Cl) (hu : c.used = true) (hc : sizeC c ≤ 512) : leV ((slotB e c).drop 2) = sizeC c := by
  rw [slotB, if_pos hu, List.drop_left' (leB_length _ _), leV_leB]
  omega

theorem good_size (l : List Cl) (hg : GoodL l) (i : Nat) (hi : i < l.length) : sizeC l[i] ≤ 49 := by
  have := hg.cells l[i] (by simp)
  unfold goodC at this
  unfold sizeC
  split
  · rename_i hu
    rw [if_pos hu] at this
    omega
  · omega

/-- No slot before has its key. -/
theorem good_before (l : List Cl) (hg : GoodL l) (i : Nat) (hi : i < l.length) (hu : l[i].used = true) : (l.take i).findIdx? (isKey l[i].key) = none := by
  rw [List.findIdx?_eq_none_iff]
  intro c hc
  obtain ⟨j, hj, rfl⟩ := List.mem_iff_getElem.1 hc
  have hj' : j < i := by simp at hj; omega
  simp only [List.getElem_take]
  by_cases h : isKey l[i].key l[j] = true
  · simp [isKey] at h
    have := hg.once i j hi (by omega) hu h.1 h.2.symm
    omega
  · simpa using h

end Go.Proofs.Ytcloinonhpaojaa
