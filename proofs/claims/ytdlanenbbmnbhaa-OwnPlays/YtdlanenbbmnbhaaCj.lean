/-
  Fail: an instance crashed.
-/
import Derived.Test.YtdlanenbbmnbhaaCi
import Derived.Test.YtdlanenbbmnbhaaCg
namespace Go.Proofs.Ytdlanenbbmnbhaa
open Go.RowKit

/-- The pages of a row are lost. -/
def lvL (l : List Lf) (P : List Int) : List Lf := l.mapIdx fun i x => if (i : Int) ∈ P then leaveF true x else x
theorem lvL_nil (l : List Lf) : lvL l [] = l := by
  refine List.ext_getElem (by simp [lvL]) fun i h1 h2 => ?_
  simp [lvL]
theorem lvL_len (l : List Lf) (P : List Int) : (lvL l P).length = l.length := by simp [lvL]
theorem lvL_at (l : List Lf) (P : List Int) (i : Nat) (hi : i < l.length) : (lvL l P)[i]'(by rw [lvL_len]; exact hi) = if (i : Int) ∈ P then leaveF true l[i] else l[i] := by simp [lvL]
theorem lvL_snoc (l : List Lf) (P : List Int) (n : Nat) (hn : n < l.length) : lvL l (P ++ [(n : Int)]) = (lvL l P).set n (leaveF true ((lvL l P)[n]'(by rw [lvL_len]; exact hn))) := by
  refine List.ext_getElem (by simp [lvL]) fun i h1 h2 => ?_
  rw [lvL_len] at h1
  rw [lvL_at l _ i h1, List.getElem_set]
  by_cases e : n = i
  · subst e
    rw [if_pos rfl, lvL_at l _ n h1, if_pos (by simp)]
    split <;> rfl
  · rw [if_neg e, lvL_at l _ i h1]
    have : (i : Int) ∈ P ++ [(n : Int)] ↔ (i : Int) ∈ P := by simp; omega
    simp only [this]
theorem hasN_mem (l : List Lf) (k : Int) : ∀ n, n ≤ l.length → ∀ x, x ∈ hasN l k n ↔ ∃ i : Nat, ∃ hi : i < l.length, x = (i : Int) ∧ i < n ∧ l[i].owner = k
  | 0, _, x => by simp [hasN]
  | n + 1, hn, x => by
    have ih := hasN_mem l k n (by omega) x
    rw [hasN_at (by omega)]
    split
    · rename_i ho
      simp only [List.mem_append, List.mem_singleton, ih]
      constructor
      · rintro (⟨i, hi, e, h1, h2⟩ | e)
        · exact ⟨i, hi, e, by omega, h2⟩
        · exact ⟨n, by omega, e, by omega, ho⟩
      · rintro ⟨i, hi, e, h1, h2⟩
        by_cases en : i = n
        · subst en; exact .inr e
        · exact .inl ⟨i, hi, e, by omega, h2⟩
    · rename_i ho
      rw [ih]
      constructor
      · rintro ⟨i, hi, e, h1, h2⟩
        exact ⟨i, hi, e, by omega, h2⟩
      · rintro ⟨i, hi, e, h1, h2⟩
        refine ⟨i, hi, e, ?_, h2⟩
        by_cases en : i = n
        · subst en; exact absurd h2 ho
        · omega
theorem hasL_mem {l : List Lf} {k x : Int} : x ∈ hasL l k ↔ instB k = true ∧ ∃ i : Nat, ∃ hi : i < l.length, x = (i : Int) ∧ l[i].owner = k := by
  unfold hasL
  cases hk : instB k
  · simp
  · simp only [if_true, hasN_mem l k l.length (Nat.le_refl _) x, true_and]
    constructor
    · rintro ⟨i, hi, e, _, h⟩; exact ⟨i, hi, e, h⟩
    · rintro ⟨i, hi, e, h⟩; exact ⟨i, hi, e, hi, h⟩
theorem lvL_has {l : List Lf} {k : Int} (hk : instB k = true) : lvL l (hasL l k) = l.map fun x => if x.owner = k then leaveF true x else x := by
  refine List.ext_getElem (by simp [lvL]) fun i h1 h2 => ?_
  rw [lvL_len] at h1
  rw [lvL_at l _ i h1, List.getElem_map]
  have : (i : Int) ∈ hasL l k ↔ l[i].owner = k := by
    rw [hasL_mem]
    constructor
    · rintro ⟨_, j, hj, e, h⟩
      obtain rfl : i = j := by omega
      exact h
    · exact fun h => ⟨hk, i, h1, rfl, h⟩
  simp only [this]
theorem lvL_ok {l : List Lf} (h : BkOk l) (P : List Int) : BkOk (lvL l P) := fun x hx => by
  obtain ⟨i, hi, rfl⟩ := List.getElem_of_mem hx
  rw [lvL_len] at hi
  rw [lvL_at l P i hi]
  split
  · exact leave_lost (h.at hi)
  · exact h.at hi
theorem fail_eq {l : List Lf} (h : BkOk l) (k : Int) : (lvL l (hasL l k)).map (quitF k) = failL l k := by
  unfold failL
  cases hk : instB k
  · have e : hasL l k = [] := by unfold hasL; rw [hk]; simp
    rw [e, lvL_nil]
    simp only [Bool.false_eq_true, if_false]
    refine List.ext_getElem (by simp) fun i h1 h2 => ?_
    rw [List.getElem_map]
    have hi : k ∉ l[i].ws := fun hm => by
      have := (h.at h2).inst k hm
      rw [inst_no] at hk
      exact hk this
    unfold quitF
    rw [List.erase_of_not_mem hi]
  · rw [lvL_has hk, if_pos rfl, List.map_map]
    rfl
theorem hasL_len (l : List Lf) (k : Int) : (hasL l k).length ≤ l.length := by
  unfold hasL
  split
  · exact hasN_len l k l.length
  · simp

theorem fail_nil (k : Int) (w : World) : Calls Try.prog 16 #[.pointer none, .int .i64 k] w fun e w' => e = .returned (.slice none 0 0) ∧ w' = w := by
  have HH := toHid (has_nil k w)
  have HQ := toHid (quit_nil k w)
  go_enter Try.func16, Try.ntmps16
  go_wp2_with fail
  refine Calls.mono HH.out ?_
  rintro e w1 ⟨rfl, hw⟩
  obtain rfl := hw.symm
  clear HH
  go_wp2_with fail
  go_loopw [13] (fun i wr => i = .int .i64 0 ∧ wr = w) (fun i _ => 0)
  case atStart => exact ⟨rfl, rfl⟩
  case round =>
    obtain ⟨rfl, rfl⟩ := hrel
    go_wp2_with fail
    refine Calls.mono HQ.out ?_
    rintro e w1 ⟨rfl, hw⟩
    obtain rfl := hw.symm
    go_wp2
    go_ret
    exact ⟨rfl, rfl⟩

set_option maxHeartbeats 2000000 in
theorem fail_any (p q : Nat) (l : List Lf) (k : Int) (w : World) (h : Bk w p q l) (hok : BkOk l) :
    Calls Try.prog 16 #[.pointer (some ⟨p, 0, none⟩), .int .i64 k] w fun e w' => (∃ a c, e = .returned (.slice a (hasL l k).length c) ∧ SlI w' a (hasL l k) ∧ ∀ x, a = some x → w.heap.size ≤ x.block) ∧ Bk w' p q (failL l k) ∧ One q w w' := by
  have HHas := toHid (has_any p q l k w h)
  have HH := toHid h
  have hlen := hasL_len l k
  have hm := h.most
  have HM := toHid (fun x => @hasL_mem l k x)
  have HF := toHid (fail_eq hok k)
  have HLv := toHid (lvL_ok hok)
  have hq := h.lt.2.1
  clear h hok
  generalize hasL l k = P at *
  go_enter Try.func16, Try.ntmps16
  go_wp2_with fail
  refine Calls.mono HHas.out ?_
  rintro e w1 ⟨⟨a, c, rfl, hs, hn⟩, hb⟩
  have HB1 := toHid (HH.out.below hb)
  have HO1 := toHid (One.of (p := q) hb)
  have HS1 := toHid hs
  have HN := toHid hn
  have hsz1 := hb.size
  clear HHas hs hn hb
  go_wp2_with fail
  go_loopw [13] (fun i wr => ∃ n : Nat, n ≤ P.length ∧ i = .int .i64 n ∧ Bk wr p q (lvL l (P.take n)) ∧ One q w1 wr) (fun i _ => P.length - (intOf i).toNat)
  case atStart => exact ⟨0, Nat.zero_le _, rfl, by rw [List.take_zero, lvL_nil]; exact HB1.out, One.refl _ _⟩
  case round =>
    obtain ⟨n, hn, rfl, hb, ho⟩ := hrel
    have HO := toHid ho
    have HS := toHid (HS1.out.one ho (fun x hx => by have := HN.out x hx; omega))
    have HB := toHid hb
    clear ho
    by_cases hlt : n < P.length
    · obtain ⟨b, o, rfl, hbl, c0⟩ := HS.out.at n hlt
      obtain ⟨-, j, hj, ej, -⟩ := (HM.out P[n]).1 (List.getElem_mem hlt)
      have HE : Hid (P.take (n + 1) = P.take n ++ [(j : Int)]) := toHid (by rw [← ej, List.take_append_getElem])
      rw [ej] at c0
      have hj' : j < (lvL l (P.take n)).length := by rw [lvL_len]; exact hj
      have HA := toHid (at_yes p q _ j wr hb hj')
      have HL := toHid (leave_any p q _ j true wr hb hj')
      clear hb ej
      go_wp2_with fail
      refine Calls.mono HA.out ?_
      rintro e w2 ⟨rfl, hw⟩
      obtain rfl := hw.symm
      clear HA
      go_wp2_with fail
      refine Calls.mono HL.out ?_
      rintro e w2 ⟨rfl, hb2, ho2⟩
      rw [← lvL_snoc l _ j hj, ← HE.out] at hb2
      have HX := toHid hb2
      have HY := toHid (HO.out.trans ho2)
      clear HL hb2 ho2
      go_wp2_with fail
      go_roundw
      case rel => exact ⟨n + 1, by omega, by simp, HX.out, HY.out⟩
      case measure => first | omega | (simp only [intOf]; omega)
    · obtain rfl : n = P.length := by omega
      rw [List.take_length] at HB
      have HQ := toHid (quit_any p q _ k wr HB.out (HLv.out P))
      clear hb
      go_wp2_with fail
      refine Calls.mono HQ.out ?_
      rw [HF.out]
      rintro e w3 ⟨rfl, hb3, ho3⟩
      have HX := toHid hb3
      have HY := toHid (HO.out.trans ho3)
      clear hb3 ho3 HQ
      go_wp2
      go_ret
      exact ⟨⟨a, c, rfl, HS1.out.one HY.out (fun x hx => by have := HN.out x hx; omega), HN.out⟩, HX.out, HO1.out.trans HY.out⟩
end Go.Proofs.Ytdlanenbbmnbhaa
