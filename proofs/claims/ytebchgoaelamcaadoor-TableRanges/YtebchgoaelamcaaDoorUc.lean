/-
  Ranges of pages on which each key is at home: the mathematics.
-/
import Derived.Test.YtebchgoaelamcaaDoorUa
import Derived.Test.YtebchgoaelamcaaDoorTg
import Derived.Test.YtebchgoaelamcaaDoorHa
namespace Go.Proofs.YtebchgoaelamcaaDoor
set_option maxRecDepth 100000

/-- Each key is on the page on which it is at home. -/
def HomeOk (n : Int) (ls : List (List Cl)) : Prop := (∀ l ∈ ls, GoodL l) ∧ ∀ i (h : i < ls.length), ∀ x ∈ prsL ls[i], homeI x.1 n = (i : Int)

theorem fk_perm {k : List UInt8} {L M : List Pq} (h : L.Perm M) : (fk k L).Perm (fk k M) := h.filter _
theorem fk_one {l : List Cl} (h : GoodL l) (k : List UInt8) : (fk k (prsL l)).length ≤ 1 := by
  by_cases hx : ∃ x ∈ prsL l, x.1 = k
  · obtain ⟨x, hx, rfl⟩ := hx
    obtain ⟨i, hi, hu, hk, hv⟩ := mem_prs hx
    have p := fk_perm (k := x.1) (prs_at l i hi)
    have hr := rest_ne h hi hu
    rw [hk] at hr
    rw [prC_used hu, hk] at p
    have e : fk x.1 ((some (x.1, l[i].val)).toList ++ restL l i) = [(x.1, l[i].val)] := by
      rw [fk_append, fk_nil hr]
      simp [fk]
    rw [e] at p
    have := p.length_eq
    simp at this
    omega
  · rw [fk_nil fun x hx' e => hx ⟨x, hx', e⟩]
    simp
theorem fk_flatten (k : List UInt8) (Ls : List (List Pq)) : fk k Ls.flatten = (Ls.map (fk k)).flatten := by
  induction Ls with
  | nil => rfl
  | cons L Ls ih => rw [List.flatten_cons, fk_append, ih]; rfl
theorem btw_flatten (f t : List UInt8) (Ls : List (List Pq)) : (Ls.map (btw f t)).flatten = btw f t Ls.flatten := by
  induction Ls with
  | nil => rfl
  | cons L Ls ih => rw [List.flatten_cons, btw_append, List.map_cons, List.flatten_cons, ih]
theorem fk_btw (f t k : List UInt8) (L : List Pq) : fk k (btw f t L) = if ¬ k < f ∧ ¬ t < k then fk k L else [] := by
  unfold fk btw
  rw [List.filter_filter]
  split
  · rename_i h
    apply List.filter_congr
    intro x _
    by_cases e : x.1 = k
    · subst e; simp [h.1, h.2]
    · simp [e]
  · rename_i h
    rw [List.filter_eq_nil_iff]
    intro x _
    by_cases e : x.1 = k
    · subst e
      simp only [beq_self_eq_true, Bool.true_and, Bool.and_eq_true, Bool.not_eq_true', decide_eq_false_iff_not]
      exact h
    · simp [e]
/-- All that the pages have, page behind page. -/
def All (ls : List (List Cl)) (U : List Pq) : Prop := ∃ Ls : List (List Pq), Ls.length = ls.length ∧ (∀ i (h1 : i < ls.length) (h2 : i < Ls.length), PS ls[i] Ls[i]) ∧ U = Ls.flatten
theorem Cat.all {f t : List UInt8} {ls : List (List Cl)} {X : List Pq} (h : Cat f t ls X) : ∃ U, All ls U ∧ X = btw f t U := by
  obtain ⟨Ls, h1, h2, rfl⟩ := h
  exact ⟨Ls.flatten, ⟨Ls, h1, h2, rfl⟩, btw_flatten f t Ls⟩
theorem All.uniq {ls : List (List Cl)} (hg : ∀ l ∈ ls, GoodL l) {U V : List Pq} (h : All ls U) (h' : All ls V) : U = V := by
  obtain ⟨Ls, h1, h2, rfl⟩ := h
  obtain ⟨Ms, m1, m2, rfl⟩ := h'
  have : Ls = Ms := by
    apply List.ext_getElem (by omega)
    intro i a b
    have p1 := h2 i (by omega) a
    have p2 := m2 i (by omega) b
    exact sort_uniq _ _ (p1.1.trans p2.1.symm) p1.2 p2.2 fun x y hx hy e => prs_uniq (hg _ (List.getElem_mem (by omega))) x y (p1.1.mem_iff.1 hx) (p1.1.mem_iff.1 hy) e
  rw [this]
theorem All.mem {ls : List (List Cl)} {U : List Pq} (h : All ls U) {x : Pq} (hx : x ∈ U) : ∃ i, ∃ hi : i < ls.length, x ∈ prsL ls[i] := by
  obtain ⟨Ls, h1, h2, rfl⟩ := h
  obtain ⟨L, hL, hxL⟩ := List.mem_flatten.1 hx
  obtain ⟨i, hi, rfl⟩ := List.getElem_of_mem hL
  exact ⟨i, by omega, (h2 i (by omega) hi).1.mem_iff.1 hxL⟩
theorem flat_one {Ls : List (List Pq)} (j : Nat) (h0 : ∀ i (hi : i < Ls.length), i ≠ j → Ls[i] = []) (h1 : ∀ hj : j < Ls.length, Ls[j].length ≤ 1) : Ls.flatten.length ≤ 1 := by
  induction Ls generalizing j with
  | nil => simp
  | cons L Ls ih =>
    rw [List.flatten_cons, List.length_append]
    cases j with
    | zero =>
      have e : Ls.flatten = [] := by
        rw [List.flatten_eq_nil_iff]
        intro M hM
        obtain ⟨i, hi, rfl⟩ := List.getElem_of_mem hM
        exact h0 (i + 1) (by simpa using hi) (by omega)
      have := h1 (by simp)
      rw [e]
      simpa using this
    | succ j =>
      have e : L = [] := h0 0 (by simp) (by omega)
      have := ih j (fun i hi hne => h0 (i + 1) (by simpa using hi) (by omega)) (fun hj => h1 (by simpa using hj))
      rw [e]
      simpa using this
theorem All.one {n : Int} {ls : List (List Cl)} (h : HomeOk n ls) {U : List Pq} (hU : All ls U) (k : List UInt8) : (fk k U).length ≤ 1 := by
  obtain ⟨Ls, h1, h2, rfl⟩ := hU
  rw [fk_flatten]
  have hat : ∀ i (hi : i < (Ls.map (fk k)).length), (Ls.map (fk k))[i] = fk k (Ls[i]'(by simpa using hi)) := fun i hi => by simp
  refine flat_one (homeI k n).toNat (fun i hi hne => ?_) (fun hj => ?_)
  · have hi' : i < Ls.length := by simpa using hi
    rw [hat i hi]
    refine fk_nil fun x hx e => hne ?_
    have := h.2 i (by omega) x ((h2 i (by omega) hi').1.mem_iff.1 hx)
    rw [e] at this
    omega
  · have hj' : (homeI k n).toNat < Ls.length := by simpa using hj
    rw [hat _ hj]
    have p := fk_perm (k := k) (h2 _ (by omega) hj').1
    rw [p.length_eq]
    exact fk_one (h.1 _ (List.getElem_mem _)) k

/-- What a range tells. -/
structure Rng (n : Int) (ls : List (List Cl)) (f t : List UInt8) (L : List Pq) : Prop where
  rise : Rise L
  stb : ∃ U, All ls U ∧ Stb (btw f t U) L
theorem rng_of {n : Int} {ls : List (List Cl)} {f t : List UInt8} {X L : List Pq} (hc : Cat f t ls X) (hr : Rise L) (hs : Stb X L) : Rng n ls f t L := by
  obtain ⟨U, hU, rfl⟩ := hc.all
  exact ⟨hr, U, hU, hs⟩
theorem Rng.mem {n : Int} {ls : List (List Cl)} (hh : HomeOk n ls) {f t : List UInt8} {L : List Pq} (h : Rng n ls f t L) {x : Pq} (hx : x ∈ L) : ¬ x.1 < f ∧ ¬ t < x.1 ∧ ∃ hi : (homeI x.1 n).toNat < ls.length, getL ls[(homeI x.1 n).toNat] x.1 = some x.2 := by
  obtain ⟨U, hU, hs⟩ := h.stb
  have hb := (hs.mem x).2 hx
  unfold btw at hb
  rw [List.mem_filter] at hb
  obtain ⟨i, hi, hxi⟩ := hU.mem hb.1
  have e := hh.2 i hi x hxi
  have hb2 := hb.2
  simp only [Bool.and_eq_true, Bool.not_eq_true', decide_eq_false_iff_not] at hb2
  refine ⟨hb2.1, hb2.2, by omega, ?_⟩
  have e' : (homeI x.1 n).toNat = i := by omega
  simp only [e']
  exact (get_mem (hh.1 _ (List.getElem_mem hi)) x.1 x.2).2 hxi
theorem Rng.strict {n : Int} {ls : List (List Cl)} (hh : HomeOk n ls) {f t : List UInt8} {L : List Pq} (h : Rng n ls f t L) (i : Nat) (hi : i + 1 < L.length) : L[i].1 < L[i + 1].1 := by
  obtain ⟨U, hU, hs⟩ := h.stb
  have h1 := List.pairwise_iff_getElem.1 h.rise i (i + 1) (by omega) hi (by omega)
  refine Decidable.byContradiction fun hn => ?_
  have e : L[i].1 = L[i + 1].1 := List.le_antisymm (List.not_lt.1 h1) (List.not_lt.1 hn)
  have hf := hs L[i].1
  rw [fk_btw] at hf
  have hlen : (fk L[i].1 L).length ≤ 1 := by
    rw [← hf]
    split
    · exact hU.one hh _
    · simp
  have hL := list_at2 L i hi
  have h2 : 2 ≤ (fk L[i].1 L).length := by
    generalize hx : L[i] = x at *
    generalize hy : L[i + 1] = y at *
    have : fk x.1 (x :: y :: L.drop (i + 2)) = x :: y :: fk x.1 (L.drop (i + 2)) := by simp [fk, ← e]
    rw [hL, fk_append, this]
    simp only [List.length_append, List.length_cons]
    omega
  omega
/-- A range is put together of two that meet. -/
theorem Rng.join {n : Int} {ls : List (List Cl)} (hh : HomeOk n ls) {a b c : List UInt8} (hac : ¬ c < a) (hcb : ¬ b < c) {L M K : List Pq} (hL : Rng n ls a b L) (hM : Rng n ls a c M) (hK : Rng n ls c b K) :
    (∀ x K', K = x :: K' → x.1 = c → L = M ++ K') ∧ ((∀ x K', K = x :: K' → x.1 ≠ c) → L = M ++ K) := by
  obtain ⟨U, hU, s1⟩ := hL.stb
  obtain ⟨U2, hU2, s2⟩ := hM.stb
  obtain ⟨U3, hU3, s3⟩ := hK.stb
  obtain rfl := All.uniq hh.1 hU hU2
  obtain rfl := All.uniq hh.1 hU hU3
  have key : ∀ K', Rise K' → (∀ x ∈ K', c < x.1) → (∀ k, c < k → fk k K' = fk k K) → L = M ++ K' := by
    intro K' hr hgt hsame
    refine stb_uniq _ _ (fun k => ?_) hL.rise (rise_append.2 ⟨hM.rise, hr, fun u hu v hv => ?_⟩)
    · rw [fk_append, ← s1 k, ← s2 k, fk_btw, fk_btw]
      by_cases hk : c < k
      · have n1 : ¬ k < a := fun h => hac (List.lt_trans hk h)
        rw [hsame k hk, ← s3 k, fk_btw]
        have e2 : (if ¬ k < a ∧ ¬ c < k then fk k U else []) = [] := if_neg (fun h => h.2 hk)
        rw [e2, List.nil_append]
        by_cases hb : b < k
        · rw [if_neg (fun h => h.2 hb), if_neg (fun h => h.2 hb)]
        · rw [if_pos ⟨n1, hb⟩, if_pos ⟨lt_asymm' hk, hb⟩]
      · have e : fk k K' = [] := fk_nil fun x hx e => hk (by rw [← e]; exact hgt x hx)
        rw [e, List.append_nil]
        have hb : ¬ b < k := not_lt_trans hk hcb |> fun h => h
        by_cases ha : k < a
        · rw [if_neg (fun h => h.1 ha), if_neg (fun h => h.1 ha)]
        · rw [if_pos ⟨ha, hb⟩, if_pos ⟨ha, hk⟩]
    · have h1 := (hM.mem hh hu).2.1
      exact fun h => h1 (List.lt_trans (hgt v hv) h)
  have hge : ∀ x ∈ K, ¬ x.1 < c := fun x hx => (hK.mem hh hx).1
  constructor
  · rintro x K' rfl hx
    have hr := hK.rise
    rw [Rise, List.pairwise_cons] at hr
    refine key K' hr.2 (fun y hy => ?_) (fun k hk => ?_)
    · obtain ⟨i, hi, rfl⟩ := List.getElem_of_mem hy
      have h0l : 0 < K'.length := by omega
      have h0 := hK.strict hh 0 (by simp; omega)
      have h1 : x.1 < K'[0].1 := by simpa using h0
      have hle : ¬ K'[i].1 < K'[0].1 := by
        by_cases e : i = 0
        · subst e; exact List.lt_irrefl _
        · exact List.pairwise_iff_getElem.1 hr.2 0 i h0l hi (by omega)
      rw [← hx]
      exact lt_of_not_lt h1 hle
    · have : x.1 ≠ k := by rw [hx]; rintro rfl; exact List.lt_irrefl _ hk
      simp [fk, this]
  · intro hne
    refine key K hK.rise (fun y hy => ?_) (fun k _ => rfl)
    cases K with
    | nil => simp at hy
    | cons x K' =>
      have h1 := hge x (List.mem_cons_self ..)
      have h2 := hne x K' rfl
      have h3 : c < x.1 := Decidable.byContradiction fun h3 => h2 (List.le_antisymm (List.not_lt.1 h3) (List.not_lt.1 h1))
      have hr := hK.rise
      rw [Rise, List.pairwise_cons] at hr
      rcases List.mem_cons.1 hy with rfl | hy
      · exact h3
      · exact lt_of_not_lt h3 (hr.1 y hy)
theorem HomeOk.ins {n : Int} {ls : List (List Cl)} (h : HomeOk n ls) (k v : List UInt8) (hi : (homeI k n).toNat < ls.length) : HomeOk n (ls.set (homeI k n).toNat (insL ls[(homeI k n).toNat] k v).1) := by
  refine ⟨fun l hl => ?_, fun i hi' x hx => ?_⟩
  · rcases List.mem_or_eq_of_mem_set hl with h1 | rfl
    · exact h.1 l h1
    · exact ins_good (h.1 _ (List.getElem_mem hi)) k v
  · have hil : i < ls.length := by simpa using hi'
    by_cases e : i = (homeI k n).toNat
    · subst e
      rw [List.getElem_set_self] at hx
      by_cases ho : (insL ls[(homeI k n).toNat] k v).2 = 0
      · rcases List.mem_cons.1 ((ins_prs ho).mem_iff.1 hx) with rfl | hx
        · have := (homeI_in k n).1
          show homeI k n = _
          omega
        · exact h.2 _ hi x hx
      · rw [ins_err ho] at hx
        exact h.2 _ hi x hx
    · rw [List.getElem_set_ne (by omega)] at hx
      exact h.2 i hil x hx
end Go.Proofs.YtebchgoaelamcaaDoor
