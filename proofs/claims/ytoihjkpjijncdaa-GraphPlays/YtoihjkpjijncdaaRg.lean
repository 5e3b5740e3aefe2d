/-
  The document's Drop and Gone.
-/
import Derived.Test.YtoihjkpjijncdaaRf
namespace Go.Proofs.Ytoihjkpjijncdaa
open Go.RowKit Go.Maps

theorem cut_at {m : List (Int × Int)} (hn : m.Nodup) {i : Nat} {e : Int × Int} (h : m[i]? = some e) : (m.take i ++ m.drop (i + 1)).map leE = dropE (m.map leE) (leE e) := by
  obtain ⟨hi, h1⟩ := List.getElem?_eq_some_iff.1 h
  have hm : m = m.take i ++ e :: m.drop (i + 1) := by
    conv => lhs; rw [← List.take_append_drop i m, List.drop_eq_getElem_cons hi, h1]
  have hn2 := hn
  rw [hm] at hn2
  obtain ⟨_, h3, h4⟩ := List.nodup_append.1 hn2
  obtain ⟨h5, _⟩ := List.nodup_cons.1 h3
  have ht : ∀ u, u ∈ m.take i → u ≠ e := fun u hu he => h4 u hu e (by simp) he
  have hd : ∀ u, u ∈ m.drop (i + 1) → u ≠ e := fun u hu he => h5 (he ▸ hu)
  unfold dropE
  conv => rhs; rw [hm]
  rw [List.map_append, List.map_append, List.map_cons, List.filter_append, List.filter_cons_of_neg (by simp)]
  congr 1
  · symm
    refine List.filter_eq_self.2 fun z hz => decide_eq_true fun he => ?_
    obtain ⟨u, hu, rfl⟩ := List.mem_map.1 hz
    exact ht u hu (leE_inj he)
  · symm
    refine List.filter_eq_self.2 fun z hz => decide_eq_true fun he => ?_
    obtain ⟨u, hu, rfl⟩ := List.mem_map.1 hz
    exact hd u hu (leE_inj he)
theorem eC_drop (m : List (Int × Int)) (k : Nat) : (m.drop k).flatMap eC = (m.flatMap eC).drop (k * 2) := by
  induction k generalizing m with
  | zero => simp
  | succ k ih =>
    cases m with
    | nil => simp
    | cons a r =>
      rw [List.drop_succ_cons, ih, List.flatMap_cons, show (k + 1) * 2 = k * 2 + 1 + 1 by omega]
      simp [eC]
theorem eC_take (m : List (Int × Int)) (k : Nat) : (m.take k).flatMap eC = (m.flatMap eC).take (k * 2) := by
  induction k generalizing m with
  | zero => simp
  | succ k ih =>
    cases m with
    | nil => simp
    | cons a r =>
      rw [List.take_succ_cons, List.flatMap_cons, List.flatMap_cons, ih, show (k + 1) * 2 = k * 2 + 1 + 1 by omega]
      simp [eC]
theorem row_cells {W : World} {B g n c : Nat} {xs : List Value} (h : W.ownsRow B 27 2 (.slice (some ⟨g, 0, none⟩) n c) n xs) (k : Nat) : ∀ j u, (xs.drop k)[j]? = some u → W.cell? ((⟨g, k, none⟩ : Addr).add j) = some u := by
  intro j u hj
  rw [List.getElem?_drop] at hj
  have := h.cells (g := g) rfl (k + j) u hj
  unfold Addr.add at *
  by_cases h1 : k + j = 0
  · have h2 : k = 0 := by omega
    have h3 : j = 0 := by omega
    subst h2 h3
    simpa using this
  · by_cases h3 : j = 0
    · subst h3
      simp at h1
      simpa [h1] using this
    · simpa [h1, h3] using this
theorem row_prefix {W : World} {B g n c : Nat} {xs : List Value} (h : W.ownsRow B 27 2 (.slice (some ⟨g, 0, none⟩) n c) n xs) (k : Nat) : ∀ j u, (xs.take k)[j]? = some u → W.cell? ((⟨g, 0, none⟩ : Addr).add j) = some u := by
  intro j u hj
  refine h.cells (g := g) rfl j u ?_
  have hl := (List.getElem?_eq_some_iff.1 hj).1
  rw [List.getElem?_take_of_lt (by simp at hl; omega)] at hj
  exact hj

set_option maxRecDepth 100000 in
set_option maxHeartbeats 2000000 in
theorem refDrop {w : World} {B c : Nat} {va : Option Addr} {m : List (Int × Int)} (hR : w.ownsRow B 27 2 (.slice va m.length c) m.length (m.flatMap eC)) (hwf : ∀ e, e ∈ m → (Lit.int .i64 e.1).wf = true ∧ (Lit.int .i64 e.2).wf = true) (hB : B ≤ w.heap.size) (hm : m.length ≤ 1000) (hnd : m.Nodup) (x y : Int) :
    Calls Try.prog 12 #[.slice va m.length c, .agg #[.int .i64 x, .int .i64 y]] w fun e w' => ∃ (va' : Option Addr) (c' : Nat) (m' : List (Int × Int)), e = .returned (.tuple #[.slice va' m'.length c', .bool (decide ((x, y) ∈ m))]) ∧ w'.ownsRow B 27 2 (.slice va' m'.length c') m'.length (m'.flatMap eC) ∧ m'.map leE = dropE (m.map leE) (leE (x, y)) ∧ (∀ e, e ∈ m' → e ∈ m) ∧ m'.length ≤ m.length ∧ Below w.heap.size w w' := by
  obtain ⟨j0, hj0, hy0, hy1, hy2⟩ := info_parts inf27
  obtain ⟨w0, hw0⟩ : ∃ w0, w0 = w.alloc (.cells #[.int .i64 x, .int .i64 y] 27) := ⟨_, rfl⟩
  have hblk : w0.heap[w.heap.size]? = some (.cells #[.int .i64 x, .int .i64 y] 27) := by rw [hw0]; exact (MapKept.heap_alloc _ _).1
  have hs0 : w0.heap.size = w.heap.size + 1 := by rw [hw0]; simp
  have HB0 : Hid (Below w.heap.size w w0) := by rw [hw0]; exact (Below.refl _ _).alloc (Nat.le_refl _) _
  have HR := toHid (seen_below hR HB0.out)
  have hal := toHid hw0
  have HLow : Hid (∀ W, Below w0.heap.size w0 W → Below w.heap.size w W) := fun W hW => below_trans HB0.out ⟨hW.os, hW.tape, hW.output, hW.size, fun j hj => hW.block j (by omega)⟩
  have HSl := toHid (sle_row HR.out hwf)
  have HAt := toHid (at25x (c := c) HSl.out (by omega) x y)
  rw [hw0] at HAt
  have d0 : w0.cell? ⟨w.heap.size, 0, none⟩ = some (.int .i64 x) := by simp [World.cell?, hblk]
  have d1 : w0.cell? ⟨w.heap.size, 1, none⟩ = some (.int .i64 y) := by simp [World.cell?, hblk]
  rw [hw0] at d0 d1
  have HND := toHid hnd
  clear hR hblk hw0 hwf hnd
  go_enter Try.func12, Try.ntmps12
  go_wp2_with fail
  refine HAt.out.mono ?_
  rw [← hal.out]
  clear d0 d1
  rintro e w1 ⟨hb1, he⟩
  have HB1 := toHid hb1
  have HR1 := toHid (seen_below HR.out hb1)
  rcases he with ⟨hno, rfl⟩ | ⟨i, hi, hig, rfl⟩
  · have HDr : Hid (dropE (m.map leE) (leE (x, y)) = m.map leE) := dropE_no (fun h => hno (by obtain ⟨u, hu, h1⟩ := List.mem_map.1 h; rw [← leE_inj h1]; exact hu))
    have HDec : Hid (decide ((x, y) ∈ m) = false) := decide_eq_false hno
    clear hno hb1
    go_wp2_with fail
    go_ret2
    exact ⟨va, c, m, by rw [HDec.out]; rfl, HR1.out, HDr.out.symm, fun e he => he, Nat.le_refl _, HLow.out _ HB1.out⟩
  · have HDr := toHid (cut_at HND.out hig)
    have HDec : Hid (decide ((x, y) ∈ m) = true) := decide_eq_true (List.mem_of_getElem? hig)
    have hi2 : 0 ≤ (i : Int) := by omega
    have hi3 : ¬ (i : Int) < 0 := by omega
    obtain ⟨g, rfl, hcap⟩ : ∃ g, va = some ⟨g, 0, none⟩ ∧ m.length ≤ c := by
      rcases HR.out.2 with ⟨h, h0⟩ | ⟨g, cap, cur, h, _, _, h4, _⟩
      · rw [h0] at hi; omega
      · injection h with h1 _ h3; exact ⟨g, h1, by omega⟩
    have hi4 : (i : Int) ≤ (c : Int) := by omega
    have hi5 : (i : Int) + 1 ≤ (m.length : Int) := by omega
    have hi6 : 0 ≤ (i : Int) + 1 := by omega
    have hi7 : (m.length : Int) ≤ (c : Int) := by omega
    clear hig hb1
    by_cases hce : c = i + 1
    · subst hce
      have tok1 : True := trivial
      go_wp2_with (first
        | (at_builtin; have _t := tok1; refine wpList_append_own _ rfl _ _ 25 rfl w.heap.size 27 j0 _ 2 16 Try.underlying25 hj0 hy0 hy1 hy2 rfl (by decide) (.slice none 0 0) 0 [] rfl (World.ownsRow_nil _ _ _ _) ⟨g, 0, none⟩ i (i + 1) ((m.flatMap eC).take (i * 2)) rfl (by rw [List.length_take, eC_len]; omega) (row_prefix HR1.out (i * 2)) (fun u hu => eC_one m u (List.mem_of_mem_take hu)) (by unfold maxLen; omega) (by omega) (by have := HB1.out.size; omega) ?_; intro v2 w2 hown2 hgrow2 _; have hbe := HB1.out.grown hgrow2 HB1.out.size (fun j hj => by cases hj); have HB2 := toHid hbe; have HR2 := toHid hown2; have HS2 := toHid (seen_below HR1.out ⟨hgrow2.os, hgrow2.tape, hgrow2.output, hgrow2.size, fun j hj => hgrow2.block j hj (by simp [Value.ownBlock])⟩); clear hown2 hgrow2 hbe tok1)
        | (at_builtin; refine wpList_append_own _ rfl _ _ 25 rfl w.heap.size 27 j0 _ 2 16 Try.underlying25 hj0 hy0 hy1 hy2 rfl (by decide) v2 (0 + i) _ rfl HR2.out ⟨g, 0, none⟩ 0 0 [] rfl rfl (fun j u hj => by simp at hj) (fun u hu => by simp at hu) (by unfold maxLen; omega) (by omega) (by have := HB2.out.size; omega) ?_; intro v7 w7 hown7 hgrow7 _)
        | fail)
      have hlen : (m.take i ++ m.drop (i + 1)).length = 0 + i + 0 := by simp; omega
      obtain ⟨va7, vc7, hv7⟩ : ∃ a c, v7 = .slice a (0 + i + 0) c := by
        rcases hown7.2 with ⟨h1, h0⟩ | ⟨g, cap, cur, rfl, _⟩
        · exact ⟨none, 0, by rw [h1, h0]⟩
        · exact ⟨_, _, rfl⟩
      subst hv7
      go_ret2
      refine ⟨va7, vc7, m.take i ++ m.drop (i + 1), by rw [HDec.out, hlen]; rfl, own_weak hB ?_, HDr.out, fun a b he => (List.mem_append.1 he).elim List.mem_of_mem_take List.mem_of_mem_drop, by omega, ?_⟩
      · have hdr : m.drop (i + 1) = [] := List.drop_of_length_le (by omega)
        rw [hlen, List.flatMap_append, eC_take, hdr]
        simpa using hown7
      · exact (HLow.out _ HB2.out).grown hgrow7 (HLow.out _ HB2.out).size (fun j hj => (HR2.out.lt j hj).1)
    · have hce2 : ¬ (c = i + 1) := hce
      have tok1 : True := trivial
      go_wp2_with (first
        | (at_builtin; have _t := tok1; refine wpList_append_own _ rfl _ _ 25 rfl w.heap.size 27 j0 _ 2 16 Try.underlying25 hj0 hy0 hy1 hy2 rfl (by decide) (.slice none 0 0) 0 [] rfl (World.ownsRow_nil _ _ _ _) ⟨g, 0, none⟩ i c ((m.flatMap eC).take (i * 2)) rfl (by rw [List.length_take, eC_len]; omega) (row_prefix HR1.out (i * 2)) (fun u hu => eC_one m u (List.mem_of_mem_take hu)) (by unfold maxLen; omega) (by omega) (by have := HB1.out.size; omega) ?_; intro v2 w2 hown2 hgrow2 _; have hbe := HB1.out.grown hgrow2 HB1.out.size (fun j hj => by cases hj); have HB2 := toHid hbe; have HR2 := toHid hown2; have HS2 := toHid (seen_below HR1.out ⟨hgrow2.os, hgrow2.tape, hgrow2.output, hgrow2.size, fun j hj => hgrow2.block j hj (by simp [Value.ownBlock])⟩); clear hown2 hgrow2 hbe tok1)
        | (at_builtin; refine wpList_append_own _ rfl _ _ 25 rfl w.heap.size 27 j0 _ 2 16 Try.underlying25 hj0 hy0 hy1 hy2 rfl (by decide) v2 (0 + i) _ rfl HR2.out ⟨g, (i + 1) * 2, none⟩ (m.length - (i + 1)) (c - (i + 1)) ((m.flatMap eC).drop ((i + 1) * 2)) rfl (by rw [List.length_drop, eC_len]; omega) (row_cells HS2.out ((i + 1) * 2)) (fun u hu => eC_one m u (List.mem_of_mem_drop hu)) (by unfold maxLen; omega) (by omega) (by have := HB2.out.size; omega) ?_; intro v7 w7 hown7 hgrow7 _)
        | fail)
      have hlen : (m.take i ++ m.drop (i + 1)).length = 0 + i + (m.length - (i + 1)) := by simp; omega
      obtain ⟨va7, vc7, hv7⟩ : ∃ a c, v7 = .slice a (0 + i + (m.length - (i + 1))) c := by
        rcases hown7.2 with ⟨h1, h0⟩ | ⟨g, cap, cur, rfl, _⟩
        · exact ⟨none, 0, by rw [h1, h0]⟩
        · exact ⟨_, _, rfl⟩
      subst hv7
      go_ret2
      refine ⟨va7, vc7, m.take i ++ m.drop (i + 1), by rw [HDec.out, hlen]; rfl, own_weak hB ?_, HDr.out, fun a b he => (List.mem_append.1 he).elim List.mem_of_mem_take List.mem_of_mem_drop, by omega, ?_⟩
      · rw [hlen, List.flatMap_append, eC_take, eC_drop]
        simpa using hown7
      · exact (HLow.out _ HB2.out).grown hgrow7 (HLow.out _ HB2.out).size (fun j hj => (HR2.out.lt j hj).1)
end Go.Proofs.Ytoihjkpjijncdaa
