/-
  Who crashed: what is left; two arrays of what there was.
-/
import Derived.Test.YtdlanenbbmnbhaaMb
import Derived.Test.YtdlanenbbmnbhaaBc
import Derived.Test.YtdlanenbbmnbhaaCj
import Derived.Test.YtdlanenbbmnbhaaCs
namespace Go.Proofs.Ytdlanenbbmnbhaa
open Go.RowKit

theorem fail_none {l : List Lf} {k : Int} (h : instB k = false) : failL l k = l ∧ hasL l k = [] := by
  unfold failL hasL
  rw [h]
  simp
theorem fail_get {l : List Lf} {k : Int} (h : instB k = true) (i : Nat) (hi : i < l.length) : (failL l k)[i]? = some (failF k l[i]) := by
  unfold failL
  rw [if_pos h, List.getElem?_map, List.getElem?_eq_getElem hi]
  rfl
/-- What a page is behind a crash, to who looks. -/
theorem fail_look {l : List Lf} (hok : BkOk l) (k : Int) (i : Nat) (hi : i < l.length) : ∃ x, (failL l k)[i]? = some x ∧ ((((i : Int) ∈ hasL l k) ∧ x.owner = 0 ∧ x.lost = true) ∨ (((i : Int) ∉ hasL l k) ∧ x.owner = l[i].owner)) ∧
    ((instB k = true ∧ x.ws = l[i].ws.filter (· != k)) ∨ (instB k = false ∧ x.ws = l[i].ws)) := by
  cases hk : instB k
  · obtain ⟨h1, h2⟩ := fail_none (l := l) hk
    rw [h1, h2]
    exact ⟨l[i], List.getElem?_eq_getElem hi, .inr ⟨by simp, rfl⟩, .inr ⟨rfl, rfl⟩⟩
  · refine ⟨_, fail_get hk i hi, ?_, .inl ⟨rfl, ?_⟩⟩
    · by_cases ho : l[i].owner = k
      · left
        refine ⟨hasL_mem.2 ⟨hk, i, hi, rfl, ho⟩, ?_, ?_⟩ <;> · unfold failF; rw [if_pos ho]; rfl
      · right
        refine ⟨fun e => ?_, by unfold failF; rw [if_neg ho]; rfl⟩
        obtain ⟨-, j, hj, e1, e2⟩ := hasL_mem.1 e
        obtain rfl : i = j := by omega
        exact ho e2
    · have hn := (hok.at hi).nodup
      unfold failF
      split
      · simp only [quitF, leaveF]; exact hn.erase_eq_filter k
      · simp only [quitF]; exact hn.erase_eq_filter k
theorem fail_has {l : List Lf} (k : Int) : hasL (failL l k) k = [] := by
  cases hk : instB k
  · unfold hasL; rw [hk]; simp
  · refine List.eq_nil_iff_forall_not_mem.2 fun x hx => ?_
    obtain ⟨-, i, hi, -, e2⟩ := hasL_mem.1 hx
    have hi' : i < l.length := by rw [fail_len] at hi; exact hi
    have h1 := fail_get hk i hi'
    rw [List.getElem?_eq_getElem hi] at h1
    injection h1 with h1
    rw [h1] at e2
    have hk1 := (inst_iff.1 hk).1
    unfold failF at e2
    split at e2
    · simp only [quitF, leaveF] at e2; omega
    · rename_i hno; exact hno e2
/-- A page that is lost is given to nobody. -/
theorem need_lost {l : List Lf} (hok : BkOk l) (i : Nat) (hi : i < l.length) (hl : l[i].lost = true) : (needL l (i : Int) 8).2.1 = [] ∧ ((needL l (i : Int) 8).2.2 = 0 ∨ (needL l (i : Int) 8).2.2 = 9) ∧ (lfAt (needL l (i : Int) 8).1 (i : Int)).owner = 0 ∧ ∀ j, j ≠ i → (needL l (i : Int) 8).1[j]? = l[j]? := by
  have h0 := (hok.at hi).lost hl
  have hk : instB 8 = true := by decide
  by_cases h2 : l[i].owner = 8 ∨ (8 : Int) ∈ l[i].ws
  · rw [need_twice hi hk h2]
    exact ⟨rfl, .inr rfl, by rw [lfAt_yes hi]; exact h0, fun j _ => rfl⟩
  · rw [need_good hi hk h2]
    have hs : serveF (i : Int) (withF 8 l[i]) = (withF 8 l[i], []) := by
      have hg : giveF (i : Int) (withF 8 l[i]) = (withF 8 l[i], []) := by unfold giveF; rw [if_pos (.inl hl)]
      unfold serveF
      rw [hg]
      simp only
      have hc : callF (i : Int) (withF 8 l[i]) = (withF 8 l[i], []) := by unfold callF; rw [if_pos (.inl h0)]
      rw [hc]
      rfl
    rw [hs]
    refine ⟨rfl, .inl rfl, ?_, fun j hj => ?_⟩
    · simp only
      rw [lfAt_yes (by simpa using hi)]
      simp only [List.getElem_set_self]
      exact h0
    · simp only [List.getElem?_set]
      rw [if_neg (fun e => hj e.symm)]

/-- Two arrays of what there was. -/
structure Ar2 (w : World) (q g1 g2 n : Nat) (l : List Lf) : Prop where
  t1 : ∃ M, w.heap[g1]? = some (.cells M 37)
  t2 : ∃ M, w.heap[g2]? = some (.cells M 55)
  e1 : ∀ j, j < 16 → ∃ u, w.cell? ⟨g1, j, none⟩ = some u
  e2 : ∀ j, j < 16 → ∃ u, w.cell? ⟨g2, j, none⟩ = some u
  ow : ∀ j (hj : j < l.length), j < n → w.cell? ⟨g1, j, none⟩ = some (.int .i64 l[j].owner)
  wa : ∀ j (hj : j < l.length), j < n → ∃ a c, w.cell? ⟨g2, j, none⟩ = some (.slice a l[j].ws.length c) ∧ SlI w a l[j].ws ∧ ∀ x, a = some x → x.block ≠ q
theorem Ar2.one {w w' : World} {q g1 g2 n : Nat} {l : List Lf} (h : Ar2 w q g1 g2 n l) (ho : One q w w') (h1 : g1 ≠ q) (h2 : g2 ≠ q) : Ar2 w' q g1 g2 n l := by
  obtain ⟨M1, hM1⟩ := h.t1
  obtain ⟨M2, hM2⟩ := h.t2
  refine ⟨⟨M1, by rw [ho.block _ (blk_lt hM1) h1]; exact hM1⟩, ⟨M2, by rw [ho.block _ (blk_lt hM2) h2]; exact hM2⟩, fun j hj => by rw [ho.cell (blk_lt hM1) h1]; exact h.e1 j hj, fun j hj => by rw [ho.cell (blk_lt hM2) h2]; exact h.e2 j hj, fun j hj hn => by rw [ho.cell (blk_lt hM1) h1]; exact h.ow j hj hn, fun j hj hn => ?_⟩
  obtain ⟨a, c, c1, c2, c3⟩ := h.wa j hj hn
  exact ⟨a, c, by rw [ho.cell (blk_lt hM2) h2]; exact c1, c2.one ho c3, c3⟩
theorem Ar2.below {w w' : World} {q g1 g2 n : Nat} {l : List Lf} (h : Ar2 w q g1 g2 n l) (hb : Below w.heap.size w w') (h1 : g1 ≠ q) (h2 : g2 ≠ q) : Ar2 w' q g1 g2 n l := h.one (One.of hb) h1 h2
theorem Ar2.fr {w : World} {q g1 g2 n : Nat} {l : List Lf} (h : Ar2 w q g1 g2 n l) (j : Nat) : w.frozen? ⟨g1, j, none⟩ = false ∧ w.frozen? ⟨g2, j, none⟩ = false := by
  obtain ⟨M1, hM1⟩ := h.t1
  obtain ⟨M2, hM2⟩ := h.t2
  exact ⟨by simp [World.frozen?, hM1], by simp [World.frozen?, hM2]⟩
theorem sl_cell {w : World} {a : Option Addr} {l : List Int} {g j T : Nat} {M : Array Value} {u : Value} (h : SlI w a l) (hg : w.heap[g]? = some (.cells M T)) (hT : T ≠ 3) : SlI (w.setCell ⟨g, j, none⟩ u) a l := by
  by_cases hl : l = []
  · subst hl; exact SlI.nil _ _
  · refine h.one ((One.refl g w).set j u) (fun x hx e => ?_)
    obtain ⟨M2, hM2⟩ := h.typ x hx hl
    rw [e, hg] at hM2
    simp at hM2
    exact hT hM2.2
theorem Ar2.set {w : World} {q g1 g2 n : Nat} {l : List Lf} (h : Ar2 w q g1 g2 n l) (hn : n < l.length) (hm : l.length ≤ 16) (a : Option Addr) (c : Nat) (hs : SlI w a l[n].ws) (ha : ∀ x, a = some x → x.block ≠ q) :
    Ar2 ((w.setCell ⟨g1, n, none⟩ (.int .i64 l[n].owner)).setCell ⟨g2, n, none⟩ (.slice a l[n].ws.length c)) q g1 g2 (n + 1) l := by
  obtain ⟨M1, hM1⟩ := h.t1
  obtain ⟨M2, hM2⟩ := h.t2
  have hne : g1 ≠ g2 := fun e => by rw [e, hM2] at hM1; simp at hM1
  have k2 : (w.setCell ⟨g1, n, none⟩ (.int .i64 l[n].owner)).heap[g2]? = some (.cells M2 55) := by rw [heap_setCell_other _ _ _ _ (fun e => hne e.symm)]; exact hM2
  obtain ⟨u1, hu1⟩ := h.e1 n (by omega)
  obtain ⟨u2, hu2⟩ := h.e2 n (by omega)
  have hs2 : ∀ (b : Option Addr) (r : List Int), SlI w b r → SlI ((w.setCell ⟨g1, n, none⟩ (.int .i64 l[n].owner)).setCell ⟨g2, n, none⟩ (.slice a l[n].ws.length c)) b r := fun b r hb => sl_cell (sl_cell hb hM1 (by decide)) k2 (by decide)
  have o1 : ∀ j, j ≠ n → ((w.setCell ⟨g1, n, none⟩ (.int .i64 l[n].owner)).setCell ⟨g2, n, none⟩ (.slice a l[n].ws.length c)).cell? ⟨g1, j, none⟩ = w.cell? ⟨g1, j, none⟩ := fun j hj => by
    rw [World.cell?_setCell_other (h := by simp; try omega), World.cell?_setCell_other (h := by simp; try omega)]
  have s1 : ((w.setCell ⟨g1, n, none⟩ (.int .i64 l[n].owner)).setCell ⟨g2, n, none⟩ (.slice a l[n].ws.length c)).cell? ⟨g1, n, none⟩ = some (.int .i64 l[n].owner) := by
    rw [World.cell?_setCell_other (h := by simp; try omega)]
    exact World.cell?_setCell_same _ _ _ hu1
  have o2 : ∀ j, j ≠ n → ((w.setCell ⟨g1, n, none⟩ (.int .i64 l[n].owner)).setCell ⟨g2, n, none⟩ (.slice a l[n].ws.length c)).cell? ⟨g2, j, none⟩ = w.cell? ⟨g2, j, none⟩ := fun j hj => by
    rw [World.cell?_setCell_other (h := by simp; try omega), World.cell?_setCell_other (h := by simp; try omega)]
  have s2 : ((w.setCell ⟨g1, n, none⟩ (.int .i64 l[n].owner)).setCell ⟨g2, n, none⟩ (.slice a l[n].ws.length c)).cell? ⟨g2, n, none⟩ = some (.slice a l[n].ws.length c) :=
    World.cell?_setCell_same _ _ _ (by rw [World.cell?_setCell_other (h := by simp; try omega)]; exact hu2)
  refine ⟨⟨_, by rw [heap_setCell_other _ _ _ _ hne]; exact heap_setCell_same w g1 n M1 37 _ hM1⟩, ⟨_, heap_setCell_same _ g2 n M2 55 _ k2⟩, fun j hj => ?_, fun j hj => ?_, fun j hj hjn => ?_, fun j hj hjn => ?_⟩
  · by_cases e : j = n
    · subst e; exact ⟨_, s1⟩
    · rw [o1 j e]; exact h.e1 j hj
  · by_cases e : j = n
    · subst e; exact ⟨_, s2⟩
    · rw [o2 j e]; exact h.e2 j hj
  · by_cases e : j = n
    · subst e; exact s1
    · rw [o1 j e]; exact h.ow j hj (by omega)
  · by_cases e : j = n
    · subst e; exact ⟨a, c, s2, hs2 _ _ hs, ha⟩
    · obtain ⟨b, d, c1, c2, c3⟩ := h.wa j hj (by omega)
      exact ⟨b, d, by rw [o2 j e]; exact c1, hs2 _ _ c2, c3⟩
theorem Bk.cell {w : World} {p q g j T : Nat} {l : List Lf} {M : Array Value} {u : Value} (h : Bk w p q l) (hg : w.heap[g]? = some (.cells M T)) (hT : T ≠ 3) (hp : g ≠ p) (hq : g ≠ q) : Bk (w.setCell ⟨g, j, none⟩ u) p q l :=
  h.other g (fun M2 e => by rw [hg] at e; simp at e; exact hT e.2) hp hq ((One.refl g w).set j u)
end Go.Proofs.Ytdlanenbbmnbhaa
