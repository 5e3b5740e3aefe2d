/-
  The document's book: Fail (28).
-/
import Derived.Test.YtdlanenbbmnbhaaEe
import Derived.Test.YtdlanenbbmnbhaaCj
import Derived.Deep.CutBlock
namespace Go.Proofs.Ytdlanenbbmnbhaa
open Go.RowKit

/-- A row that another one grew into lies where it lay, or is new. -/
def Fresh (w : World) (v v' : Value) : Prop := ∀ k, v'.ownBlock = some k → v.ownBlock = some k ∨ w.heap.size ≤ k

theorem Fresh.refl (w : World) (v : Value) : Fresh w v v := fun _ h => .inl h

theorem run_append_fresh {P : Program} (w : World) (base : Nat) (t ty e : TypeId) (i : TypeInfo) (z : Value) (size bytes : Nat) (ht : P.underlying t = some (.slice e)) (hi : P.info? e = some i) (hz : i.zero = some z)
    (hsize : i.size = size) (hby : i.bytes = bytes) (hzs : z.cells.size = size) (hsz : 0 < size)
    (v : Value) (n : Nat) (xs : List Value) (hown : w.ownsRow base e size v n xs)
    (a : Addr) (m c : Nat) (news : List Value) (hl : news.length = m * size) (hnews : ∀ j u, news[j]? = some u → w.cell? (a.add j) = some u) (h1 : ∀ u ∈ news, u.oneCell' = true)
    (h63 : n + m ≤ maxLen) (hbytes : (n + m) * bytes ≤ 140737488355328) (hbase : base ≤ w.heap.size) :
    ∃ v' w', (Builtin.append_ #[t, t] ty #[v, .slice (some a) m c]).run P w = .ok v' w' ∧ w'.ownsRow base e size v' (n + m) (xs ++ news) ∧ w.grownBy w' v.ownBlock ∧ Fresh w v v' := by
  obtain ⟨v', w', hr, h2, h3, h4⟩ := run_append_own (P := P) w base t ty e i z size bytes ht hi hz hsize hby hzs hsz v n xs hown a m c news hl hnews h1 h63 hbytes hbase
  refine ⟨v', w', hr, h2, h3, ?_⟩
  subst hsize
  subst hby
  rcases hown.2 with ⟨rfl, rfl⟩ | ⟨g, cap, cur, rfl, hbg, hg, hnc, hcm, hcs, htake⟩
  · by_cases hm : m = 0
    · rw [h4.mpr ⟨rfl, hm⟩]
      exact Fresh.refl _ _
    · have hx : xs = [] := List.eq_nil_of_length_eq_zero (by simpa using hown.1)
      subst hx
      have hr2 := run_append_nil (P := P) w t ty e i z ht hi hz a m c news hl hnews (by omega) (by simp only [maxLen] at h63; omega) (by have hb := hbytes; simp only [Nat.zero_add] at hb; omega)
      rw [hr] at hr2
      injection hr2 with e1 e2
      subst e1
      intro k hk
      simp [Value.ownBlock] at hk
      exact .inr (by omega)
  · by_cases hroom : n + m ≤ cap
    · have hfit : n * i.size + news.length ≤ cur.size := by rw [hl, hcs, ← Nat.add_mul]; exact Nat.mul_le_mul_right _ hroom
      have hr2 := run_append_room (P := P) w t ty e i ht hi g n cap cur hg a m c news hl hnews h1 hroom hfit
      rw [hr] at hr2
      injection hr2 with e1 e2
      subst e1
      intro k hk
      exact .inl hk
    · have holds : ∀ j u, xs[j]? = some u → w.cell? ((⟨g, 0, none⟩ : Addr).add j) = some u := hown.cells (g := g) rfl
      have hr2 := run_append_grow (P := P) w t ty e i z ht hi hz ⟨g, 0, none⟩ n cap xs hown.1 holds a m c news hl hnews (by omega) (by simp only [maxLen] at h63; omega) (growslice_fits (by omega) hbytes)
      rw [hr] at hr2
      injection hr2 with e1 e2
      subst e1
      intro k hk
      simp [Value.ownBlock] at hk
      exact .inr (by omega)


def failN (l : List Lf) (k : Int) (n : Nat) : List Lf := l.mapIdx fun i x => if i < n then failF k x else x
theorem failN_zero (l : List Lf) (k : Int) : failN l k 0 = l := by
  refine List.ext_getElem (by simp [failN]) fun i h1 h2 => ?_
  simp [failN]
theorem failN_len (l : List Lf) (k : Int) (n : Nat) : (failN l k n).length = l.length := by simp [failN]
theorem failN_at (l : List Lf) (k : Int) (n i : Nat) (hi : i < l.length) : (failN l k n)[i]'(by rw [failN_len]; exact hi) = if i < n then failF k l[i] else l[i] := by simp [failN]
theorem failN_succ (l : List Lf) (k : Int) (n : Nat) (hn : n < l.length) : failN l k (n + 1) = (failN l k n).set n (failF k l[n]) := by
  refine List.ext_getElem (by simp [failN]) fun i h1 h2 => ?_
  rw [failN_len] at h1
  rw [failN_at l k _ i h1, List.getElem_set, failN_at l k _ i h1]
  by_cases e : n = i
  · subst e; simp
  · rw [if_neg e]
    by_cases h : i < n
    · rw [if_pos h, if_pos (by omega)]
    · rw [if_neg h, if_neg (by omega)]
theorem failN_all (l : List Lf) (k : Int) : failN l k l.length = l.map (failF k) := by
  refine List.ext_getElem (by simp [failN]) fun i h1 h2 => ?_
  rw [failN_len] at h1
  rw [failN_at l k _ i h1, if_pos h1, List.getElem_map]
/-- The row that the document's filter leaves. -/
def leftI (k : Int) (l : List Int) : List Int := l.filter (fun y => y != k)
theorem leftI_snoc (k : Int) (l : List Int) {j : Nat} (hj : j < l.length) : leftI k (l.take (j + 1)) = if l[j] = k then leftI k (l.take j) else leftI k (l.take j) ++ [l[j]] := by
  unfold leftI
  rw [List.take_succ_eq_append_getElem hj, List.filter_append]
  by_cases h : l[j] = k
  · simp [h]
  · simp [h]
theorem leftI_len (k : Int) (l : List Int) : (leftI k l).length ≤ l.length := List.length_filter_le _ _
theorem leftI_erase {k : Int} {l : List Int} (h : l.Nodup) : leftI k l = l.erase k := (h.erase_eq_filter k).symm

/-- What Fail's loop holds. -/
structure Fl (w0 W : World) (v lv : Value) (L : List Pl) (P : List Int) : Prop where
  dl : Dl W v L
  own : W.ownsRow w0.heap.size 3 1 lv P.length (inVs P)
  off : ∀ g, lv.ownBlock = some g → ∀ t ∈ L, t.x.ws ≠ [] → ∀ x, t.a = some x → x.block ≠ g
  low : Below w0.heap.size w0 W
theorem Fl.below {w0 W W' : World} {v lv : Value} {L : List Pl} {P : List Int} (h : Fl w0 W v lv L P) (hb : Below W.heap.size W W') : Fl w0 W' v lv L P :=
  ⟨h.dl.below hb, own_below h.own hb, h.off, h.low.trans (hb.mono h.low.size)⟩
/-- The row of pages lost grows. -/
theorem run_lost (W : World) (ty : TypeId) {w0 : World} {v lv : Value} {L : List Pl} {P : List Int} (h : Fl w0 W v lv L P) (k : Int) (hl : P.length ≤ 100) :
    ∃ lv' w', (Builtin.append_ #[42, 42] ty #[lv, .slice (some ⟨W.heap.size, 0, none⟩) 1 1]).run Try.prog (W.alloc (.cells #[.int .i64 k] 3)) = .ok lv' w' ∧ Fl w0 w' v lv' L (P ++ [k]) ∧ W.grownBy w' lv.ownBlock ∧ Fresh W lv lv' := by
  obtain ⟨i, z, h2, h3, h4, h5, h6⟩ := info3
  have h' := h.below ((Below.refl W.heap.size W).alloc (Nat.le_refl _) (.cells #[.int .i64 k] 3))
  obtain ⟨v', w', hr, r1, r2, r3⟩ := run_append_fresh (P := Try.prog) (W.alloc (.cells #[.int .i64 k] 3)) w0.heap.size 42 ty 3 i z 1 8 Try.underlying42 h2 h3 h4 h5 h6 (by decide) lv P.length (inVs P) h'.own ⟨W.heap.size, 0, none⟩ 1 1 (inVs [k]) rfl (cell_new1 W (.int .i64 k) 3) (one_inVs _) (by unfold maxLen; omega) (by omega) (Nat.le_trans h.low.size (by simp))
  have hg : W.grownBy w' lv.ownBlock := by
    have r2' := r2
    refine ⟨?_, ?_, ?_, ?_, ?_⟩
    · exact r2.os
    · exact r2.tape
    · exact r2.output
    · have := r2.size; simp at this; omega
    · intro q hq hn
      rw [r2.block q (by simp; omega) hn, Below.heap_alloc _ _ _ hq]
  refine ⟨v', w', hr, ⟨⟨?_, ?_⟩, ?_, ?_, ?_⟩, hg, fun q hq => (r3 q hq).imp id (fun e => by simp at e; omega)⟩
  · refine own_stay h.dl.own fun q c _ hc => hg.block q (some_lt hc) (fun e => ?_)
    obtain ⟨-, cur, hcur⟩ := own_low h.own e.symm
    rw [hc] at hcur
    simp at hcur
  · intro t ht
    obtain ⟨r, c, z2⟩ := h.dl.rows t ht
    refine ⟨?_, c, z2⟩
    by_cases hw : t.x.ws = []
    · rw [hw]; exact SlI.nil _ _
    · have key : ∀ x, t.a = some x → w'.heap[x.block]? = W.heap[x.block]? := fun x hx => by
        obtain ⟨M, hM⟩ := r.typ x hx hw
        exact hg.block _ (some_lt hM) (fun e => h.off _ e.symm t ht hw x hx rfl)
      refine ⟨r.nonil, fun x hx i u hu => ?_, fun x hx hne => ?_⟩
      · obtain ⟨e0, e1⟩ := r.cells x hx i u hu
        refine ⟨e0, ?_⟩
        simp only [World.cell?] at e1 ⊢
        rw [key x hx]
        exact e1
      · obtain ⟨M, hM⟩ := r.typ x hx hne
        exact ⟨M, by rw [key x hx]; exact hM⟩
  · rw [inVs_append, List.length_append]
    exact r1
  · intro g hg2 t ht hw x hx e
    rcases r3 g hg2 with e2 | e2
    · exact h.off g e2 t ht hw x hx e
    · obtain ⟨M, hM⟩ := (h.dl.rows t ht).row.typ x hx hw
      have := some_lt hM
      simp at e2
      omega
  · exact h.low.grown hg h.low.size (fun q e => (own_low h.own e).1)
/-- A page is laid into the book behind a row of its own. -/
theorem Fl.set {w0 W W' : World} {v v' lv : Value} {L : List Pl} {P : List Int} (h : Fl w0 W v lv L P) {i : Nat} {t : Pl} (hd : Dl W' v' (L.set i t)) (hb : Below W.heap.size W W') (ho : ∀ g, lv.ownBlock = some g → ∀ x, t.a = some x → x.block ≠ g) : Fl w0 W' v' lv (L.set i t) P :=
  ⟨hd, own_below h.own hb, fun g hg s hs hw x hx => by
    rcases List.mem_or_eq_of_mem_set hs with e | e
    · exact h.off g hg s e hw x hx
    · subst e; exact ho g hg x hx, h.low.trans (hb.mono h.low.size)⟩
end Go.Proofs.Ytdlanenbbmnbhaa
