/-
  The table's Range.
-/
import Derived.Test.YtebchgoaelamcaaDoorTi
import Derived.Test.YtebchgoaelamcaaDoorKd
namespace Go.Proofs.YtebchgoaelamcaaDoor
open Go.RowKit Go.Sort
set_option maxRecDepth 100000

/-- An append to an owned row, and where it lies. -/
theorem wpList_append_fresh {P : Program} (w : World) {ops : Array Oper} {rest : List Oper} {o : Oper} {a : Act} {Q : Exit → Act → World → Prop} (hgd : o.guard = none) (s x : Operand) (t : TypeId)
    (ho : o.op = .call { callee := .builtin .append, args := #[s, x], argTypes := #[t, t] })
    (base : Nat) (e : TypeId) (i : TypeInfo) (z : Value) (size bytes : Nat) (ht : P.underlying t = some (.slice e)) (hi : P.info? e = some i) (hz : i.zero = some z)
    (hsize : i.size = size) (hby : i.bytes = bytes) (hzs : z.cells.size = size) (hsz : 0 < size)
    (v : Value) (n : Nat) (xs : List Value) (hs : a.eval s = v) (hown : w.ownsRow base e size v n xs)
    (ad : Addr) (m c : Nat) (news : List Value) (hx : a.eval x = .slice (some ad) m c) (hl : news.length = m * size) (hnews : ∀ j u, news[j]? = some u → w.cell? (ad.add j) = some u) (h1 : ∀ u ∈ news, u.oneCell' = true)
    (h63 : n + m ≤ maxLen) (hbytes : (n + m) * bytes ≤ 140737488355328) (hbase : base ≤ w.heap.size)
    (h : ∀ v' w', w'.ownsRow base e size v' (n + m) (xs ++ news) → w.grownBy w' v.ownBlock → Fresh w v v' → wpList P ops Q rest (a.put o.dst v') w') : wpList P ops Q (o :: rest) a w :=
  wpList_plain hgd fun _ hK => by
    obtain ⟨v', w', hr, h2, h3, h4⟩ := run_append_fresh (P := P) w base t o.type e i z size bytes ht hi hz hsize hby hzs hsz v n xs hown ad m c news hl hnews h1 h63 hbytes hbase
    unfold Oper.wp execOp
    simp only [ho, resolve, invoke, builtin, Sem.run_bind, Sem.run_pure, Result.andThen_ok, List.map_toArray, List.map_cons, List.map_nil, hs, hx, hr]
    exact hK _ _ (h v' w' h2 h3 h4)

/-- A page, or none. -/
def PgR (W : World) (o : Option Addr) (l : List Cl) : Prop := (o = none ∧ l = []) ∨ ∃ (B p : Nat) (id : Int) (lsn : Nat) (v : Value), o = some ⟨p, 0, none⟩ ∧ PgOk W B p id lsn v l ∧ GoodL l
theorem PgR.below {W W' : World} {o : Option Addr} {l : List Cl} (h : PgR W o l) (hb : Below W.heap.size W W') : PgR W' o l := by
  rcases h with h | ⟨B, p, id, lsn, v, e, hp, hg⟩
  · exact .inl h
  · exact .inr ⟨B, p, id, lsn, v, e, hp.below hb (Nat.le_refl _), hg⟩
/-- A row of pages that can be read. -/
structure SlG (W : World) (a : Option Addr) (ps : List (Option Addr × List Cl)) : Prop where
  get : ∀ i (hi : i < ps.length), ∃ b o, a = some ⟨b, o, none⟩ ∧ b < W.heap.size ∧ W.cell? ⟨b, o + i, none⟩ = some (.pointer ps[i].1)
  pg : ∀ i (hi : i < ps.length), PgR W ps[i].1 ps[i].2
theorem SlG.below {W W' : World} {a : Option Addr} {ps : List (Option Addr × List Cl)} (h : SlG W a ps) (hb : Below W.heap.size W W') : SlG W' a ps :=
  ⟨fun i hi => by
    obtain ⟨b, o, e, hl, hc⟩ := h.get i hi
    exact ⟨b, o, e, Nat.lt_of_lt_of_le hl hb.size, by rw [cell_kept hb hl]; exact hc⟩, fun i hi => (h.pg i hi).below hb⟩

/-- A page's pairs, sorted. -/
def PS (l : List Cl) (L : List Pq) : Prop := L.Perm (prsL l) ∧ SortP L
theorem PS.len {l : List Cl} {L : List Pq} (h : PS l L) : L.length ≤ l.length := by have h1 := h.1.length_eq; have h2 := prs_le l; omega
/-- The pairs between two keys. -/
def btw (f t : List UInt8) (L : List Pq) : List Pq := L.filter fun x => !decide (x.1 < f) && !decide (t < x.1)
theorem btw_append (f t : List UInt8) (L M : List Pq) : btw f t (L ++ M) = btw f t L ++ btw f t M := List.filter_append ..
theorem btw_take (f t : List UInt8) (L : List Pq) (k : Nat) (h : k < L.length) : btw f t (L.take (k + 1)) = btw f t (L.take k) ++ (if (!decide (L[k].1 < f) && !decide (t < L[k].1)) = true then [L[k]] else []) := by
  rw [List.take_succ_eq_append_getElem h, btw_append]
  congr 1
  unfold btw
  by_cases e : (!decide (L[k].1 < f) && !decide (t < L[k].1)) = true
  · rw [if_pos e, List.filter_cons, if_pos e, List.filter_nil]
  · rw [if_neg e, List.filter_cons, if_neg e, List.filter_nil]
theorem btw_len (f t : List UInt8) (L : List Pq) : (btw f t L).length ≤ L.length := List.length_filter_le _ _
/-- What the first pages have between two keys, page behind page. -/
def Cat (f t : List UInt8) (ls : List (List Cl)) (X : List Pq) : Prop := ∃ Ls : List (List Pq), Ls.length = ls.length ∧ (∀ i (h1 : i < ls.length) (h2 : i < Ls.length), PS ls[i] Ls[i]) ∧ X = (Ls.map (btw f t)).flatten
theorem Cat.nil (f t : List UInt8) : Cat f t [] [] := ⟨[], rfl, fun i h => by simp at h, rfl⟩
theorem Cat.snoc {f t : List UInt8} {ls : List (List Cl)} {X : List Pq} (h : Cat f t ls X) {l : List Cl} {L : List Pq} (hl : PS l L) : Cat f t (ls ++ [l]) (X ++ btw f t L) := by
  obtain ⟨Ls, h1, h2, rfl⟩ := h
  refine ⟨Ls ++ [L], by simp [h1], fun i a b => ?_, by simp⟩
  by_cases e : i < ls.length
  · rw [List.getElem_append_left e, List.getElem_append_left (by omega)]
    exact h2 i e (by omega)
  · have e' : i = ls.length := by simp at a; omega
    subst e'
    rw [List.getElem_append_right (by omega), List.getElem_append_right (by omega)]
    simpa [h1] using hl

theorem pairs_nil (w : World) : Calls Tryd.prog 24 #[.pointer none] w fun e w' => e = .returned (.slice none 0 0) ∧ w' = w := by
  go_enter Tryd.func24, Tryd.ntmps24
  go_wp2_with fail
  go_ret
  exact ⟨rfl, rfl⟩
theorem pairs_of {o : Option Addr} {l : List Cl} (w : World) (h : PgR w o l) : Calls Tryd.prog 24 #[.pointer o] w fun e w' => ∃ a c, ∃ L : List Pq, e = .returned (.slice a L.length c) ∧ PS l L ∧ L.length ≤ 64 ∧ SlQ w' a L ∧ (∀ y, a = some y → w.heap.size ≤ y.block) ∧ Below w.heap.size w w' := by
  rcases h with ⟨rfl, rfl⟩ | ⟨B, p, id, lsn, v, rfl, hp, hg⟩
  · refine Calls.mono (pairs_nil w) ?_
    rintro e w' ⟨rfl, hw⟩
    obtain rfl := hw.symm
    exact ⟨none, 0, [], rfl, ⟨List.Perm.refl _, fun i j hi => by simp at hi⟩, by simp, ⟨fun _ => rfl, fun x hx => by cases hx⟩, (fun y hy => by cases hy), Below.refl _ _⟩
  · refine Calls.mono (pairs_any B p id lsn v l w hp hg.few) ?_
    rintro e w' ⟨a, c, L, rfl, h1, h2, h3, h4⟩
    exact ⟨a, c, L, rfl, ⟨h1, h2⟩, by have := (show PS l L from ⟨h1, h2⟩).len; have := hg.few; omega, slQ_of_own h3, (fun y hy => by subst hy; exact (World.ownsRow.lt h3 y.block rfl).1), h4⟩
end Go.Proofs.YtebchgoaelamcaaDoor
