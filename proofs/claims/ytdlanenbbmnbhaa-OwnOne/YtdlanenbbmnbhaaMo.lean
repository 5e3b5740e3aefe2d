/-
  The orders, and who has a page: what they tell is what the book holds.
-/
import Derived.Test.YtdlanenbbmnbhaaMg
import Derived.Test.YtdlanenbbmnbhaaMe
import Derived.Test.YtdlanenbbmnbhaaTa
namespace Go.Proofs.Ytdlanenbbmnbhaa
open Go.RowKit

theorem OkL.append : ∀ {a b : List Od} {f : Nat → Int}, OkL f a → OkL (foldF f a) b → OkL f (a ++ b)
  | [], _, _, _, h => h
  | _ :: r, _, _, h1, h2 => ⟨h1.1, OkL.append (a := r) h1.2 h2⟩
theorem foldF_append : ∀ (a b : List Od) (f : Nat → Int), foldF f (a ++ b) = foldF (foldF f a) b
  | [], _, _ => rfl
  | _ :: r, b, _ => foldF_append r b _
theorem upd_eqs {α : Type} {f : Nat → α} {i : Nat} {x : α} (h : f i = x) : upd f i x = f := by
  funext j
  by_cases e : j = i
  · subst e; rw [upd_self, h]
  · rw [upd_ne _ _ e]
theorem upd_twice {α : Type} (f : Nat → α) (i : Nat) (x y : α) : upd (upd f i x) i y = upd f i y := by
  funext j
  by_cases e : j = i
  · subst e; rw [upd_self, upd_self]
  · rw [upd_ne _ _ e, upd_ne _ _ e, upd_ne _ _ e]
theorem give_told (f : Nat → Int) {x : Lf} (i : Nat) (hi : i < 16) (h : LfPre x) (hf : f i = x.owner) : OkL f (giveF i x).2 ∧ foldF f (giveF i x).2 = upd f i (giveF i x).1.owner := by
  unfold giveF
  split
  · exact ⟨trivial, (upd_eqs hf).symm⟩
  · rename_i hno
    have h2 : x.owner = 0 := by simp_all
    split
    · exact ⟨trivial, (upd_eqs hf).symm⟩
    · rename_i a r hw
      have ha := h.inst a (by rw [hw]; simp)
      refine ⟨⟨⟨i, rfl, hi, .inl ⟨rfl, by omega, ha.1, rfl⟩⟩, trivial⟩, ?_⟩
      simp [foldF, nextF]
theorem call_told (f : Nat → Int) {x : Lf} (i : Nat) (hi : i < 16) (h : LfPre x) (hf : f i = x.owner) : OkL f (callF i x).2 ∧ foldF f (callF i x).2 = f ∧ (callF i x).1.owner = x.owner := by
  unfold callF
  split
  · exact ⟨trivial, rfl, rfl⟩
  · rename_i hno
    split
    · exact ⟨trivial, rfl, rfl⟩
    · rename_i a r hw
      have ha := h.apart
      rw [hw] at ha
      refine ⟨⟨⟨i, rfl, hi, .inr ⟨rfl, hf, fun e => hno (.inl e), fun e => ha ?_⟩⟩, trivial⟩, ?_, rfl⟩
      · simp only at e; rw [← e]; simp
      · simp [foldF, nextF]
theorem serve_told (f : Nat → Int) {x : Lf} (i : Nat) (hi : i < 16) (h : LfPre x) (hf : f i = x.owner) : OkL f (serveF i x).2 ∧ foldF f (serveF i x).2 = upd f i (serveF i x).1.owner := by
  obtain ⟨h1, h2⟩ := give_told f i hi h hf
  have hg := give_pre (i : Int) h
  obtain ⟨h3, h4, h5⟩ := call_told (upd f i (giveF i x).1.owner) i hi hg (upd_self _ _ _)
  unfold serveF
  refine ⟨h1.append (by rw [h2]; exact h3), ?_⟩
  simp only
  rw [foldF_append, h2, h4, h5]

/-- A book is as the orders told it. -/
structure Told (m : Nat) (l : List Lf) (f : Nat → Int) (g : Nat → Bool) : Prop where
  ok : BkOk l
  len : l.length = m
  own : ∀ j : Nat, j < 16 → (lfAt l (j : Int)).owner = f j
  lost : ∀ j : Nat, j < 16 → (lfAt l (j : Int)).lost = g j
theorem lfAt_set {l : List Lf} {i : Nat} (hi : i < l.length) (y : Lf) (j : Nat) : lfAt (l.set i y) (j : Int) = if j = i then y else lfAt l (j : Int) := by
  by_cases hj : j < l.length
  · rw [lfAt_yes (by rw [List.length_set]; exact hj), lfAt_yes hj, List.getElem_set]
    by_cases e : i = j
    · rw [if_pos e, if_pos e.symm]
    · rw [if_neg e, if_neg (fun x => e x.symm)]
  · rw [lfAt_no (by rw [List.length_set]; omega), lfAt_no (by omega), if_neg (by omega)]
theorem Told.set {m : Nat} {l : List Lf} {f : Nat → Int} {g : Nat → Bool} (h : Told m l f g) {i : Nat} (hi : i < m) {y : Lf} (hy : LfOk y) : Told m (l.set i y) (upd f i y.owner) (upd g i y.lost) := by
  have hl := h.len
  refine ⟨h.ok.set i hy, by rw [List.length_set, hl], fun j hj => ?_, fun j hj => ?_⟩
  · rw [lfAt_set (by omega)]
    by_cases e : j = i
    · subst e; rw [if_pos rfl, upd_self]
    · rw [if_neg e, upd_ne _ _ e, h.own j hj]
  · rw [lfAt_set (by omega)]
    by_cases e : j = i
    · subst e; rw [if_pos rfl, upd_self]
    · rw [if_neg e, upd_ne _ _ e, h.lost j hj]
theorem Told.start (m : Nat) (fast : List Bool) : Told m (newL m fast) (fun _ => 0) (fun _ => false) := by
  refine ⟨new_ok _ _, new_len _ _, fun j hj => ?_, fun j hj => ?_⟩ <;>
  · by_cases e : j < m
    · rw [lfAt_yes (by rw [new_len]; exact e)]; simp [newL]
    · rw [lfAt_no (by rw [new_len]; omega)]; rfl
theorem Told.apart {m : Nat} {l : List Lf} {f : Nat → Int} {g : Nat → Bool} (h : Told m l f g) (j : Nat) (hj : j < 16) (hg : g j = true) : f j = 0 := by
  rw [← h.own j hj]
  rw [← h.lost j hj] at hg
  by_cases e : j < l.length
  · rw [lfAt_yes e] at hg ⊢
    exact (h.ok.at e).lost hg
  · rw [lfAt_no (by omega)]; rfl
theorem Told.need {m : Nat} {l : List Lf} {f : Nat → Int} {g : Nat → Bool} (h : Told m l f g) (hm : m ≤ 16) (p k : Int) :
    ((needL l p k).2.2 ≠ 0 → (needL l p k).2.1 = []) ∧ OkL f (needL l p k).2.1 ∧ Told m (needL l p k).1 (foldF f (needL l p k).2.1) g := by
  have hok := need_ok h.ok p k
  revert hok
  unfold needL
  split
  · exact fun _ => ⟨fun _ => rfl, trivial, h⟩
  · rename_i h1
    have h1 : pageB l p = true ∧ instB k = true := Classical.byContradiction h1
    split
    · exact fun _ => ⟨fun _ => rfl, trivial, h⟩
    · rename_i h2
      obtain ⟨hp, hk⟩ := h1
      rw [page_iff] at hp
      obtain ⟨i, rfl⟩ := Int.eq_ofNat_of_zero_le hp.1
      have hi : i < l.length := by omega
      have hl := h.len
      rw [lfAt_yes hi] at h2 ⊢
      rw [inst_iff] at hk
      have hpre := with_pre (h.ok.at hi) hk (fun e => h2 (.inl e)) (fun e => h2 (.inr e))
      have hown : f i = (withF k l[i]).owner := by rw [← h.own i (by omega), lfAt_yes hi]; rfl
      obtain ⟨s1, s2⟩ := serve_told f i (by omega) hpre hown
      intro _
      refine ⟨fun e => absurd rfl e, s1, ?_⟩
      show Told m (l.set i (serveF (i : Int) (withF k l[i])).1) (foldF f (serveF (i : Int) (withF k l[i])).2) g
      rw [s2]
      have := h.set (i := i) (by omega) (serve_ok (i : Int) hpre)
      rwa [upd_eqs (f := g) (by rw [serve_lost, ← h.lost i (by omega), lfAt_yes hi]; rfl)] at this
theorem Told.back {m : Nat} {l : List Lf} {f : Nat → Int} {g : Nat → Bool} (h : Told m l f g) (hm : m ≤ 16) (p k : Int) :
    ((backL l p k).2.2 ≠ 0 ∧ (backL l p k).2.1 = [] ∧ Told m (backL l p k).1 f g) ∨
    ((backL l p k).2.2 = 0 ∧ ∃ n : Nat, p = (n : Int) ∧ n < 16 ∧ f n = k ∧ OkL (upd f n 0) (backL l p k).2.1 ∧ Told m (backL l p k).1 (foldF (upd f n 0) (backL l p k).2.1) g) := by
  unfold backL
  split
  · exact .inl ⟨by simp, rfl, h⟩
  · rename_i h1
    have h1 : pageB l p = true ∧ instB k = true := Classical.byContradiction h1
    split
    · exact .inl ⟨by simp, rfl, h⟩
    · rename_i h2
      obtain ⟨hp, hk⟩ := h1
      rw [page_iff] at hp
      obtain ⟨i, rfl⟩ := Int.eq_ofNat_of_zero_le hp.1
      have hi : i < l.length := by omega
      have hl := h.len
      rw [lfAt_yes hi] at h2 ⊢
      rw [inst_iff] at hk
      have ho : l[i].owner = k := Classical.byContradiction h2
      have hpre := leave_pre (h.ok.at hi) false
      obtain ⟨s1, s2⟩ := serve_told (upd f i 0) i (by omega) hpre (by rw [upd_self]; rfl)
      have hgl : g i = false := by
        rw [← h.lost i (by omega), lfAt_yes hi]
        cases e : l[i].lost
        · rfl
        · have := (h.ok.at hi).lost e; omega
      refine .inr ⟨rfl, i, rfl, by omega, by rw [← h.own i (by omega), lfAt_yes hi, ho], s1, ?_⟩
      show Told m (l.set i (serveF (i : Int) (leaveF false l[i])).1) (foldF (upd f i 0) (serveF (i : Int) (leaveF false l[i])).2) g
      rw [s2, upd_twice]
      have := h.set (i := i) (by omega) (serve_ok (i : Int) hpre)
      rwa [upd_eqs (f := g) (by rw [serve_lost, hgl]; rfl)] at this
theorem Told.mend {m : Nat} {l : List Lf} {f : Nat → Int} {g : Nat → Bool} (h : Told m l f g) (hm : m ≤ 16) (p : Int) :
    ((mendL l p).2.2 ≠ 0 ∧ (mendL l p).2.1 = [] ∧ Told m (mendL l p).1 f g) ∨
    ((mendL l p).2.2 = 0 ∧ ∃ n : Nat, p = (n : Int) ∧ n < 16 ∧ g n = true ∧ OkL f (mendL l p).2.1 ∧ Told m (mendL l p).1 (foldF f (mendL l p).2.1) (upd g n false)) := by
  unfold mendL
  split
  · exact .inl ⟨by simp, rfl, h⟩
  · rename_i hp
    have hp : pageB l p = true := Classical.byContradiction hp
    split
    · exact .inl ⟨by simp, rfl, h⟩
    · rename_i h2
      rw [page_iff] at hp
      obtain ⟨i, rfl⟩ := Int.eq_ofNat_of_zero_le hp.1
      have hi : i < l.length := by omega
      have hl := h.len
      rw [lfAt_yes hi] at h2 ⊢
      have hlo : l[i].lost = true := by simpa using h2
      have h0 := (h.ok.at hi).lost hlo
      have hpre := leave_pre (h.ok.at hi) false
      have hf0 : f i = 0 := by rw [← h.own i (by omega), lfAt_yes hi, h0]
      obtain ⟨s1, s2⟩ := serve_told f i (by omega) hpre (by rw [hf0]; rfl)
      refine .inr ⟨rfl, i, rfl, by omega, by rw [← h.lost i (by omega), lfAt_yes hi, hlo], s1, ?_⟩
      show Told m (l.set i (serveF (i : Int) (leaveF false l[i])).1) (foldF f (serveF (i : Int) (leaveF false l[i])).2) (upd g i false)
      rw [s2]
      have := h.set (i := i) (by omega) (serve_ok (i : Int) hpre)
      rwa [serve_lost] at this

/-- Behind some that were lost. -/
def clearF (f : Nat → Int) (L : List Int) : Nat → Int := fun j => if (j : Int) ∈ L then 0 else f j
def markG (g : Nat → Bool) (L : List Int) : Nat → Bool := fun j => if (j : Int) ∈ L then true else g j
theorem hasN_lt {l : List Lf} {k : Int} : ∀ n, ∀ x ∈ hasN l k n, x < (n : Int)
  | 0, x, h => by simp [hasN] at h
  | n + 1, x, h => by
    simp only [hasN, List.mem_append] at h
    rcases h with h | h
    · have := hasN_lt n x h; omega
    · split at h
      · simp at h; omega
      · simp at h
theorem hasN_nodup {l : List Lf} {k : Int} : ∀ n, (hasN l k n).Nodup
  | 0 => by simp [hasN]
  | n + 1 => by
    simp only [hasN]
    split
    · refine List.nodup_append.2 ⟨hasN_nodup n, by simp, fun x hx y hy => ?_⟩
      simp at hy
      have := hasN_lt n x hx
      omega
    · rw [List.append_nil]; exact hasN_nodup n
theorem hasL_nodup (l : List Lf) (k : Int) : (hasL l k).Nodup := by
  unfold hasL
  split
  · exact hasN_nodup _
  · simp
theorem Told.fail {m : Nat} {l : List Lf} {f : Nat → Int} {g : Nat → Bool} (h : Told m l f g) (k : Int) : Told m (failL l k) (clearF f (hasL l k)) (markG g (hasL l k)) := by
  refine ⟨fail_ok h.ok k, by rw [fail_len, h.len], fun j hj => ?_, fun j hj => ?_⟩
  · by_cases e : j < l.length
    · obtain ⟨x, h1, h2, -⟩ := fail_look h.ok k j e
      have e' : j < (failL l k).length := by rw [fail_len]; exact e
      rw [List.getElem?_eq_getElem e'] at h1
      injection h1 with h1
      rw [lfAt_yes e', h1]
      unfold clearF
      rcases h2 with ⟨h2, h3, -⟩ | ⟨h2, h3⟩
      · rw [if_pos h2, h3]
      · rw [if_neg h2, h3, ← h.own j hj, lfAt_yes e]
    · rw [lfAt_no (by rw [fail_len]; omega)]
      unfold clearF
      have := h.own j hj
      rw [lfAt_no (by omega)] at this
      split
      · rfl
      · exact this
  · by_cases e : j < l.length
    · have e' : j < (failL l k).length := by rw [fail_len]; exact e
      rw [lfAt_yes e']
      have hg := h.lost j hj
      rw [lfAt_yes e] at hg
      unfold markG
      cases hk : instB k
      · obtain ⟨q1, q2⟩ := fail_none (l := l) hk
        simp only [q1, q2]
        rw [if_neg (by simp)]
        exact hg
      · have h1 := fail_get hk j e
        rw [List.getElem?_eq_getElem e'] at h1
        injection h1 with h1
        rw [h1]
        unfold failF
        by_cases ho : l[j].owner = k
        · rw [if_pos ho, if_pos (hasL_mem.2 ⟨hk, j, e, rfl, ho⟩)]
          rfl
        · rw [if_neg ho, if_neg]
          · exact hg
          · intro x
            obtain ⟨-, i, hi, e1, e2⟩ := hasL_mem.1 x
            obtain rfl : j = i := by omega
            exact ho e2
    · rw [lfAt_no (by rw [fail_len]; omega)]
      unfold markG
      rw [if_neg]
      · rw [← h.lost j hj, lfAt_no (by omega)]
      · intro x
        obtain ⟨-, i, hi, e1, e2⟩ := hasL_mem.1 x
        omega
theorem Told.gone {m : Nat} {l : List Lf} {f : Nat → Int} {g : Nat → Bool} (h : Told m l f g) (hm : m ≤ 16) (k : Int) (t : Nat) (ht : t < (hasL l k).length) :
    ∃ n : Nat, (hasL l k)[t] = (n : Int) ∧ n < 16 ∧ clearF f ((hasL l k).take t) n = k ∧ upd (clearF f ((hasL l k).take t)) n 0 = clearF f ((hasL l k).take (t + 1)) ∧ upd (markG g ((hasL l k).take t)) n true = markG g ((hasL l k).take (t + 1)) := by
  obtain ⟨-, i, hi, e1, e2⟩ := hasL_mem.1 (List.getElem_mem ht)
  have e1 : (i : Int) = (hasL l k)[t] := by first | exact e1 | exact e1.symm
  have hl := h.len
  have hn : (i : Int) ∉ (hasL l k).take t := by
    intro hmem
    have hd := hasL_nodup l k
    rw [← List.take_append_drop t (hasL l k), List.nodup_append] at hd
    exact hd.2.2 _ hmem _ (by rw [e1, List.mem_drop_iff_getElem]; exact ⟨0, by simpa using ht, by simp⟩) rfl
  have htk : (hasL l k).take (t + 1) = (hasL l k).take t ++ [(i : Int)] := by rw [List.take_succ_eq_append_getElem ht, ← e1]
  refine ⟨i, e1.symm, by omega, ?_, ?_, ?_⟩
  · unfold clearF
    rw [if_neg hn, ← h.own i (by omega), lfAt_yes hi, e2]
  · funext j
    unfold clearF
    rw [htk]
    by_cases e : j = i
    · subst e; rw [upd_self, if_pos (by simp)]
    · rw [upd_ne _ _ e]
      by_cases hx : (j : Int) ∈ (hasL l k).take t
      · rw [if_pos hx, if_pos (by simp [hx])]
      · rw [if_neg hx, if_neg]
        simp only [List.mem_append, List.mem_singleton, not_or]
        exact ⟨hx, by omega⟩
  · funext j
    unfold markG
    rw [htk]
    by_cases e : j = i
    · subst e; rw [upd_self, if_pos (by simp)]
    · rw [upd_ne _ _ e]
      by_cases hx : (j : Int) ∈ (hasL l k).take t
      · rw [if_pos hx, if_pos (by simp [hx])]
      · rw [if_neg hx, if_neg]
        simp only [List.mem_append, List.mem_singleton, not_or]
        exact ⟨hx, by omega⟩

/-- Sixteen of what may be or not. -/
def AB (f : Nat → Bool) : Array Value := ((List.range 16).map fun j => Value.bool (f j)).toArray
theorem AB_size (f : Nat → Bool) : (AB f).size = 16 := by simp [AB]
theorem AB_at (f : Nat → Bool) (j : Nat) (hj : j < 16) : (AB f)[j]? = some (.bool (f j)) := by simp [AB, hj]
theorem AB_set (f : Nat → Bool) (j : Nat) (hj : j < 16) (v : Bool) : (AB f).setIfInBounds j (.bool v) = AB (upd f j v) := by
  refine Array.ext_getElem? fun i => ?_
  rw [Array.getElem?_setIfInBounds]
  by_cases e : j = i
  · subst e
    rw [if_pos rfl, if_pos (by rw [AB_size]; exact hj), AB_at _ _ hj, upd_self]
  · rw [if_neg e]
    by_cases hi : i < 16
    · rw [AB_at _ _ hi, AB_at _ _ hi, upd_ne _ _ (fun x => e x.symm)]
    · rw [Array.getElem?_eq_none (by rw [AB_size]; omega), Array.getElem?_eq_none (by rw [AB_size]; omega)]
theorem AB_zero : AB (fun _ => false) = #[.bool false, .bool false, .bool false, .bool false, .bool false, .bool false, .bool false, .bool false, .bool false, .bool false, .bool false, .bool false, .bool false, .bool false, .bool false, .bool false] := rfl
theorem AB_cell {w : World} {g T : Nat} {f : Nat → Bool} (h : w.heap[g]? = some (.cells (AB f) T)) (j : Nat) (hj : j < 16) : w.cell? ⟨g, j, none⟩ = some (.bool (f j)) ∧ w.frozen? ⟨g, j, none⟩ = false := by
  have := AB_at f j hj
  exact ⟨by simp [World.cell?, h, this], by simp [World.frozen?, h]⟩
end Go.Proofs.Ytdlanenbbmnbhaa
