/-
  What Merge tells, as one answer; rows of logs.
-/
import Derived.Test.YtnejcjebepidcaaTa
import Derived.Test.YtnejcjebepidcaaMh
import Derived.Test.YtnejcjebepidcaaSb
namespace Go.Proofs.Ytnejcjebepidcaa
open Go.RowKit

/-- What Merge should tell. -/
def MSpec (logs : List (List Rc)) (out : List Rc) (e : Int) : Prop :=
  (logs.all risB = false ∧ e = 1 ∧ out = []) ∨ (logs.all risB = true ∧ ¬ (logs.flatten.map Rc.lsn).Nodup ∧ e = 9 ∧ out = []) ∨ (logs.all risB = true ∧ e = 0 ∧ out.Perm logs.flatten ∧ risB out = true)

theorem ris_nodup {l : List Rc} (h : risB l = true) : (l.map Rc.lsn).Nodup := by
  induction l with
  | nil => simp
  | cons a r ih =>
    rw [List.map_cons, List.nodup_cons]
    refine ⟨fun e => ?_, ih (ris_tail h)⟩
    obtain ⟨y, hy, he⟩ := List.mem_map.1 e
    have := ris_lt h y hy
    omega
theorem MSpec.unique {logs logs' : List (List Rc)} {out out' : List Rc} {e e' : Int} (h : MSpec logs out e) (h' : MSpec logs' out' e') (ha : logs.all risB = logs'.all risB) (hp : logs.flatten.Perm logs'.flatten) : out = out' ∧ e = e' := by
  have hnd : (logs.flatten.map Rc.lsn).Nodup ↔ (logs'.flatten.map Rc.lsn).Nodup := (hp.map Rc.lsn).nodup_iff
  rcases h with ⟨h1, rfl, rfl⟩ | ⟨h1, h2, rfl, rfl⟩ | ⟨h1, rfl, h3, h4⟩ <;> rcases h' with ⟨k1, rfl, rfl⟩ | ⟨k1, k2, rfl, rfl⟩ | ⟨k1, rfl, k3, k4⟩
  · exact ⟨rfl, rfl⟩
  · rw [ha, k1] at h1; simp at h1
  · rw [ha, k1] at h1; simp at h1
  · rw [ha, k1] at h1; simp at h1
  · exact ⟨rfl, rfl⟩
  · exact absurd (hnd.2 (((k3.map Rc.lsn).nodup_iff).1 (ris_nodup k4))) h2
  · rw [ha, k1] at h1; simp at h1
  · exact absurd (hnd.1 (((h3.map Rc.lsn).nodup_iff).1 (ris_nodup h4))) k2
  · exact ⟨ris_unique h4 k4 (h3.trans (hp.trans k3.symm)), rfl⟩

/-- What Merge told, in memory. -/
structure Res (W : World) (B : Nat) (logs : List (List Rc)) (out : List Rc) (a : Option Addr) (c : Nat) (e : Int) : Prop where
  all : AllOk W B (.slice a out.length c) out
  spec : MSpec logs out e
theorem Merged.res {W : World} {B : Nat} {logs : List (List Rc)} {v : Value} {e : Int} (h : Merged W B logs v e) : ∃ out a c, v = .slice a out.length c ∧ Res W B logs out a c e := by
  rcases h with ⟨h1, rfl, rfl⟩ | ⟨h1, h2, rfl, rfl⟩ | ⟨h1, rfl, out, h3, h4, h5⟩
  · exact ⟨[], none, 0, rfl, AllOk.nil _ _, .inl ⟨h1, rfl, rfl⟩⟩
  · exact ⟨[], none, 0, rfl, AllOk.nil _ _, .inr (.inl ⟨h1, h2, rfl, rfl⟩)⟩
  · obtain ⟨a, c, rfl⟩ := h5.shape
    exact ⟨out, a, c, rfl, h5, .inr (.inr ⟨h1, rfl, h3, h4⟩)⟩
theorem Res.below {W W' : World} {B : Nat} {logs : List (List Rc)} {out : List Rc} {a : Option Addr} {c : Nat} {e : Int} (h : Res W B logs out a c e) (hb : Below W.heap.size W W') : Res W' B logs out a c e := ⟨h.all.below hb, h.spec⟩
theorem MSpec.len {logs : List (List Rc)} {out : List Rc} {e : Int} (h : MSpec logs out e) : out.length ≤ logs.flatten.length := by
  rcases h with ⟨_, _, rfl⟩ | ⟨_, _, _, rfl⟩ | ⟨_, _, h, _⟩
  · simp
  · simp
  · exact Nat.le_of_eq h.length_eq
theorem MSpec.sub {logs : List (List Rc)} {out : List Rc} {e : Int} (h : MSpec logs out e) : ∀ r, r ∈ out → r ∈ logs.flatten := by
  rcases h with ⟨_, _, rfl⟩ | ⟨_, _, _, rfl⟩ | ⟨_, _, h, _⟩
  · simp
  · simp
  · exact fun r hr => h.mem_iff.1 hr
theorem MSpec.err {logs : List (List Rc)} {out : List Rc} {e : Int} (h : MSpec logs out e) : e = 0 ∨ (e ≠ 0 ∧ out = []) := by
  rcases h with ⟨_, rfl, rfl⟩ | ⟨_, _, rfl, rfl⟩ | ⟨_, rfl, _, _⟩
  · exact .inr ⟨by omega, rfl⟩
  · exact .inr ⟨by omega, rfl⟩
  · exact .inl rfl
theorem MSpec.ok {logs : List (List Rc)} {out : List Rc} {e : Int} (h : MSpec logs out e) (h1 : logs.all risB = true) (h2 : (logs.flatten.map Rc.lsn).Nodup) : e = 0 ∧ out.Perm logs.flatten ∧ risB out = true := by
  rcases h with ⟨k, _⟩ | ⟨_, k, _⟩ | ⟨_, rfl, k1, k2⟩
  · rw [k] at h1; simp at h1
  · exact absurd h2 k
  · exact ⟨rfl, k1, k2⟩
theorem MSpec.zero {logs : List (List Rc)} {out : List Rc} {e : Int} (h : MSpec logs out e) (he : e = 0) : logs.all risB = true ∧ (logs.flatten.map Rc.lsn).Nodup ∧ out.Perm logs.flatten ∧ risB out = true := by
  rcases h with ⟨_, rfl, _⟩ | ⟨_, _, rfl, _⟩ | ⟨k, _, k1, k2⟩
  · omega
  · omega
  · exact ⟨k, ((k1.map Rc.lsn).nodup_iff).1 (ris_nodup k2), k1, k2⟩

/-- A log as a value. -/
def LgV (W : World) (x : Value) (q : List Rc) : Prop := ∃ la lc, x = .slice la q.length lc ∧ SlR W la q ∧ q.length ≤ lc
theorem LgV.below {W W' : World} {x : Value} {q : List Rc} (h : LgV W x q) (hb : Below W.heap.size W W') : LgV W' x q := by
  obtain ⟨la, lc, h1, h2, h3⟩ := h
  exact ⟨la, lc, h1, h2.below hb, h3⟩
/-- A row of logs of one's own. -/
def RowL (W : World) (B : Nat) (v : Value) (qs : List (List Rc)) : Prop := ∃ xs : List Value, W.ownsRow B 26 1 v qs.length xs ∧ ∀ (i : Nat) (q : List Rc), qs[i]? = some q → ∃ x, xs[i]? = some x ∧ LgV W x q
theorem RowL.nil (W : World) (B : Nat) : RowL W B (.slice none 0 0) [] := ⟨[], World.ownsRow_nil _ _ _ _, fun i q hq => by simp at hq⟩
theorem RowL.below {W W' : World} {B : Nat} {v : Value} {qs : List (List Rc)} (h : RowL W B v qs) (hb : Below W.heap.size W W') : RowL W' B v qs := by
  obtain ⟨xs, h1, h2⟩ := h
  exact ⟨xs, own_stay h1 (fun k _ _ hc => hb.block k (Array.getElem?_eq_some_iff.1 hc).1), fun i q hq => by
    obtain ⟨x, k1, k2⟩ := h2 i q hq
    exact ⟨x, k1, k2.below hb⟩⟩
theorem RowL.shape {W : World} {B : Nat} {v : Value} {qs : List (List Rc)} (h : RowL W B v qs) : ∃ a c, v = .slice a qs.length c := by
  obtain ⟨xs, h1, _⟩ := h
  exact ownsRow_shape h1
theorem RowL.slL {W : World} {B c : Nat} {a : Option Addr} {qs : List (List Rc)} (h : RowL W B (.slice a qs.length c) qs) : SlL W a qs := by
  obtain ⟨xs, h1, h2⟩ := h
  rcases own_addr h1 with ⟨rfl, e, _⟩ | ⟨g, cur, rfl, _⟩
  · have : qs = [] := List.eq_nil_of_length_eq_zero e
    subst this
    exact ⟨fun _ => rfl, fun x hx => by simp at hx⟩
  · refine ⟨fun e => by simp at e, fun x hx i q hq => ?_⟩
    simp at hx
    subst hx
    obtain ⟨x, k1, la, lc, rfl, k3, k4⟩ := h2 i q hq
    exact ⟨rfl, la, lc, by simpa using own_cell h1 k1, k3, k4⟩
theorem all_rev (logs : List (List Rc)) : logs.reverse.all risB = logs.all risB := by rw [List.all_reverse]
theorem flat_rev (logs : List (List Rc)) : logs.reverse.flatten.Perm logs.flatten := List.Perm.flatten (List.reverse_perm logs)

end Go.Proofs.Ytnejcjebepidcaa
