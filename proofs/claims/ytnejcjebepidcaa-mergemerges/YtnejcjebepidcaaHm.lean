/-
  Of no program: nodes in memory, each with a row of its own of those under it; what turns while two of them meet; the plain mathematics of a heap.
-/
import Derived.WalkKit
import Derived.WalkSpells
import Derived.WalkLawsBesides
import Derived.Below
import Derived.Laws.AppendOwnNone
import Derived.Lib.OwnKind
import Derived.Lib.Hide
import Derived.Deep.QuietTactic
namespace Go.Proofs.Ytnejcjebepidcaa
open Go.RowKit

theorem toHid {p : Prop} (h : p) : Hid p := h

theorem ownsRow_shape {w : World} {B : Nat} {e : TypeId} {size : Nat} {v : Value} {n : Nat} {xs : List Value} (h : w.ownsRow B e size v n xs) : ∃ a c, v = .slice a n c := by
  rcases h.2 with ⟨rfl, rfl⟩ | ⟨g, cap, cur, rfl, _⟩
  · exact ⟨none, 0, rfl⟩
  · exact ⟨_, _, rfl⟩

/-- A row that another one grew into lies where it lay, or is new. -/
def Fresh (w : World) (v v' : Value) : Prop := ∀ k, v'.ownBlock = some k → v.ownBlock = some k ∨ w.heap.size ≤ k

theorem Fresh.refl (w : World) (v : Value) : Fresh w v v := fun _ h => .inl h
theorem Fresh.trans {w w1 : World} {v v1 v2 : Value} (h : Fresh w v v1) (hs : w.heap.size ≤ w1.heap.size) (k : Fresh w1 v1 v2) : Fresh w v v2 := fun i hi => by
  rcases k i hi with e | e
  · exact h i e
  · exact .inr (by omega)
theorem Fresh.mono {w w1 : World} {v v1 : Value} (hs : w.heap.size ≤ w1.heap.size) (k : Fresh w1 v v1) : Fresh w v v1 := (Fresh.refl w v).trans hs k

theorem run_append_fresh {P : Program} (w : World) (base : Nat) (t ty e : TypeId) (i : TypeInfo) (z : Value) (size bytes : Nat) (ht : P.underlying t = some (.slice e)) (hi : P.info? e = some i) (hz : i.zero = some z)
    (hsize : i.size = size) (hby : i.bytes = bytes) (hzs : z.cells.size = size) (hsz : 0 < size)
    (v : Value) (n : Nat) (xs : List Value) (hown : w.ownsRow base e size v n xs)
    (a : Addr) (m c : Nat) (news : List Value) (hl : news.length = m * size) (hnews : ∀ j u, news[j]? = some u → w.cell? (a.add j) = some u) (h1 : ∀ u ∈ news, u.oneCell' = true)
    (h63 : n + m ≤ maxLen) (hbytes : (n + m) * bytes ≤ 140737488355328) (hbase : base ≤ w.heap.size) :
    ∃ v' w', (Builtin.append_ #[t, t] ty #[v, .slice (some a) m c]).run P w = .ok v' w' ∧ w'.ownsRow base e size v' (n + m) (xs ++ news) ∧ w.grownBy w' v.ownBlock ∧ Fresh w v v' := by
  obtain ⟨v', w', hr, h2, h3, h4⟩ := run_append_own (P := P) w base t ty e i z size bytes ht hi hz hsize hby hzs hsz v n xs hown a m c news hl hnews h1 h63 hbytes hbase
  refine ⟨v', w', hr, h2, h3, ?_⟩
  subst hsize
  subst hby
  rcases hown.2 with ⟨rfl, rfl⟩ | ⟨g, cap, cur, rfl, hbg, hg, hnc, hcm, hcs, htake⟩
  · by_cases hm : m = 0
    · rw [h4.mpr ⟨rfl, hm⟩]
      exact Fresh.refl _ _
    · have hx : xs = [] := List.eq_nil_of_length_eq_zero (by simpa using hown.1)
      subst hx
      have hr2 := run_append_nil (P := P) w t ty e i z ht hi hz a m c news hl hnews (by omega) (by simp only [maxLen] at h63; omega) (by have hb := hbytes; simp only [Nat.zero_add] at hb; omega)
      rw [hr] at hr2
      injection hr2 with e1 e2
      subst e1
      intro k hk
      simp [Value.ownBlock] at hk
      exact .inr (by omega)
  · by_cases hroom : n + m ≤ cap
    · have hfit : n * i.size + news.length ≤ cur.size := by rw [hl, hcs, ← Nat.add_mul]; exact Nat.mul_le_mul_right _ hroom
      have hr2 := run_append_room (P := P) w t ty e i ht hi g n cap cur hg a m c news hl hnews h1 hroom hfit
      rw [hr] at hr2
      injection hr2 with e1 e2
      subst e1
      intro k hk
      exact .inl hk
    · have holds : ∀ j u, xs[j]? = some u → w.cell? ((⟨g, 0, none⟩ : Addr).add j) = some u := hown.cells (g := g) rfl
      have hr2 := run_append_grow (P := P) w t ty e i z ht hi hz ⟨g, 0, none⟩ n cap xs hown.1 holds a m c news hl hnews (by omega) (by simp only [maxLen] at h63; omega) (growslice_fits (by omega) hbytes)
      rw [hr] at hr2
      injection hr2 with e1 e2
      subst e1
      intro k hk
      simp [Value.ownBlock] at hk
      exact .inr (by omega)

theorem wpList_append_fresh {P : Program} (w : World) {ops : Array Oper} {rest : List Oper} {o : Oper} {a : Act} {Q : Exit → Act → World → Prop} (hgd : o.guard = none) (s x : Operand) (t : TypeId)
    (ho : o.op = .call { callee := .builtin .append, args := #[s, x], argTypes := #[t, t] })
    (base : Nat) (e : TypeId) (i : TypeInfo) (z : Value) (size bytes : Nat) (ht : P.underlying t = some (.slice e)) (hi : P.info? e = some i) (hz : i.zero = some z)
    (hsize : i.size = size) (hby : i.bytes = bytes) (hzs : z.cells.size = size) (hsz : 0 < size)
    (v : Value) (n : Nat) (xs : List Value) (hs : a.eval s = v) (hown : w.ownsRow base e size v n xs)
    (ad : Addr) (m c : Nat) (news : List Value) (hx : a.eval x = .slice (some ad) m c) (hl : news.length = m * size) (hnews : ∀ j u, news[j]? = some u → w.cell? (ad.add j) = some u) (h1 : ∀ u ∈ news, u.oneCell' = true)
    (h63 : n + m ≤ maxLen) (hbytes : (n + m) * bytes ≤ 140737488355328) (hbase : base ≤ w.heap.size)
    (h : ∀ v' w', w'.ownsRow base e size v' (n + m) (xs ++ news) → w.grownBy w' v.ownBlock → Fresh w v v' → wpList P ops Q rest (a.put o.dst v') w') : wpList P ops Q (o :: rest) a w := by
  refine wpList_plain hgd fun K hK => ?_
  obtain ⟨v', w', hr, h2, h3, h4⟩ := run_append_fresh (P := P) w base t o.type e i z size bytes ht hi hz hsize hby hzs hsz v n xs hown ad m c news hl hnews h1 h63 hbytes hbase
  unfold Oper.wp execOp
  simp only [ho, resolve, invoke, builtin, Sem.run_bind, Sem.run_pure, Result.andThen_ok, List.map_toArray, List.map_cons, List.map_nil, hs, hx, hr]
  exact hK _ _ (h v' w' h2 h3 h4)

theorem grownBy_trans {w w1 w2 : World} {v v1 : Value} (h : w.grownBy w1 v.ownBlock) (hf : Fresh w v v1) (k : w1.grownBy w2 v1.ownBlock) : w.grownBy w2 v.ownBlock :=
  ⟨k.os.trans h.os, k.tape.trans h.tape, k.output.trans h.output, Nat.le_trans h.size k.size, fun i hi h2 => by
    refine (k.block i (Nat.lt_of_lt_of_le hi h.size) (fun e => ?_)).trans (h.block i hi h2)
    rcases hf i e.symm with e' | e'
    · exact h2 e'.symm
    · omega⟩
theorem grownBy_refl (w : World) (o : Option Nat) : w.grownBy w o := ⟨rfl, rfl, rfl, Nat.le_refl _, fun _ _ _ => rfl⟩
theorem grownBy_step {w w1 w2 : World} {o : Option Nat} (h : w.grownBy w1 o) (k : w1.grownBy w2 o) : w.grownBy w2 o :=
  ⟨k.os.trans h.os, k.tape.trans h.tape, k.output.trans h.output, Nat.le_trans h.size k.size, fun i hi h2 => (k.block i (Nat.lt_of_lt_of_le hi h.size) h2).trans (h.block i hi h2)⟩
theorem grownBy_below {w w1 : World} {o : Option Nat} (h : Below w.heap.size w w1) : w.grownBy w1 o := ⟨h.os, h.tape, h.output, h.size, fun k hk _ => h.block k hk⟩

/-- Pointers to nodes. -/
def ptrs (l : List Nat) : List Value := l.map fun b => .pointer (some ⟨b, 0, none⟩)
theorem ptrs_length (l : List Nat) : (ptrs l).length = l.length := by simp [ptrs]
theorem ptrs_append (l m : List Nat) : ptrs (l ++ m) = ptrs l ++ ptrs m := by simp [ptrs]
theorem ptrs_one (l : List Nat) : ∀ u ∈ ptrs l, u.oneCell' = true := by
  intro u hu
  simp [ptrs] at hu
  obtain ⟨a, _, rfl⟩ := hu
  rfl

structure Nd where
  row : Nat → Value
  kids : Nat → List Nat

structure NdOk (tn te B : Nat) (th : Nat → Value) (w : World) (live : List Nat) (N : Nd) : Prop where
  blk : ∀ b, b ∈ live → w.heap[b]? = some (.cells #[th b, N.row b] tn)
  own : ∀ b, b ∈ live → w.ownsRow B te 1 (N.row b) (N.kids b).length (ptrs (N.kids b))
  apart : ∀ b, b ∈ live → ∀ c, c ∈ live → ∀ k, (N.row b).ownBlock = some k → (N.row c).ownBlock = some k → b = c
  base : ∀ b, b ∈ live → B ≤ b

/-- A row that is none of the nodes'. -/
def Apart (live : List Nat) (N : Nd) (v : Value) : Prop := ∀ b, b ∈ live → ∀ k, v.ownBlock = some k → (N.row b).ownBlock ≠ some k

/-- Nothing that was there has turned but nodes and their rows, which lie where they lay or are new. -/
structure Turn (live : List Nat) (N N' : Nd) (w w' : World) : Prop where
  os : w'.os = w.os
  tape : w'.tape = w.tape
  output : w'.output = w.output
  size : w.heap.size ≤ w'.heap.size
  keep : ∀ k, k < w.heap.size → k ∉ live → (∀ b, b ∈ live → (N.row b).ownBlock ≠ some k) → w'.heap[k]? = w.heap[k]?
  fresh : ∀ b, b ∈ live → Fresh w (N.row b) (N'.row b)

theorem Turn.refl (live : List Nat) (N : Nd) (w : World) : Turn live N N w w := ⟨rfl, rfl, rfl, Nat.le_refl _, fun _ _ _ _ => rfl, fun _ _ => Fresh.refl _ _⟩
theorem Turn.trans {live : List Nat} {N N1 N2 : Nd} {w w1 w2 : World} (h : Turn live N N1 w w1) (k : Turn live N1 N2 w1 w2) : Turn live N N2 w w2 :=
  ⟨k.os.trans h.os, k.tape.trans h.tape, k.output.trans h.output, Nat.le_trans h.size k.size, fun i hi hn hr => by
    refine (k.keep i (Nat.lt_of_lt_of_le hi h.size) hn (fun b hb e => ?_)).trans (h.keep i hi hn hr)
    rcases h.fresh b hb i e with e' | e'
    · exact hr b hb e'
    · omega, fun b hb => (h.fresh b hb).trans h.size (k.fresh b hb)⟩
theorem Turn.grow {live : List Nat} {N N1 : Nd} {w w1 w2 : World} {o : Option Nat} (h : Turn live N N1 w w1) (k : w1.grownBy w2 o) (ho : ∀ i, o = some i → w.heap.size ≤ i) : Turn live N N1 w w2 :=
  ⟨k.os.trans h.os, k.tape.trans h.tape, k.output.trans h.output, Nat.le_trans h.size k.size, fun i hi hn hr => (k.block i (Nat.lt_of_lt_of_le hi h.size) (fun e => by have := ho i e.symm; omega)).trans (h.keep i hi hn hr), h.fresh⟩
theorem Turn.drew {live : List Nat} {N N1 : Nd} {w w1 : World} (h : Turn live N N1 w w1) : Turn live N N1 w w1.drew := ⟨h.os, h.tape, h.output, h.size, h.keep, h.fresh⟩

section
variable {tn te B : Nat} {th : Nat → Value} {w w' : World} {live : List Nat} {N N' : Nd}

theorem NdOk.lt (h : NdOk tn te B th w live N) : ∀ b, b ∈ live → b < w.heap.size := fun b hb => (Array.getElem?_eq_some_iff.1 (h.blk b hb)).1

theorem NdOk.noRow (h : NdOk tn te B th w live N) (hne : tn ≠ te) {v : Value} {n : Nat} {xs : List Value} (hv : w.ownsRow B te 1 v n xs) : ∀ b, b ∈ live → v.ownBlock ≠ some b := by
  intro b hb e
  obtain ⟨c, fz, hc⟩ := Lib.ownsRow_kind hv b e
  rw [h.blk b hb] at hc
  injection hc with hc
  injection hc with _ hc
  exact hne hc

theorem NdOk.grow (h : NdOk tn te B th w live N) (hne : tn ≠ te) {v : Value} {n : Nat} {xs : List Value} (hv : w.ownsRow B te 1 v n xs) (ha : Apart live N v) (hg : w.grownBy w' v.ownBlock) : NdOk tn te B th w' live N :=
  ⟨fun b hb => by rw [hg.block b (h.lt b hb) (fun e => h.noRow hne hv b hb e.symm)]; exact h.blk b hb,
   fun b hb => (h.own b hb).kept hg (by
     rcases hr : (N.row b).ownBlock with _ | k
     · exact .inl rfl
     · exact .inr (fun e => ha b hb k e.symm hr)), h.apart, h.base⟩
theorem NdOk.below (h : NdOk tn te B th w live N) (hb : Below w.heap.size w w') : NdOk tn te B th w' live N :=
  ⟨fun b hl => by rw [hb.block b (h.lt b hl)]; exact h.blk b hl, fun b hl => (h.own b hl).kept (grownBy_below (o := none) hb) (by cases (N.row b).ownBlock <;> simp), h.apart, h.base⟩
theorem Apart.grow {v v' : Value} (ha : Apart live N v) (hl : NdOk tn te B th w live N) (hf : Fresh w v v') : Apart live N v' := fun b hb k hk e => by
  rcases hf k hk with e' | e'
  · exact ha b hb k e' e
  · have := ((hl.own b hb).lt k e).2; omega
theorem Apart.nil (live : List Nat) (N : Nd) : Apart live N (.slice none 0 0) := fun _ _ _ h => by simp [Value.ownBlock] at h

theorem Turn.row (h : Turn live N N' w w') (hl : NdOk tn te B th w live N) (hne : tn ≠ te) {v : Value} {n : Nat} {xs : List Value} (hv : w.ownsRow B te 1 v n xs) (ha : Apart live N v) : w'.ownsRow B te 1 v n xs ∧ Apart live N' v := by
  refine ⟨⟨hv.1, ?_⟩, fun b hb k hk e => ?_⟩
  · rcases hv.2 with hn | ⟨g, cap, cur, rfl, hbb, hgg, rest⟩
    · exact .inl hn
    · refine .inr ⟨g, cap, cur, rfl, hbb, ?_, rest⟩
      rw [h.keep g (Array.getElem?_eq_some_iff.1 hgg).1 (fun e => hl.noRow hne hv g e rfl) (fun b hb e => ha b hb g rfl e)]
      exact hgg
  · rcases h.fresh b hb k e with e' | e'
    · exact ha b hb k hk e'
    · have := (hv.lt k hk).2; omega

/-- A block of another kind is no node, and no node's row. -/
theorem Turn.other (h : Turn live N N' w w') (hl : NdOk tn te B th w live N) {p tp : Nat} {c : Array Value} (hp : w.heap[p]? = some (.cells c tp)) (h1 : tp ≠ tn) (h2 : tp ≠ te) : w'.heap[p]? = some (.cells c tp) := by
  rw [h.keep p (Array.getElem?_eq_some_iff.1 hp).1 (fun e => ?_) (fun b hb e => ?_)]
  · exact hp
  · rw [hl.blk p e] at hp
    injection hp with hp
    injection hp with _ hp
    exact h1 hp.symm
  · obtain ⟨c', fz, hc⟩ := Lib.ownsRow_kind (hl.own b hb) p e
    rw [hp] at hc
    injection hc with hc
    injection hc with _ hc
    exact h2 hc

theorem Turn.low (h : Turn live N N' w w') (hl : NdOk tn te B th w live N) (hB : B ≤ w.heap.size) : Below B w w' :=
  ⟨h.os, h.tape, h.output, h.size, fun k hk => h.keep k (by omega) (fun e => by have := hl.base k e; omega) (fun b hb e => by have := ((hl.own b hb).lt k e).1; omega)⟩

def Nd.add (N : Nd) (a b : Nat) (v : Value) : Nd := ⟨fun x => if x = a then v else N.row x, fun x => if x = a then N.kids a ++ [b] else N.kids x⟩

theorem heap_set1 {w : World} {p t : Nat} {x y : Value} (h : w.heap[p]? = some (.cells #[x, y] t)) (v : Value) : (w.setCell ⟨p, 1, none⟩ v).heap[p]? = some (.cells #[x, v] t) := by
  rw [heap_setCell_same w p 1 _ _ v h]
  simp

theorem meetMem (h : NdOk tn te B th w live N) (hne : tn ≠ te) {a b : Nat} (ha : a ∈ live) {v : Value} (hg : w.grownBy w' (N.row a).ownBlock)
    (ho : w'.ownsRow B te 1 v ((N.kids a).length + 1) (ptrs (N.kids a) ++ ptrs [b])) (hf : Fresh w (N.row a) v) :
    NdOk tn te B th (w'.setCell ⟨a, 1, none⟩ v) live (N.add a b v) ∧ Turn live N (N.add a b v) w (w'.setCell ⟨a, 1, none⟩ v) := by
  have hba : w'.heap[a]? = some (.cells #[th a, N.row a] tn) := by rw [hg.block a (h.lt a ha) (fun e => h.noRow hne (h.own a ha) a ha e.symm)]; exact h.blk a ha
  have hset : ∀ k, k ≠ a → (w'.setCell ⟨a, 1, none⟩ v).heap[k]? = w'.heap[k]? := fun k hk => heap_setCell_other _ _ _ _ hk
  have hsg : w'.grownBy (w'.setCell ⟨a, 1, none⟩ v) (some a) := ⟨rfl, rfl, rfl, by simp, fun k _ hk => hset k (fun e => hk (by rw [e]))⟩
  have hva : v.ownBlock ≠ some a := by
    intro e
    obtain ⟨c, fz, hc⟩ := Lib.ownsRow_kind ho a e
    rw [hba] at hc
    injection hc with hc
    injection hc with _ hc
    exact hne hc
  refine ⟨⟨fun b' hb => ?_, fun b' hb => ?_, fun b' hb c hc k e1 e2 => ?_, h.base⟩, hg.os, hg.tape, hg.output, by simpa using hg.size, fun k hk hn hr => ?_, fun b' hb => ?_⟩
  · by_cases e : b' = a
    · subst e
      simp only [Nd.add, if_true]
      exact heap_set1 hba v
    · simp only [Nd.add, if_neg e]
      rw [hset b' e, hg.block b' (h.lt b' hb) (fun e => h.noRow hne (h.own a ha) b' hb e.symm)]
      exact h.blk b' hb
  · by_cases e : b' = a
    · subst e
      simp only [Nd.add, if_true, List.length_append, List.length_cons, List.length_nil, ptrs_append]
      exact ho.kept hsg (.inr hva)
    · simp only [Nd.add, if_neg e]
      refine ((h.own b' hb).kept hg ?_).kept hsg ?_
      · rcases hr : (N.row b').ownBlock with _ | k
        · exact .inl rfl
        · exact .inr (fun e' => e (h.apart b' hb a ha k hr e'.symm))
      · exact .inr (fun e' => h.noRow hne (h.own b' hb) a ha e')
  · simp only [Nd.add] at e1 e2
    by_cases q1 : b' = a <;> by_cases q2 : c = a
    · rw [q1, q2]
    · rw [if_pos q1] at e1
      rw [if_neg q2] at e2
      rcases hf k e1 with e' | e'
      · exact absurd (h.apart c hc a ha k e2 e') q2
      · have := ((h.own c hc).lt k e2).2; omega
    · rw [if_neg q1] at e1
      rw [if_pos q2] at e2
      rcases hf k e2 with e' | e'
      · exact absurd (h.apart b' hb a ha k e1 e') q1
      · have := ((h.own b' hb).lt k e1).2; omega
    · rw [if_neg q1] at e1
      rw [if_neg q2] at e2
      exact h.apart b' hb c hc k e1 e2
  · rw [hset k (fun e => hn (by rw [e]; exact ha))]
    exact hg.block k hk (fun e => hr a ha e.symm)
  · by_cases e : b' = a
    · subst e
      simp only [Nd.add, if_true]
      exact hf
    · simp only [Nd.add, if_neg e]
      exact Fresh.refl _ _
end

/-- What stands on top and what stands under any is all. -/
def PermOk (live : List Nat) (N : Nd) (l : List Nat) : Prop := (l ++ live.flatMap N.kids).Perm live
/-- What stands under one is greater. -/
def OrdOk (live : List Nat) (key : Nat → Int) (N : Nd) : Prop := ∀ b, b ∈ live → ∀ c, c ∈ N.kids b → key b < key c

theorem flat_add {live : List Nat} (hd : live.Nodup) {a : Nat} (ha : a ∈ live) (N : Nd) (b : Nat) (v : Value) : (live.flatMap (N.add a b v).kids).Perm (b :: live.flatMap N.kids) := by
  induction live with
  | nil => simp at ha
  | cons x r ih =>
    rw [List.flatMap_cons, List.flatMap_cons]
    have hd' := List.nodup_cons.1 hd
    by_cases e : x = a
    · subst e
      have hr : r.flatMap (N.add x b v).kids = r.flatMap N.kids := by
        have hk : r.map (N.add x b v).kids = r.map N.kids := by
          refine List.map_congr_left fun y hy => ?_
          simp only [Nd.add]
          rw [if_neg (fun e : y = x => hd'.1 (e ▸ hy))]
        rw [List.flatMap_def, List.flatMap_def, hk]
      rw [hr]
      simp only [Nd.add, if_true]
      rw [List.append_assoc]
      exact (List.perm_append_comm_assoc _ _ _).trans (by simp)
    · have ha' : a ∈ r := by simpa [Ne.symm e] using ha
      simp only [Nd.add, if_neg e] at *
      exact ((ih hd'.2 ha').append_left _).trans List.perm_middle

theorem PermOk.add {live : List Nat} {N : Nd} {l : List Nat} {a b : Nat} (hd : live.Nodup) (h : PermOk live N (a :: b :: l)) (v : Value) : PermOk live (N.add a b v) (a :: l) := by
  have ha : a ∈ live := h.mem_iff.1 (by simp)
  unfold PermOk at *
  refine List.Perm.trans ?_ h
  refine ((flat_add hd ha N b v).append_left _).trans ?_
  simp only [List.cons_append, List.perm_cons]
  exact List.perm_middle
theorem PermOk.of {live : List Nat} {N : Nd} {l m : List Nat} (h : PermOk live N l) (hp : m.Perm l) : PermOk live N m := (hp.append_right _).trans h
theorem PermOk.mem {live : List Nat} {N : Nd} {l : List Nat} (h : PermOk live N l) {a : Nat} (ha : a ∈ l) : a ∈ live := h.mem_iff.1 (by simp [ha])
theorem PermOk.nodup {live : List Nat} {N : Nd} {l : List Nat} (h : PermOk live N l) (hd : live.Nodup) : l.Nodup := (List.nodup_append.1 (h.nodup_iff.2 hd)).1
theorem PermOk.few {live : List Nat} {N : Nd} {l : List Nat} (h : PermOk live N l) : l.length ≤ live.length := by
  have := h.length_eq
  simp at this
  omega
theorem kids_few {live : List Nat} {N : Nd} {l : List Nat} (h : PermOk live N l) {a : Nat} (ha : a ∈ live) : (N.kids a).length ≤ live.length := by
  have := h.length_eq
  have h2 : (N.kids a).length ≤ (live.flatMap N.kids).length := by
    clear h this
    induction live with
    | nil => simp at ha
    | cons x r ih =>
      rw [List.flatMap_cons, List.length_append]
      rcases List.mem_cons.1 ha with rfl | ha
      · omega
      · have := ih ha; omega
  rw [List.length_append] at this
  omega
theorem OrdOk.add {live : List Nat} {key : Nat → Int} {N : Nd} (h : OrdOk live key N) {a b : Nat} (hk : key a < key b) (v : Value) : OrdOk live key (N.add a b v) := by
  intro x hx c hc
  simp only [Nd.add] at hc
  by_cases e : x = a
  · subst e
    simp only [if_true] at hc
    rcases List.mem_append.1 hc with hc | hc
    · exact h x hx c hc
    · rw [List.mem_singleton.1 hc]; exact hk
  · rw [if_neg e] at hc
    exact h x hx c hc

theorem least_of (key : Nat → Int) : ∀ l : List Nat, l ≠ [] → ∃ m, m ∈ l ∧ ∀ x, x ∈ l → key m ≤ key x
  | [], h => absurd rfl h
  | [a], _ => ⟨a, by simp, by intro x hx; simp at hx; subst hx; omega⟩
  | a :: b :: r, _ => by
    obtain ⟨m, hm, hle⟩ := least_of key (b :: r) (by simp)
    by_cases h : key a ≤ key m
    · exact ⟨a, by simp, fun x hx => by rcases List.mem_cons.1 hx with rfl | hx; exact Int.le_refl _; have := hle x hx; omega⟩
    · exact ⟨m, List.mem_cons_of_mem _ hm, fun x hx => by rcases List.mem_cons.1 hx with rfl | hx; omega; exact hle x hx⟩

theorem top_least {live : List Nat} {key : Nat → Int} {N : Nd} {l : List Nat} (hp : PermOk live N l) (ho : OrdOk live key N) {m : Nat} (hle : ∀ x, x ∈ l → key m ≤ key x) : ∀ b, b ∈ live → key m ≤ key b := by
  intro b hb
  obtain ⟨q, hq, hql⟩ := least_of key live (fun e => by rw [e] at hb; simp at hb)
  have hqm := hp.mem_iff.2 hq
  rcases List.mem_append.1 hqm with h | h
  · have := hle q h; have := hql b hb; omega
  · obtain ⟨c, hc, hcq⟩ := List.mem_flatMap.1 h
    have := ho c hc q hcq
    have := hql c hc
    omega

/-- The one that comes off. -/
theorem PermOk.pop {live : List Nat} {N : Nd} {m : Nat} {o : List Nat} (h : PermOk live N (m :: o)) : PermOk (live.erase m) N (o ++ N.kids m) := by
  have hm : m ∈ live := h.mem (by simp)
  unfold PermOk at *
  have hp : live.Perm (m :: live.erase m) := List.perm_cons_erase hm
  have h1 : (live.flatMap N.kids).Perm (N.kids m ++ (live.erase m).flatMap N.kids) := by
    have := hp.flatMap_right N.kids
    rwa [List.flatMap_cons] at this
  have h2 : (m :: (o ++ N.kids m ++ (live.erase m).flatMap N.kids)).Perm (m :: live.erase m) := by
    refine List.Perm.trans ?_ (h.trans hp)
    simp only [List.cons_append, List.perm_cons, List.append_assoc]
    exact (h1.symm.append_left _)
  exact h2.cons_inv

theorem nodeCells {w : World} {p t : Nat} {x y : Value} (h : w.heap[p]? = some (.cells #[x, y] t)) : w.cell? ⟨p, 0, none⟩ = some x ∧ w.cell? ⟨p, 1, none⟩ = some y ∧ w.frozen? ⟨p, 1, none⟩ = false := by
  simp [World.cell?, World.frozen?, h]
theorem heapCells {w : World} {p t : Nat} {x y z : Value} (h : w.heap[p]? = some (.cells #[x, y, z] t)) : w.cell? ⟨p, 0, none⟩ = some x ∧ w.cell? ⟨p, 1, none⟩ = some y ∧ w.cell? ⟨p, 2, none⟩ = some z ∧ w.frozen? ⟨p, 1, none⟩ = false ∧ w.frozen? ⟨p, 2, none⟩ = false := by
  simp [World.cell?, World.frozen?, h]
theorem NdOk.drewN {tn te B : Nat} {th : Nat → Value} {w : World} {live : List Nat} {N : Nd} (h : NdOk tn te B th w live N) (n : Nat) : NdOk tn te B th (w.drewN n) live N := ⟨h.blk, h.own, h.apart, h.base⟩
theorem Turn.drewN {live : List Nat} {N N1 : Nd} {w w1 : World} (h : Turn live N N1 w w1) (n : Nat) : Turn live N N1 w (w1.drewN n) := ⟨h.os, h.tape, h.output, h.size, h.keep, h.fresh⟩
theorem Turn.undrew {live : List Nat} {N N1 : Nd} {w w1 : World} {n : Nat} (h : Turn live N N1 (w.drewN n) w1) : Turn live N N1 w w1 := ⟨h.os, h.tape, h.output, h.size, h.keep, h.fresh⟩
theorem nodeStay {tn te B : Nat} {th : Nat → Value} {w w' : World} {live : List Nat} {N : Nd} {o : Obj} {a : Nat} {rv : Value} (h : NdOk tn te B th w live N) (hne : tn ≠ te) (ha : a ∈ live) (hr : rv = N.row a) (hg : (w.alloc o).grownBy w' rv.ownBlock) : w'.heap[a]? = some (.cells #[th a, rv] tn) := by
  subst hr
  rw [hg.block a (by have := h.lt a ha; simp; omega) (fun e => h.noRow hne (h.own a ha) a ha e.symm), heap_alloc_old _ _ (h.lt a ha)]
  exact h.blk a ha

theorem news_one (w : World) (x t : Nat) : ∀ j u, (ptrs [x])[j]? = some u → (w.alloc (.cells #[.pointer (some ⟨x, 0, none⟩)] t)).cell? ((⟨w.heap.size, 0, none⟩ : Addr).add j) = some u := by
  intro j u hj
  rcases j with _ | j
  · simp [ptrs] at hj
    subst hj
    have hadd : (⟨w.heap.size, 0, none⟩ : Addr).add 0 = ⟨w.heap.size, 0, none⟩ := by unfold Addr.add; simp
    rw [hadd]
    unfold World.cell?
    simp only [heap_alloc_new]
    rfl
  · simp [ptrs] at hj

/-- How long a slice is. -/
def lenV : Value → Nat
  | .slice _ n _ => n
  | _ => 0
theorem drop_two {l : List Nat} {o x y : Nat} {r : List Nat} (h : l.drop o = x :: y :: r) : l[o]? = some x ∧ l[o + 1]? = some y ∧ l.drop (o + 2) = r := by
  refine ⟨?_, ?_, ?_⟩
  · have := congrArg (·[0]?) h
    simpa using this
  · have := congrArg (·[1]?) h
    simpa using this
  · have := congrArg (·.drop 2) h
    simpa using this
theorem row_cell {w : World} {B e g n c : Nat} {l : List Nat} (h : w.ownsRow B e 1 (.slice (some ⟨g, 0, none⟩) n c) n (ptrs l)) {j x : Nat} (hj : l[j]? = some x) : w.cell? ⟨g, j, none⟩ = some (.pointer (some ⟨x, 0, none⟩)) := by
  have := h.cells (g := g) rfl j (.pointer (some ⟨x, 0, none⟩)) (by simp [ptrs, hj])
  have hadd : (⟨g, 0, none⟩ : Addr).add j = ⟨g, j, none⟩ := by unfold Addr.add; split <;> simp_all
  rwa [hadd] at this
theorem Turn.undrew1 {live : List Nat} {N N1 : Nd} {w w1 : World} (h : Turn live N N1 w.drew w1) : Turn live N N1 w w1 := ⟨h.os, h.tape, h.output, h.size, h.keep, h.fresh⟩
theorem NdOk.drew {tn te B : Nat} {th : Nat → Value} {w : World} {live : List Nat} {N : Nd} (h : NdOk tn te B th w live N) : NdOk tn te B th w.drew live N := ⟨h.blk, h.own, h.apart, h.base⟩
theorem filter_two (p : Nat) (q : Option Nat) : [some p, q].filterMap id = p :: q.toList := by cases q <;> rfl
theorem filter_some (l : List Nat) : (l.map some).filterMap id = l := by induction l with
  | nil => rfl
  | cons a r ih => simp [List.filterMap_map]

/-- An append of a row of one's own to another. -/
theorem wpList_append_row {P : Program} (w : World) {ops : Array Oper} {rest : List Oper} {o : Oper} {a : Act} {Q : Exit → Act → World → Prop} (hgd : o.guard = none) (s x : Operand) (t : TypeId)
    (ho : o.op = .call { callee := .builtin .append, args := #[s, x], argTypes := #[t, t] })
    (base : Nat) (e : TypeId) (i : TypeInfo) (z : Value) (size bytes : Nat) (ht : P.underlying t = some (.slice e)) (hi : P.info? e = some i) (hz : i.zero = some z)
    (hsize : i.size = size) (hby : i.bytes = bytes) (hzs : z.cells.size = size) (hsz : 0 < size)
    (v : Value) (n : Nat) (xs : List Value) (hs : a.eval s = v) (hown : w.ownsRow base e size v n xs)
    (rv : Value) (m : Nat) (ys : List Value) (hx : a.eval x = rv) (hrv : w.ownsRow base e size rv m ys) (h1 : ∀ u ∈ ys, u.oneCell' = true)
    (h63 : n + m ≤ maxLen) (hbytes : (n + m) * bytes ≤ 140737488355328) (hbase : base ≤ w.heap.size)
    (h : ∀ v' w', w'.ownsRow base e size v' (n + m) (xs ++ ys) → w.grownBy w' v.ownBlock → Fresh w v v' → wpList P ops Q rest (a.put o.dst v') w') : wpList P ops Q (o :: rest) a w := by
  rcases hrv.2 with ⟨rfl, rfl⟩ | ⟨g, cap, cur, rfl, _, _, _⟩
  · have hy : ys = [] := List.eq_nil_of_length_eq_zero (by simpa using hrv.1)
    subst hy
    exact wpList_append_own_none hgd s x t ho base e i size ht hi v n xs hs hown hx (h v w (by simpa using hown) (grownBy_refl _ _) (Fresh.refl _ _))
  · exact wpList_append_fresh w hgd s x t ho base e i z size bytes ht hi hz hsize hby hzs hsz v n xs hs hown ⟨g, 0, none⟩ m cap ys hx hrv.1 (hrv.cells rfl) h1 h63 hbytes hbase h

/-- Of one structure's blocks to another's: nothing else has turned. -/
structure Moved (F F' : Nat → Prop) (w w' : World) : Prop where
  os : w'.os = w.os
  tape : w'.tape = w.tape
  output : w'.output = w.output
  size : w.heap.size ≤ w'.heap.size
  keep : ∀ k, k < w.heap.size → ¬ F k → w'.heap[k]? = w.heap[k]?
  foot : ∀ k, F' k → F k ∨ w.heap.size ≤ k
theorem Moved.trans {F F1 F2 : Nat → Prop} {w w1 w2 : World} (h : Moved F F1 w w1) (k : Moved F1 F2 w1 w2) : Moved F F2 w w2 :=
  ⟨k.os.trans h.os, k.tape.trans h.tape, k.output.trans h.output, Nat.le_trans h.size k.size, fun i hi hn => (k.keep i (Nat.lt_of_lt_of_le hi h.size) (fun e => by rcases h.foot i e with e | e; exact hn e; omega)).trans (h.keep i hi hn), fun i hi => by
    rcases k.foot i hi with e | e
    · exact h.foot i e
    · exact .inr (Nat.le_trans h.size e)⟩
theorem Moved.refl (F : Nat → Prop) (w : World) : Moved F F w w := ⟨rfl, rfl, rfl, Nat.le_refl _, fun _ _ _ => rfl, fun _ h => .inl h⟩
theorem Moved.low {F F' : Nat → Prop} {w w' : World} {B : Nat} (h : Moved F F' w w') (hF : ∀ k, F k → B ≤ k) (hB : B ≤ w.heap.size) : Below B w w' :=
  ⟨h.os, h.tape, h.output, h.size, fun k hk => h.keep k (by omega) (fun e => by have := hF k e; omega)⟩

/-- A heap's blocks. -/
def Foot (h : Nat) (live : List Nat) (N : Nd) (tv : Value) (k : Nat) : Prop := k = h ∨ k ∈ live ∨ (∃ b, b ∈ live ∧ (N.row b).ownBlock = some k) ∨ tv.ownBlock = some k

theorem heapSet {w : World} {h t : Nat} {a b c : Value} (hh : w.heap[h]? = some (.cells #[a, b, c] t)) (v s : Value) : ((w.setCell ⟨h, 1, none⟩ v).setCell ⟨h, 2, none⟩ s).heap[h]? = some (.cells #[a, v, s] t) := by
  have h1 : (w.setCell ⟨h, 1, none⟩ v).heap[h]? = some (.cells #[a, v, c] t) := by
    rw [heap_setCell_same w h 1 _ _ v hh]
    simp
  rw [heap_setCell_same _ h 2 _ _ s h1]
  simp
theorem NdOk.sub {tn te B : Nat} {th : Nat → Value} {w : World} {live live' : List Nat} {N : Nd} (h : NdOk tn te B th w live N) (hs : ∀ x, x ∈ live' → x ∈ live) : NdOk tn te B th w live' N :=
  ⟨fun b hb => h.blk b (hs b hb), fun b hb => h.own b (hs b hb), fun b hb c hc => h.apart b (hs b hb) c (hs c hc), fun b hb => h.base b (hs b hb)⟩
theorem NdOk.other {tn te B : Nat} {th : Nat → Value} {w w' : World} {live : List Nat} {N : Nd} (h : NdOk tn te B th w live N) {p tp : Nat} {c : Array Value} (hp : w.heap[p]? = some (.cells c tp)) (h1 : tp ≠ tn) (h2 : tp ≠ te) (hk : ∀ k, k ≠ p → w'.heap[k]? = w.heap[k]?) (hg : w.grownBy w' (some p)) : NdOk tn te B th w' live N := by
  have hnl : ∀ b, b ∈ live → b ≠ p := fun b hb e => by
    subst e
    rw [h.blk b hb] at hp
    injection hp with hp
    injection hp with _ hp
    exact h1 hp.symm
  have hnr : ∀ {v : Value} {n : Nat} {xs : List Value}, w.ownsRow B te 1 v n xs → v.ownBlock ≠ some p := fun hv e => by
    obtain ⟨c', fz, hc⟩ := Lib.ownsRow_kind hv p e
    rw [hp] at hc
    injection hc with hc
    injection hc with _ hc
    exact h2 hc
  exact ⟨fun b hb => by rw [hk b (hnl b hb)]; exact h.blk b hb, fun b hb => (h.own b hb).kept hg (.inr (hnr (h.own b hb))), h.apart, h.base⟩
theorem row_other {te B : Nat} {w : World} {p tp : Nat} {c : Array Value} (hp : w.heap[p]? = some (.cells c tp)) (h2 : tp ≠ te) {v : Value} {n : Nat} {xs : List Value} (hv : w.ownsRow B te 1 v n xs) : v.ownBlock ≠ some p := fun e => by
  obtain ⟨c', fz, hc⟩ := Lib.ownsRow_kind hv p e
  rw [hp] at hc
  injection hc with hc
  injection hc with _ hc
  exact h2 hc
theorem tops_some {live : List Nat} {key : Nat → Int} {N : Nd} {l : List Nat} (hp : PermOk live N l) (ho : OrdOk live key N) (hne : live ≠ []) : l ≠ [] := by
  intro e
  subst e
  obtain ⟨q, hq, hql⟩ := least_of key live hne
  have hqm := hp.mem_iff.2 hq
  simp only [List.nil_append] at hqm
  obtain ⟨c, hc, hcq⟩ := List.mem_flatMap.1 hqm
  have := ho c hc q hcq
  have := hql c hc
  omega

end Go.Proofs.Ytnejcjebepidcaa
