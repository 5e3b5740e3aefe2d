/-
  ActAgain: a page, and the records that were done to it.
-/
import Derived.Test.YtamkfcdehkdcpaaAl
import Derived.Test.YtamkfcdehkdcpaaPw
import Derived.Test.YtamkfcdehkdcpaaOr
import Derived.Lib.OwnKind
namespace Go.Proofs.Ytamkfcdehkdcpaa
open Go.RowKit

/-- A frame of 104 slots. -/
def frame7 (u : Nat → Value) : Act := ⟨((List.range 104).map u).toArray, []⟩
set_option maxRecDepth 100000 in
theorem frame7_open (u : Nat → Value) : frame7 u = ⟨#[u 0, u 1, u 2, u 3, u 4, u 5, u 6, u 7, u 8, u 9, u 10, u 11, u 12, u 13, u 14, u 15, u 16, u 17, u 18, u 19, u 20, u 21, u 22, u 23, u 24, u 25, u 26, u 27, u 28, u 29, u 30, u 31, u 32, u 33, u 34, u 35, u 36, u 37, u 38, u 39, u 40, u 41, u 42, u 43, u 44, u 45, u 46, u 47, u 48, u 49, u 50, u 51, u 52, u 53, u 54, u 55, u 56, u 57, u 58, u 59, u 60, u 61, u 62, u 63, u 64, u 65, u 66, u 67, u 68, u 69, u 70, u 71, u 72, u 73, u 74, u 75, u 76, u 77, u 78, u 79, u 80, u 81, u 82, u 83, u 84, u 85, u 86, u 87, u 88, u 89, u 90, u 91, u 92, u 93, u 94, u 95, u 96, u 97, u 98, u 99, u 100, u 101, u 102, u 103], []⟩ := by kernel_rfl
theorem frame7_lit (a : Act) (hs : a.tmps.size = 104) (hd : a.defers = []) : a = frame7 (fun i => a.tmps.getD i undef) := by
  obtain ⟨⟨l⟩, d⟩ := a
  simp at hs hd
  subst hd
  unfold frame7
  congr 2
  apply List.ext_getElem
  · simp [hs]
  · intro i h1 h2
    simp [h1]

theorem wp7 {c : Code} {Q : Exit → Act → World → Prop} {A : Act} {w : World} (hs : A.tmps.size = 104) (hd : A.defers = []) (h : c.wp Try.prog Q (frame7 fun i => A.tmps.getD i undef) w) : c.wp Try.prog Q A w := by
  rw [frame7_lit A hs hd]; exact h
theorem q7 {Q0 : Exit → Act → World → Prop} {e : Exit} {A : Act} {w : World} (hs : A.tmps.size = 104) (hd : A.defers = []) (h : Q0 e (frame7 fun i => A.tmps.getD i undef) w) : Q0 e A w := by
  rw [frame7_lit A hs hd]; exact h
/-- The loops of a code, one behind the other. -/
def loopsOf : Code → List Code
  | .loop c => [c]
  | .seq a b => loopsOf a ++ loopsOf b
  | .block _ c => loopsOf c
  | .scope c => loopsOf c
  | .cond _ a b => loopsOf a ++ loopsOf b
  | _ => []
def tailOf : Nat → Code → Code
  | 0, c => c
  | k + 1, .seq _ b => tailOf k b
  | _, c => c
noncomputable def body7 : Code := (Try.f7.body).getD .skip
noncomputable def loop7a : Code := ((loopsOf body7)[0]?).getD .skip
noncomputable def loop7b : Code := ((loopsOf body7)[1]?).getD .skip

theorem Try.info54 : (Try.prog.info? 54).map (fun i => (i.zero, i.size, i.bytes)) = some (some (.agg #[.int .i64 0, .int .u64 0, .int .i64 0, .int .u64 0, .int .u64 0, .int .i64 0, .int .i64 0, .string ⟨#[]⟩, .string ⟨#[]⟩, .string ⟨#[]⟩, .slice none 0 0, .slice none 0 0]), 12, 152) := by kernel_rfl

def recsV (l : List Rc) : List Value := l.flatMap fun r => (recC r).toList
theorem recsV_append (l m : List Rc) : recsV (l ++ m) = recsV l ++ recsV m := by simp [recsV]
theorem recsV_at (l : List Rc) (i : Nat) (t : Rc) (h : l[i]? = some t) (j : Nat) (hj : j < 12) : (recsV l)[i * 12 + j]? = (recC t).toList[j]? := by
  induction l generalizing i with
  | nil => simp at h
  | cons c r ih =>
    have e : recsV (c :: r) = (recC c).toList ++ recsV r := rfl
    cases i with
    | zero => simp at h; subst h; rw [e, List.getElem?_append_left (by simp; omega)]; simp
    | succ i =>
      have := ih i (by simpa using h)
      rw [e, List.getElem?_append_right (by simp; omega), ← this]
      congr 1
      simp
      omega

theorem ownsRow_same {w w' : World} {B : Nat} {e : TypeId} {size : Nat} {v : Value} {n : Nat} {xs : List Value} (h : w.ownsRow B e size v n xs) (hk : ∀ k, v.ownBlock = some k → w'.heap[k]? = w.heap[k]?) : w'.ownsRow B e size v n xs := by
  refine ⟨h.1, ?_⟩
  rcases h.2 with h2 | ⟨g, cap, cur, hv, hg, hh, r⟩
  · exact .inl h2
  · refine .inr ⟨g, cap, cur, hv, hg, ?_, r⟩
    rw [hk g (by rw [hv]; rfl)]
    exact hh

/-- A page in block s + 1, a row of records of its own, each of which the page has. -/
structure Ag7 (w : World) (s : Nat) (lsn : Nat) (L : List Cl) (v rv : Value) (R : List Rc) (W : World) : Prop where
  pg : PgOk W (s + 1) (s + 1) 4 lsn v L
  good : GoodL L
  row : W.ownsRow (s + 1) 54 12 rv R.length (recsV R)
  low : ∀ r ∈ R, r.kind = 1 ∧ r.page = 4 ∧ r.lsn ≤ lsn
  sz : s = w.heap.size
  bel : Below s w W

theorem Ag7.away {w : World} {s lsn : Nat} {L : List Cl} {v rv : Value} {R : List Rc} {W : World} (h : Ag7 w s lsn L v rv R W) (k : Nat) (hk : rv.ownBlock = some k) : k ≠ s + 1 ∧ v.ownBlock ≠ some k ∧ k < W.heap.size := by
  obtain ⟨c, fz, e⟩ := Go.Lib.ownsRow_kind h.row k hk
  refine ⟨fun q => ?_, fun q => ?_, lt_of_blk e⟩
  · subst q
    rw [h.pg.blk] at e
    simp at e
  · obtain ⟨c', fz', e'⟩ := Go.Lib.ownsRow_kind h.pg.own k q
    rw [e'] at e
    simp at e

theorem Ag7.on {w : World} {s lsn : Nat} {L : List Cl} {v rv : Value} {R : List Rc} {W W' : World} (h : Ag7 w s lsn L v rv R W) (hb : Below W.heap.size W W') : Ag7 w s lsn L v rv R W' :=
  ⟨h.pg.below hb (Nat.le_refl _), h.good, ownsRow_below h.row hb (ownsRow_lt h.row), h.low, h.sz, h.bel.trans (hb.mono (by have := h.bel.size; have := h.sz; omega))⟩

theorem Ag7.redo {w : World} {s lsn lsn' : Nat} {L L' : List Cl} {v v' rv : Value} {R : List Rc} {W W' : World} (h : Ag7 w s lsn L v rv R W) (hp : PgOk W' (s + 1) (s + 1) 4 lsn' v' L') (hg : GoodL L') (hl : lsn ≤ lsn') (ht : Touch (s + 1) v.ownBlock W W') : Ag7 w s lsn' L' v' rv R W' :=
  ⟨hp, hg, ownsRow_same h.row (fun k hk => by obtain ⟨a1, a2, a3⟩ := h.away k hk; exact ht.block k a3 a1 (fun e => a2 e.symm)), fun r hr => by obtain ⟨b1, b2, b3⟩ := h.low r hr; exact ⟨b1, b2, by omega⟩, h.sz, h.bel.trans ((h.pg.touched ht).mono (by omega))⟩

theorem Ag7.push {w : World} {s lsn : Nat} {L : List Cl} {v rv rv' : Value} {R : List Rc} {W W' : World} (h : Ag7 w s lsn L v rv R W) (r : Rc) (hr : r.kind = 1 ∧ r.page = 4 ∧ r.lsn ≤ lsn) (hg : W.grownBy W' rv.ownBlock) (ho : W'.ownsRow (s + 1) 54 12 rv' (R.length + 1) (recsV R ++ (recC r).toList)) : Ag7 w s lsn L v rv' (R ++ [r]) W' := by
  have hs := h.sz
  have hz := h.bel.size
  have hp := lt_of_blk h.pg.blk
  have e : recsV R ++ (recC r).toList = recsV (R ++ [r]) := by rw [recsV_append]; simp [recsV]
  refine ⟨⟨?_, ?_, h.pg.ne, h.pg.base⟩, h.good, by rw [List.length_append, ← e]; exact ho, ?_, h.sz, h.bel.trans ⟨hg.os, hg.tape, hg.output, hg.size, fun k hk => hg.block k (by omega) (fun q => ?_)⟩⟩
  · rw [hg.block (s + 1) hp (fun q => (h.away _ q.symm).1 rfl)]; exact h.pg.blk
  · exact ownsRow_same h.pg.own (fun k hk => hg.block k (ownsRow_lt h.pg.own k hk) (fun q => (h.away k q.symm).2.1 hk))
  · intro x hx
    rcases List.mem_append.mp hx with q | q
    · exact h.low x q
    · simp at q; subst q; exact hr
  · have := (h.row.lt k q.symm).1; omega

/-- A record of the row, told by its cells. -/
theorem Ag7.told {w : World} {s lsn : Nat} {L : List Cl} {v : Value} {a : Option Addr} {n c : Nat} {R : List Rc} {W : World} (h : Ag7 w s lsn L v (.slice a n c) R W) (i : Nat) (hi : i < R.length) : n = R.length ∧ ∃ g, a = some ⟨g, 0, none⟩ ∧ g < W.heap.size ∧ ∀ j u, (recC R[i]).toList[j]? = some u → W.cell? ⟨g, i * 12 + j, none⟩ = some u := by
  rcases h.row.2 with ⟨h1, h2⟩ | ⟨g, cap, cur, h1, _⟩
  · omega
  · simp at h1
    obtain ⟨rfl, rfl, rfl⟩ := h1
    refine ⟨rfl, g, rfl, (h.row.lt g rfl).2, fun j u hu => ?_⟩
    have hj : j < 12 := by have := (List.getElem?_eq_some_iff.mp hu).1; simpa using this
    have e := recsV_at R i _ (List.getElem?_eq_getElem hi) j hj
    have k0 := h.row.cells (g := g) rfl _ _ (e.trans hu)
    simpa [addr_add] using k0

theorem redo_again {L : List Cl} {lsn : Nat} {r : Rc} (h : r.kind = 1 ∧ r.page = 4 ∧ r.lsn ≤ lsn) : redoM 4 L lsn r = ((L, lsn), false, 0) := by
  unfold redoM
  rw [if_neg (by rw [h.1]; simp [chgB, h.2.1]), if_pos h.2.2]
theorem redo_first {L : List Cl} {lsn l2 : Nat} {a : Ac} (h : lsn < l2) : (redoM 4 L lsn ⟨1, l2, 1, 0, 0, 4, a, none, 0, 0, none, 0, 0⟩ = (((doL L a).1, l2), true, 0)) ∨ ∃ e, ¬ e = 0 ∧ redoM 4 L lsn ⟨1, l2, 1, 0, 0, 4, a, none, 0, 0, none, 0, 0⟩ = ((L, lsn), false, e) := by
  unfold redoM
  rw [if_neg (by simp [chgB]), if_neg (by simp; omega)]
  by_cases hd : (doL L a).2 = 0
  · exact .inl (by rw [if_neg (by simpa using hd)])
  · exact .inr ⟨_, hd, by rw [if_pos hd]⟩

end Go.Proofs.Ytamkfcdehkdcpaa
