/-
  StableStays: what stands in a sector stays; the slots and the memory of a round.
-/
import Derived.Test.YtbigclhfgcaccaaFr
import Derived.Test.YtbigclhfgcaccaaNa
import Derived.Deep.RegionHeld3
namespace Go.Proofs.Ytbigclhfgcaccaa
open Go.RowKit

def tailOf' : Nat → Code → Code
  | 0, c => c
  | k + 1, .seq _ b => tailOf' k b
  | _, c => c
def headOf : Code → Code
  | .seq a _ => a
  | c => c
def blkOf : Code → Code
  | .seq _ (.seq (.block _ b) _) => b
  | _ => .skip
noncomputable def loop7 : Code := (((Try.f7.body.map loopsOf).getD [])[0]?).getD .skip
noncomputable def body7 : Code := blkOf loop7

theorem q7 {Q0 : Exit → Act → World → Prop} {e : Exit} {A : Act} {w : World} (hs : A.tmps.size = 172) (hd : A.defers = []) (h : Q0 e (frame7 fun i => A.tmps.getD i undef) w) : Q0 e A w := by
  rw [frame7_lit A hs hd]; exact h
theorem wp7 {c : Code} {Q : Exit → Act → World → Prop} {A : Act} {w : World} (hs : A.tmps.size = 172) (hd : A.defers = []) (h : c.wp Try.prog Q (frame7 fun i => A.tmps.getD i undef) w) : c.wp Try.prog Q A w := by
  rw [frame7_lit A hs hd]; exact h
theorem k7 {K : Act → World → Prop} {A : Act} {w : World} (hs : A.tmps.size = 172) (hd : A.defers = []) (h : K (frame7 fun i => A.tmps.getD i undef) w) : K A w := by
  rw [frame7_lit A hs hd]; exact h

/-- What stands in a sector, and that nobody writes there. -/
structure Keep7 (A : Nat) (f : UInt8) (d : Dv) : Prop where
  len : d.b.length = 4096
  at' : A ≤ 63
  here : ∀ i, 64 * A ≤ i → i < 64 * A + 64 → d.b[i]? = some f
  away : ∀ (h a : Nat) (m : List UInt8), d.u[h]? = some (some (a, m)) → a + m.length ≤ 64 * A ∨ 64 * A + 64 ≤ a

theorem Keep7.read {A : Nat} {f : UInt8} {d : Dv} (h : Keep7 A f d) : (d.b.drop (64 * A)).take 64 = List.replicate 64 f := by
  have h1 := h.len
  have h2 := h.at'
  apply List.ext_getElem
  · simp; omega
  · intro i i1 i2
    simp at i2
    have := h.here (64 * A + i) (by omega) (by omega)
    rw [List.getElem?_eq_getElem (by omega)] at this
    rw [List.getElem_replicate, List.getElem_take, List.getElem_drop]
    exact Option.some.inj this

theorem Keep7.fin {A : Nat} {f : UInt8} {d : Dv} (h : Keep7 A f d) (hg : GoodD d) (hd k : Int) : Keep7 A f (finD d hd k) := by
  unfold finD
  split
  · split
    · rename_i a m e
      obtain ⟨_, _, _, f4⟩ := hg.fits _ _ _ e
      have aw := h.away _ _ _ e
      have hl : (m.take (64 * k.toNat)).length ≤ m.length := by simp; omega
      refine ⟨by rw [over_length _ _ _ (by omega)]; exact h.len, h.at', fun i i1 i2 => ?_, fun h' a' m' e' => ?_⟩
      · show (over d.b a (m.take (64 * k.toNat)))[i]? = some f
        rw [over_get _ _ _ (by omega), if_neg (by omega)]
        exact h.here i i1 i2
      · by_cases hh : hd.toNat = h'
        · subst hh
          rw [List.getElem?_set_self (by have := (List.getElem?_eq_some_iff.1 e).1; omega)] at e'
          simp at e'
        · rw [List.getElem?_set_ne hh] at e'
          exact h.away _ _ _ e'
    · exact h
  · exact h

theorem Keep7.start {A : Nat} {f : UInt8} {d : Dv} (h : Keep7 A f d) (hd pl : Int) (l : List UInt8) (haw : 0 ≤ pl → pl + l.length ≤ 64 * A ∨ 64 * (A : Int) + 64 ≤ pl) : Keep7 A f (startD d hd pl l) := by
  unfold startD
  split
  · rename_i e
    have hp : 0 ≤ pl := by
      unfold startE at e
      split at e
      · simp at e
      · split at e
        · simp at e
        · omega
    refine ⟨h.len, h.at', h.here, fun h' a' m' e' => ?_⟩
    by_cases hh : hd.toNat = h'
    · subst hh
      have hlt : hd.toNat < d.u.length := by
        have := (List.getElem?_eq_some_iff.1 e').1
        simpa using this
      rw [List.getElem?_set_self hlt] at e'
      simp at e'
      obtain ⟨rfl, rfl⟩ := e'
      have := haw hp
      omega
    · rw [List.getElem?_set_ne hh] at e'
      exact h.away _ _ _ e'
  · exact h

theorem Keep7.trim {A : Nat} {f : UInt8} {d : Dv} (h : Keep7 A f d) (a : Nat) (ha : 64 * A < a) (hl : a ≤ d.b.length) : Keep7 A f (trimD d a) := by
  have h1 := h.len
  have ht : trimN a ≤ d.b.length := by unfold trimN; omega
  have ht2 : 64 * A + 64 ≤ trimN a := by unfold trimN; omega
  unfold trimD
  refine ⟨by rw [over_length _ _ _ (by simp; omega)]; exact h1, h.at', fun i i1 i2 => ?_, h.away⟩
  show (over d.b (trimN a) (List.replicate (d.b.length - trimN a) 0))[i]? = some f
  rw [over_get _ _ _ (by simp; omega), if_neg (by omega)]
  exact h.here i i1 i2

/-- The slots that are read in the loop. -/
structure St7 (A : Nat) (f : UInt8) (a : Option Addr) (c n s j : Nat) (u : Nat → Value) : Prop where
  h0 : u 0 = .int .i64 (A : Int)
  h1 : u 1 = .int .u8 (f.toNat : Int)
  h2 : u 2 = .slice a n c
  h7 : u 7 = .pointer (some ⟨s + 1, 0, none⟩)
  h9 : u 9 = .int .i64 (j : Int)

/-- What lies there in a round. -/
structure Wd7 (s : Nat) (W1 : World) (g : Nat) (t : Op) (d : Dv) (W : World) : Prop where
  dev : Dev W [] (s + 1) s d
  tc : Touch (s + 1) s W1 W
  op : W.heap[g]? = some (.cells (opV t) 49)
  far : s + 2 ≤ g
theorem Wd7.below {s g : Nat} {W1 W W' : World} {t : Op} {d : Dv} (h : Wd7 s W1 g t d W) (hb : Below W.heap.size W W') : Wd7 s W1 g t d W' :=
  ⟨h.dev.below hb, h.tc.trans (Touch.of hb), by rw [hb.block _ (lt_of_blk h.op)]; exact h.op, h.far⟩
theorem Wd7.touch {s g : Nat} {W1 W W' : World} {t : Op} {d d' : Dv} (h : Wd7 s W1 g t d W) (ht : Touch (s + 1) s W W') (hd : Dev W' [] (s + 1) s d') : Wd7 s W1 g t d' W' :=
  ⟨hd, h.tc.trans ht, ht.blk h.op (by have := h.far; omega) (by have := h.far; omega), h.far⟩
theorem Wd7.cells {s g : Nat} {W1 W : World} {t : Op} {d : Dv} (h : Wd7 s W1 g t d W) : W.cell? ⟨g, 0, none⟩ = some (.int .i64 t.kind) ∧ W.cell? ⟨g, 1, none⟩ = some (.int .i64 t.hand) ∧ W.cell? ⟨g, 2, none⟩ = some (.int .i64 t.place) ∧ W.cell? ⟨g, 3, none⟩ = some (.int .i64 t.n) ∧ W.cell? ⟨g, 4, none⟩ = some (.int .u8 (t.fill.toNat : Int)) := by
  have y := h.op
  simp only [opV] at y
  exact ⟨by simp [World.cell?, y], by simp [World.cell?, y], by simp [World.cell?, y], by simp [World.cell?, y], by simp [World.cell?, y]⟩

end Go.Proofs.Ytbigclhfgcaccaa
