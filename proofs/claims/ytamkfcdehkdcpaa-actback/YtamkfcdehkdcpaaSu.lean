/-
  ActBack: its frame, and the region that takes the change back.
-/
import Derived.Test.YtamkfcdehkdcpaaSt
import Derived.Test.YtamkfcdehkdcpaaPw
import Derived.Test.YtamkfcdehkdcpaaRe
import Derived.Deep.RegionHeld3
namespace Go.Proofs.Ytamkfcdehkdcpaa
open Go.RowKit

/-- The regions of a code that bear a number. -/
def regsOf (n : Nat) : Code → List Code
  | .region k ops d => if k = n then [.region k ops d] else []
  | .loop c => regsOf n c
  | .seq a b => regsOf n a ++ regsOf n b
  | .block _ c => regsOf n c
  | .scope c => regsOf n c
  | .cond _ a b => regsOf n a ++ regsOf n b
  | _ => []
def regOf (n : Nat) (c : Code) : Code := ((regsOf n c)[0]?).getD .skip

/-- A frame of 94 slots. -/
def frame5 (u : Nat → Value) : Act := ⟨((List.range 94).map u).toArray, []⟩
set_option maxRecDepth 100000 in
theorem frame5_open (u : Nat → Value) : frame5 u = ⟨#[u 0, u 1, u 2, u 3, u 4, u 5, u 6, u 7, u 8, u 9, u 10, u 11, u 12, u 13, u 14, u 15, u 16, u 17, u 18, u 19, u 20, u 21, u 22, u 23, u 24, u 25, u 26, u 27, u 28, u 29, u 30, u 31, u 32, u 33, u 34, u 35, u 36, u 37, u 38, u 39, u 40, u 41, u 42, u 43, u 44, u 45, u 46, u 47, u 48, u 49, u 50, u 51, u 52, u 53, u 54, u 55, u 56, u 57, u 58, u 59, u 60, u 61, u 62, u 63, u 64, u 65, u 66, u 67, u 68, u 69, u 70, u 71, u 72, u 73, u 74, u 75, u 76, u 77, u 78, u 79, u 80, u 81, u 82, u 83, u 84, u 85, u 86, u 87, u 88, u 89, u 90, u 91, u 92, u 93], []⟩ := by kernel_rfl
theorem frame5_lit (a : Act) (hs : a.tmps.size = 94) (hd : a.defers = []) : a = frame5 (fun i => a.tmps.getD i undef) := by
  obtain ⟨⟨l⟩, d⟩ := a
  simp at hs hd
  subst hd
  unfold frame5
  congr 2
  apply List.ext_getElem
  · simp [hs]
  · intro i h1 h2
    simp [h1]

theorem wp5 {c : Code} {Q : Exit → Act → World → Prop} {A : Act} {w : World} (hs : A.tmps.size = 94) (hd : A.defers = []) (h : c.wp Try.prog Q (frame5 fun i => A.tmps.getD i undef) w) : c.wp Try.prog Q A w := by
  rw [frame5_lit A hs hd]; exact h
theorem k5 {K : Act → World → Prop} {A : Act} {w : World} (hs : A.tmps.size = 94) (hd : A.defers = []) (h : K (frame5 fun i => A.tmps.getD i undef) w) : K A w := by
  rw [frame5_lit A hs hd]; exact h
noncomputable def body5 : Code := (Try.f5.body).getD .skip

theorem own_touch {W W' : World} {D B p : Nat} {id : Int} {lsn : Nat} {v vv : Value} {l : List Cl} {n : Nat} {xs : List Value} (h : W.ownsRow D 69 2 vv n xs) (hp : PgOk W B p id lsn v l) (ht : Touch p v.ownBlock W W') : W'.ownsRow D 69 2 vv n xs := by
  refine ⟨h.1, ?_⟩
  rcases h.2 with h2 | ⟨g, cap, cur, hv, hD, hh, r⟩
  · exact .inl h2
  · refine .inr ⟨g, cap, cur, hv, hD, ?_, r⟩
    rw [ht.block g (lt_of_blk hh) (fun e => ?_) (fun e => ?_)]
    · exact hh
    · subst e
      have := hp.blk
      rw [hh] at this
      simp at this
    · rcases hp.own.2 with ⟨h3, _⟩ | ⟨g', cap', cur', h3, _, hh', _⟩
      · rw [h3] at e; simp [Value.ownBlock] at e
      · rw [h3] at e
        simp [Value.ownBlock] at e
        subst e
        rw [hh] at hh'
        simp at hh'

/-- A page in block p, and the box of a change ahead of it. -/
structure BkOk (w : World) (a : Ac) (p : Nat) (v : Value) (L : List Cl) (W : World) : Prop where
  pg : PgOk W (w.heap.size + 2) p 2 0 v L
  good : GoodL L
  bel : Below (w.heap.size + 1) (w.alloc (.cells (actC a) 35)) W
theorem BkOk.box {w W : World} {a : Ac} {p : Nat} {v : Value} {L : List Cl} (h : BkOk w a p v L W) : W.heap[w.heap.size]? = some (.cells (actC a) 35) := by
  rw [h.bel.block _ (by omega)]
  exact heap_alloc_new _ _
theorem BkOk.low {w W : World} {a : Ac} {p : Nat} {v : Value} {L : List Cl} (h : BkOk w a p v L W) : Below w.heap.size w W :=
  ((Below.refl _ w).alloc (Nat.le_refl _) _).trans (h.bel.mono (by omega))
theorem BkOk.size {w W : World} {a : Ac} {p : Nat} {v : Value} {L : List Cl} (h : BkOk w a p v L W) : w.heap.size + 2 ≤ W.heap.size := by
  have h1 := h.pg.base
  have h2 := lt_of_blk h.pg.blk
  omega
theorem BkOk.call {w W W' : World} {a : Ac} {p : Nat} {v : Value} {L : List Cl} (h : BkOk w a p v L W) (hb : Below W.heap.size W W') : BkOk w a p v L W' :=
  ⟨h.pg.below hb (Nat.le_refl _), h.good, h.bel.trans (hb.mono (by have := h.size; omega))⟩
theorem BkOk.does {w W W' : World} {a b : Ac} {p : Nat} {v v' : Value} {L : List Cl} (h : BkOk w a p v L W) (hp : PgOk W' (w.heap.size + 2) p 2 0 v' (doL L b).1) (ht : Touch p v.ownBlock W W') : BkOk w a p v' (doL L b).1 W' :=
  ⟨hp, do_good h.good b, h.bel.trans ((h.pg.touched ht).mono (by omega))⟩
theorem BkOk.drew {w W : World} {a : Ac} {p : Nat} {v : Value} {L : List Cl} (h : BkOk w a p v L W) : BkOk w a p v L W.drew := h.call (Below.refl _ _).drew
theorem ownQ_on {W W' : World} {D : Nat} {vv : Value} {n : Nat} {xs : List Value} (h : W.ownsRow D 69 2 vv n xs) (hb : Below W.heap.size W W') : W'.ownsRow D 69 2 vv n xs := ownsRow_below h hb (fun k hk => (World.ownsRow.lt h k hk).2)
theorem actC4 {W : World} {s : Nat} {a : Ac} (h : W.heap[s]? = some (.cells (actC a) 35)) : W.cell? ⟨s, 0, none⟩ = some (.int .i64 a.kind) ∧ W.cell? ⟨s, 1, none⟩ = some (.string (txt a.key)) ∧ W.cell? ⟨s, 2, none⟩ = some (.string (txt a.old)) ∧ W.cell? ⟨s, 3, none⟩ = some (.string (txt a.new)) := by
  simp [World.cell?, h]

end Go.Proofs.Ytamkfcdehkdcpaa
