/-
  ActAgain: an act is done and written down.
-/
import Derived.Test.YtamkfcdehkdcpaaGa
namespace Go.Proofs.Ytamkfcdehkdcpaa
open Go.RowKit

structure Sl7 (a : Option Addr) (c : Nat) (l : List Ac) (fr : Int) (s : Nat) (u : Nat → Value) : Prop where
  h1 : u 1 = .slice a l.length c
  h2 : u 2 = .int .i64 fr
  h7 : u 7 = .pointer (some ⟨s + 1, 0, none⟩)
/-- Between two acts. -/
def I7a (w : World) (a : Option Addr) (c : Nat) (l : List Ac) (fr : Int) (s : Nat) (j : Nat) (x : Act) (w' : World) : Prop :=
  ∃ (u : Nat → Value) (lsn : Nat) (L : List Cl) (v rv : Value) (R : List Rc), x = frame7 u ∧ Sl7 a c l fr s u ∧ u 9 = rv ∧ u 10 = .int .i64 (j : Int) ∧ lsn ≤ 16 * j ∧ R.length ≤ j ∧ Ag7 w s lsn L v rv R w'
/-- A box in which a record was laid. -/
def boxW (w : World) (r : Rc) : World := (((((((((((((w.alloc (.cells (recC Rc.zero) 54)).setCell ⟨w.heap.size, 0, none⟩ (.int .i64 r.kind)).setCell ⟨w.heap.size, 1, none⟩ (.int .u64 (r.lsn : Int))).setCell ⟨w.heap.size, 2, none⟩ (.int .i64 r.txn)).setCell ⟨w.heap.size, 3, none⟩ (.int .u64 (r.prev : Int))).setCell ⟨w.heap.size, 4, none⟩ (.int .u64 (r.undo : Int))).setCell ⟨w.heap.size, 5, none⟩ (.int .i64 r.page)).setCell ⟨w.heap.size, 6, none⟩ (.int .i64 r.act.kind)).setCell ⟨w.heap.size, 7, none⟩ (.string (txt r.act.key))).setCell ⟨w.heap.size, 8, none⟩ (.string (txt r.act.old))).setCell ⟨w.heap.size, 9, none⟩ (.string (txt r.act.new))).setCell ⟨w.heap.size, 10, none⟩ (.slice r.ta r.tn r.tc)).setCell ⟨w.heap.size, 11, none⟩ (.slice r.da r.dn r.dc))
theorem boxW_at (w : World) (r : Rc) : (boxW w r).heap[w.heap.size]? = some (.cells (recC r) 54) := put12 (heap_alloc_new w _)
theorem boxW_below (w : World) (r : Rc) : Below w.heap.size w (boxW w r) := below_put12 ((Below.refl _ w).alloc (Nat.le_refl _) _) (Nat.le_refl _) _ _ _ _ _ _ _ _ _ _ _ _

def hdC : Code → Code
  | .seq a _ => a
  | c => c
def tlC : Code → Code
  | .seq _ b => b
  | c => c
def inC : Code → Code
  | .block _ c => c
  | c => c
noncomputable def blk7 : Code := inC (hdC (tlC loop7a))
theorem k7 {K : Act → World → Prop} {A : Act} {w : World} (hs : A.tmps.size = 104) (hd : A.defers = []) (h : K (frame7 fun i => A.tmps.getD i undef) w) : K A w := by
  rw [frame7_lit A hs hd]; exact h

set_option maxRecDepth 100000 in
set_option maxHeartbeats 3000000 in
theorem reg8 (b o n c j : Nat) (fr : Int) (s : Nat) (rv : Value) (t : Ac) (hlt : j < n) (h40 : j < 40) (u : Nat → Value) (wr : World) (h1 : u 1 = .slice (some ⟨b, o, none⟩) n c) (h2 : u 2 = .int .i64 fr) (h7 : u 7 = .pointer (some ⟨s + 1, 0, none⟩)) (h9 : u 9 = rv) (h10 : u 10 = .int .i64 (j : Int))
    (x0 : wr.cell? ⟨b, o + j * 4, none⟩ = some (.int .i64 t.kind)) (x1 : wr.cell? ⟨b, o + j * 4 + 1, none⟩ = some (.string (txt t.key))) (x2 : wr.cell? ⟨b, o + j * 4 + 2, none⟩ = some (.string (txt t.old))) (x3 : wr.cell? ⟨b, o + j * 4 + 3, none⟩ = some (.string (txt t.new))) (K : Act → World → Prop) (Q : Exit → Act → World → Prop)
    (hK : ∀ u' w', u' 1 = .slice (some ⟨b, o, none⟩) n c → u' 2 = .int .i64 fr → u' 7 = .pointer (some ⟨s + 1, 0, none⟩) → u' 9 = rv → u' 10 = .int .i64 (j : Int) → u' 11 = .pointer (some ⟨wr.heap.size, 0, none⟩) → w'.heap[wr.heap.size]? = some (.cells (recC ⟨1, 16 * (j + 1), 1, 0, 0, 4, t, none, 0, 0, none, 0, 0⟩) 54) → Below wr.heap.size wr w' → K (frame7 u') w') :
    Code.wp Try.prog (hdC blk7) (Exit.then K Q) (frame7 u) wr := by
  obtain ⟨tk, tx, ty, tz⟩ := t
  have HK : Hid _ := hK
  clear hK
  rw [frame7_open, h1, h2, h7, h9, h10]
  clear h1 h2 h7 h9 h10
  conv => arg 2; whnf
  go_wp2_with fail
  refine k7 rfl rfl (HK.out _ _ rfl rfl rfl rfl rfl rfl ?_ ((Below.refl _ wr).alloc (Nat.le_refl _) _))
  rw [heap_alloc_new]
  simp [recC]

theorem row_cells (w : World) (cs : Array Value) (t : TypeId) : ∀ j u, cs.toList[j]? = some u → (w.alloc (.cells cs t)).cell? ((⟨w.heap.size, 0, none⟩ : Addr).add j) = some u := by
  intro j u hu
  rw [addr_add]
  simp only [World.cell?, heap_alloc_new]
  simpa using hu
theorem recC_one (r : Rc) : ∀ u ∈ (recC r).toList, u.oneCell' = true := by
  intro u hu
  simp only [List.mem_cons, List.not_mem_nil, or_false] at hu
  rcases hu with h | h | h | h | h | h | h | h | h | h | h | h <;> (subst h; rfl)
theorem info_parts54 : ∃ i, Try.prog.info? 54 = some i ∧ i.zero = some (.agg (recC Rc.zero)) ∧ i.size = 12 ∧ i.bytes = 152 := by
  have h := Try.info54
  cases e : Try.prog.info? 54 with
  | none => rw [e] at h; simp at h
  | some i =>
    rw [e] at h
    simp at h
    exact ⟨i, rfl, h.1, h.2.1, h.2.2⟩
theorem box_kept {w : World} {s lsn : Nat} {L : List Cl} {v rv : Value} {R : List Rc} {W W' : World} (h : Ag7 w s lsn L v rv R W) (ht : Touch (s + 1) v.ownBlock W W') {g : Nat} {cs : Array Value} (hg : W.heap[g]? = some (.cells cs 54)) : W'.heap[g]? = some (.cells cs 54) := by
  rw [ht.block g (lt_of_blk hg) (fun q => ?_) (fun q => ?_)]
  · exact hg
  · subst q; rw [h.pg.blk] at hg; simp at hg
  · obtain ⟨c', fz', e'⟩ := Go.Lib.ownsRow_kind h.pg.own g q.symm
    rw [e'] at hg
    simp at hg

set_option maxRecDepth 100000 in
set_option maxHeartbeats 3000000 in
theorem rest9 (w : World) (b o n c j : Nat) (fr : Int) (s : Nat) (rv : Value) (t : Ac) (hlt : j < n) (h40 : j < 40) (u : Nat → Value) (wr : World) (g m : Nat) (h1 : u 1 = .slice (some ⟨b, o, none⟩) n c) (h2 : u 2 = .int .i64 fr) (h7 : u 7 = .pointer (some ⟨s + 1, 0, none⟩)) (h9 : u 9 = rv) (h10 : u 10 = .int .i64 (j : Int)) (h11 : u 11 = .pointer (some ⟨g, 0, none⟩))
    (x0 : wr.cell? ⟨b, o + j * 4, none⟩ = some (.int .i64 t.kind)) (x1 : wr.cell? ⟨b, o + j * 4 + 1, none⟩ = some (.string (txt t.key))) (x2 : wr.cell? ⟨b, o + j * 4 + 2, none⟩ = some (.string (txt t.old))) (x3 : wr.cell? ⟨b, o + j * 4 + 3, none⟩ = some (.string (txt t.new)))
    (hx : wr.heap[g]? = some (.cells (recC ⟨1, m, 1, 0, 0, 4, t, none, 0, 0, none, 0, 0⟩) 54)) (lsn : Nat) (L : List Cl) (v : Value) (R : List Rc) (hm : lsn < m) (hR : R.length ≤ j) (hG : Ag7 w s lsn L v rv R wr) (Q : Exit → Act → World → Prop)
    (hret : ∀ u' w', u' 6 = .bool true → Below w.heap.size w w' → Q .ret (frame7 u') w')
    (hnorm : ∀ u' w' lsn' L' v' rv' R', u' 1 = .slice (some ⟨b, o, none⟩) n c → u' 2 = .int .i64 fr → u' 7 = .pointer (some ⟨s + 1, 0, none⟩) → u' 9 = rv' → u' 10 = .int .i64 (j : Int) → (lsn' = lsn ∨ lsn' = m) → R'.length ≤ j + 1 → Ag7 w s lsn' L' v' rv' R' w' → Q .normal (frame7 u') w') :
    Code.wp Try.prog (tlC blk7) Q (frame7 u) wr := by
  obtain ⟨i0, hi, hz0, hz1, hz2⟩ := info_parts54
  have HG : Hid _ := hG
  have HX : Hid _ := hret
  have HN : Hid _ := hnorm
  have HSh : Hid _ := short_any t
  have HF : Hid _ := redo_first (L := L) (a := t) hm
  have HM : Hid _ := hm
  have hgx : Hid _ := hx
  obtain ⟨tk, tx, ty, tz⟩ := t
  simp only [actV, actC] at HSh
  obtain ⟨ra, rc, rfl⟩ := ownsRow_shape hG.row
  rw [frame7_open, h1, h2, h7, h9, h10, h11]
  clear h1 h2 h7 h9 h10 h11 hG hret hnorm hm hx
  conv => arg 2; whnf
  go_wp2_with fail
  refine (HSh.out _).mono ?_
  rintro e w3 ⟨⟨bb, rfl⟩, hb3⟩
  have HG3 : Hid _ := HG.out.on hb3
  have hg3 : w3.heap[g]? = some (.cells (recC ⟨1, m, 1, 0, 0, 4, ⟨tk, tx, ty, tz⟩, none, 0, 0, none, 0, 0⟩) 54) := by rw [hb3.block g (lt_of_blk hgx.out)]; exact hgx.out
  have HX3 : Hid _ := hg3
  obtain ⟨c0, c1, c2, c3, c4, c5, c6, c7, c8, c9, c10, c11, hzz⟩ := cell12 hg3
  clear hb3 x0 x1 x2 x3 HSh hgx hg3
  cases bb
  · go_wp2_with fail
    refine (lives_any _).mono ?_
    rintro e w4 ⟨rfl, hb4⟩
    go_wp2_with fail
    exact q7 rfl rfl (HX.out _ _ rfl (below_on (by have := HG3.out.bel; rw [HG3.out.sz] at this; exact this) hb4))
  · have HRd := redo_any (s + 1) (s + 1) 4 lsn v L ⟨1, m, 1, 0, 0, 4, ⟨tk, tx, ty, tz⟩, none, 0, 0, none, 0, 0⟩ w3 HG3.out.pg HG3.out.good
    rcases HF.out with e | ⟨er, hne, e⟩
    · have HGd := (show Hid _ from redo_good (r := ⟨1, m, 1, 0, 0, 4, ⟨tk, tx, ty, tz⟩, none, 0, 0, none, 0, 0⟩) (id := 4) (lsn := lsn) HG3.out.good)
      rw [e] at HRd HGd
      generalize (doL L ⟨tk, tx, ty, tz⟩).1 = L' at *
      simp only [recV, recC] at HRd
      clear HF e
      go_wp2_with fail
      refine HRd.mono ?_
      clear HRd
      rintro e w4 ⟨rfl, v4, hp4, ht4, _⟩
      have HG4 : Hid _ := HG3.out.redo hp4 HGd.out (Nat.le_of_lt HM.out) ht4
      have HX4 := (show Hid _ from box_kept HG3.out ht4 HX3.out)
      clear c0 c1 c2 c3 c4 c5 c6 c7 c8 c9 c10 c11 hzz hp4 ht4
      obtain ⟨c0, c1, c2, c3, c4, c5, c6, c7, c8, c9, c10, c11, hzz⟩ := cell12 HX4.out
      have hsz : s + 1 ≤ w4.heap.size := by have := HG4.out.bel.size; have := lt_of_blk HG4.out.pg.blk; omega
      have HO4 : Hid (w4.ownsRow (s + 1) 54 12 (.slice ra R.length rc) R.length (recsV R)) := HG4.out.row
      go_wp2_with (at_builtin; refine wpList_append_own _ rfl _ _ 49 rfl (s + 1) 54 i0 _ 12 152 Try.underlying49 hi hz0 hz1 hz2 rfl (by decide) _ R.length _ rfl (HO4.out.alloc _) ⟨w4.heap.size, 0, none⟩ 1 1 (recC ⟨1, m, 1, 0, 0, 4, ⟨tk, tx, ty, tz⟩, none, 0, 0, none, 0, 0⟩).toList rfl rfl (row_cells w4 (recC ⟨1, m, 1, 0, 0, 4, ⟨tk, tx, ty, tz⟩, none, 0, 0, none, 0, 0⟩) 54) (recC_one _) (by unfold maxLen; omega) (by omega) (by simp; omega) ?_; intro v' w5 hown hgrow _)
      have HG5 := (show Hid _ from (HG4.out.on ((Below.refl _ w4).alloc (Nat.le_refl _) _)).push ⟨1, m, 1, 0, 0, 4, ⟨tk, tx, ty, tz⟩, none, 0, 0, none, 0, 0⟩ ⟨rfl, rfl, Nat.le_refl _⟩ hgrow hown)
      clear hown hgrow c0 c1 c2 c3 c4 c5 c6 c7 c8 c9 c10 c11 hzz
      go_wp2_with fail
      exact q7 rfl rfl (HN.out _ _ _ _ _ _ _ rfl rfl rfl rfl rfl (.inr rfl) (by simp; omega) HG5.out)
    · rw [e] at HRd
      simp only [recV, recC] at HRd
      clear HF e
      go_wp2_with fail
      refine HRd.mono ?_
      clear HRd
      rintro e w4 ⟨rfl, v4, hp4, ht4, _⟩
      have HG4 : Hid _ := HG3.out.redo hp4 HG3.out.good (Nat.le_refl _) ht4
      clear c0 c1 c2 c3 c4 c5 c6 c7 c8 c9 c10 c11 hzz hp4 ht4
      go_wp2_with fail
      exact q7 rfl rfl (HN.out _ _ _ _ _ _ _ rfl rfl rfl rfl rfl (.inl rfl) (by omega) HG4.out)

end Go.Proofs.Ytamkfcdehkdcpaa
