/-
  The table's Get; what is written; a change that fits.
-/
import Derived.Test.YtebchgoaelamcaaDoorJa
import Derived.Test.YtebchgoaelamcaaDoorHc
import Derived.Laws.ResultCell
namespace Go.Proofs.YtebchgoaelamcaaDoor
open Go.RowKit
set_option maxRecDepth 100000

theorem putA {w wX : World} {n g : Nat} {z0 z1 z2 z3 : Value} (hB : Below n w wX) (hm : wX.heap[g]? = some (.cells #[z0, z1, z2, z3] 46)) (hg : n ≤ g) (u0 u1 u2 u3 : Value) :
    (((((wX.setCell ⟨g, 0, none⟩ u0).setCell ⟨g, 1, none⟩ u1).setCell ⟨g, 2, none⟩ u2).setCell ⟨g, 3, none⟩ u3).cell? ⟨g, 0, none⟩ = some u0 ∧
    ((((wX.setCell ⟨g, 0, none⟩ u0).setCell ⟨g, 1, none⟩ u1).setCell ⟨g, 2, none⟩ u2).setCell ⟨g, 3, none⟩ u3).cell? ⟨g, 1, none⟩ = some u1 ∧
    ((((wX.setCell ⟨g, 0, none⟩ u0).setCell ⟨g, 1, none⟩ u1).setCell ⟨g, 2, none⟩ u2).setCell ⟨g, 3, none⟩ u3).cell? ⟨g, 2, none⟩ = some u2 ∧
    ((((wX.setCell ⟨g, 0, none⟩ u0).setCell ⟨g, 1, none⟩ u1).setCell ⟨g, 2, none⟩ u2).setCell ⟨g, 3, none⟩ u3).cell? ⟨g, 3, none⟩ = some u3) ∧
    Below n w ((((wX.setCell ⟨g, 0, none⟩ u0).setCell ⟨g, 1, none⟩ u1).setCell ⟨g, 2, none⟩ u2).setCell ⟨g, 3, none⟩ u3) := by
  have h1 := heap_setCell_same wX g 0 _ 46 u0 hm
  have h2 := heap_setCell_same _ g 1 _ 46 u1 h1
  have h3 := heap_setCell_same _ g 2 _ 46 u2 h2
  have h4 := heap_setCell_same _ g 3 _ 46 u3 h3
  obtain ⟨r0, r1, r2, r3, _⟩ := cell4 (show _ = some (Obj.cells #[u0, u1, u2, u3] 46) from h4)
  exact ⟨⟨r0, r1, r2, r3⟩, (((hB.setCell hg _).setCell hg _).setCell hg _).setCell hg _⟩

/-- The table's Get. -/
def tgetL (l : List Cl) (k : List UInt8) : List UInt8 × Int := match getL l k with
  | none => ([], 4)
  | some v => (v, 2)
theorem tget_nil (k : List UInt8) (w : World) : Calls Tryd.prog 22 #[.pointer none, .string (txt k)] w fun e w' => e = .returned (.tuple #[.string (txt []), .int .i64 11]) ∧ w' = w := by
  go_enter Tryd.func22, Tryd.ntmps22
  go_wp2_with fail
  exact bodyPost_ret (v := .tuple #[.string ⟨#[]⟩, .int .i64 11]) (by simp [results, Tryd.results22, go_sem]) rfl ⟨rfl, rfl⟩
theorem tget_any (B p : Nat) (id : Int) (lsn : Nat) (v : Value) (l : List Cl) (k : List UInt8) (w : World) (h : PgOk w B p id lsn v l) (hg : GoodL l) :
    Calls Tryd.prog 22 #[.pointer (some ⟨p, 0, none⟩), .string (txt k)] w fun e w' => e = .returned (.tuple #[.string (txt (tgetL l k).1), .int .i64 (tgetL l k).2]) ∧ Below w.heap.size w w' := by
  have HG := toHid (get_any B p id lsn v l k w h (by have := hg.few; omega))
  clear h hg
  go_enter Tryd.func22, Tryd.ntmps22
  go_wp2_with fail
  refine Calls.mono HG.out ?_
  rintro e w1 ⟨rfl, hb⟩
  have HB := toHid hb
  clear hb
  cases hq : getL l k with
  | none =>
    have HT : Hid (tgetL l k = ([], 4)) := by unfold tgetL Hid; rw [hq]
    simp only [Option.isSome_none]
    go_wp2_with fail
    refine bodyPost_ret (v := .tuple #[.string ⟨#[]⟩, .int .i64 4]) (by simp [results, Tryd.results22, go_sem]) rfl ⟨?_, HB.out⟩
    rw [HT.out]
    rfl
  | some x =>
    have HT : Hid (tgetL l k = (x, 2)) := by unfold tgetL Hid; rw [hq]
    simp only [Option.isSome_some, Option.getD_some]
    go_wp2_with fail
    refine bodyPost_ret (v := .tuple #[.string (txt x), .int .i64 2]) (by simp [results, Tryd.results22, go_sem]) rfl ⟨?_, HB.out⟩
    rw [HT.out]

theorem written_any (b : Bool) (key old val : List UInt8) (w : World) : Calls Tryd.prog 46 #[.bool b, .string (txt key), .string (txt old), .string (txt val)] w fun e w' => e = .returned (actV (if b then ⟨2, key, old, val⟩ else ⟨1, key, [], val⟩)) ∧ Below w.heap.size w w' := by
  cases b
  · go_enter Tryd.func46, Tryd.ntmps46
    go_wp2_with fail
    refine bodyPost_ret (v := .agg #[.int .i64 1, .string (txt key), .string ⟨#[]⟩, .string (txt val)]) (by simp only [results, Tryd.results46, go_sem]; simp [go_sem]) rfl ⟨?_, (Below.refl _ _).alloc (Nat.le_refl _) _⟩
    rfl
  · go_enter Tryd.func46, Tryd.ntmps46
    go_wp2_with fail
    refine bodyPost_ret (v := .agg #[.int .i64 2, .string (txt key), .string (txt old), .string (txt val)]) (by simp only [results, Tryd.results46, go_sem]; simp [go_sem]) rfl ⟨?_, (Below.refl _ _).alloc (Nat.le_refl _) _⟩
    rfl

/-- A change that fits. -/
def fitL (l : List Cl) (a : Ac) : Ac × Int := if (doL l a).2 = 0 then (a, 1) else (⟨0, [], [], []⟩, 8)
theorem fitting_any (B p : Nat) (id : Int) (lsn : Nat) (v : Value) (l : List Cl) (a : Ac) (w : World) (h : PgOk w B p id lsn v l) (hg : GoodL l) :
    Calls Tryd.prog 45 #[.pointer (some ⟨p, 0, none⟩), actV a] w fun e w' => e = .returned (.tuple #[actV (fitL l a).1, .int .i64 (fitL l a).2]) ∧ Below w.heap.size w w' := by
  obtain ⟨k, x, y, z⟩ := a
  have hB := ((Below.refl w.heap.size w).alloc (Nat.le_refl _) (.cells #[.int .i64 k, .string (txt x), .string (txt y), .string (txt z)] 46)).alloc (by have := size_alloc w (.cells #[.int .i64 k, .string (txt x), .string (txt y), .string (txt z)] 46); omega) (.cells #[.int .i64 0, .string ⟨#[]⟩, .string ⟨#[]⟩, .string ⟨#[]⟩] 46)
  have hz : (w.alloc (.cells #[.int .i64 k, .string (txt x), .string (txt y), .string (txt z)] 46)).heap.size = w.heap.size + 1 := by rw [World.alloc, Array.size_push]
  have hn := heap_alloc_new (w.alloc (.cells #[.int .i64 k, .string (txt x), .string (txt y), .string (txt z)] 46)) (.cells #[.int .i64 0, .string ⟨#[]⟩, .string ⟨#[]⟩, .string ⟨#[]⟩] 46)
  rw [hz] at hn
  have hm : ((w.alloc (.cells #[.int .i64 k, .string (txt x), .string (txt y), .string (txt z)] 46)).alloc (.cells #[.int .i64 0, .string ⟨#[]⟩, .string ⟨#[]⟩, .string ⟨#[]⟩] 46)).heap[w.heap.size]? = some (.cells #[.int .i64 k, .string (txt x), .string (txt y), .string (txt z)] 46) := by rw [Below.heap_alloc _ _ _ (by omega)]; exact heap_alloc_new _ _
  generalize hw0 : (w.alloc (.cells #[.int .i64 k, .string (txt x), .string (txt y), .string (txt z)] 46)).alloc (.cells #[.int .i64 0, .string ⟨#[]⟩, .string ⟨#[]⟩, .string ⟨#[]⟩] 46) = w0 at hB hn hm
  have HPl := toHid (plan_any B p id lsn v l ⟨k, x, y, z⟩ w0 (h.below hB (Nat.le_refl _)) hg)
  have HZ := toHid hz
  obtain ⟨c0, c1, c2, c3, f0, f1, f2, f3, _⟩ := cell4 hm
  have HM := toHid hm
  have HN := toHid hn
  have HB := toHid hB
  clear h hg hz hm hn hB
  simp only [actV, actC] at *
  go_enter Tryd.func45, Tryd.ntmps45
  go_wp2_with fail
  clear hw0 HZ
  refine Calls.mono HPl.out ?_
  rintro e w1 ⟨rfl, b1⟩
  clear c0 c1 c2 c3 f0 f1 f2 f3
  have lM : w.heap.size < w0.heap.size := (Array.getElem?_eq_some_iff.mp HM.out).1
  have lN : w.heap.size + 1 < w0.heap.size := (Array.getElem?_eq_some_iff.mp HN.out).1
  have M1 := (b1.block _ lM).trans HM.out
  have N1 := (b1.block _ lN).trans HN.out
  have B1 := HB.out.trans (b1.mono (by omega))
  clear HPl HM HN HB b1 lM lN
  obtain ⟨c0, c1, c2, c3, f0, f1, f2, f3, _⟩ := cell4 M1
  obtain ⟨d0, d1, d2, d3, g0, g1, g2, g3, _⟩ := cell4 N1
  by_cases h0 : (doL l ⟨k, x, y, z⟩).2 = 0
  · have HF : Hid (fitL l ⟨k, x, y, z⟩ = (⟨k, x, y, z⟩, 1)) := by unfold fitL Hid; rw [if_pos h0]
    have HP := toHid (putA B1 N1 (by omega) (.int .i64 k) (.string (txt x)) (.string (txt y)) (.string (txt z)))
    rw [h0]
    clear M1 N1 B1 h0
    go_wp2_with fail
    obtain ⟨⟨r0, r1, r2, r3⟩, _⟩ := HP.out
    refine bodyPost_ret (v := .tuple #[.agg #[.int .i64 k, .string (txt x), .string (txt y), .string (txt z)], .int .i64 1]) ?_ rfl ⟨?_, HP.out.2⟩
    · rw [results_cell_tmp rfl]
      go_simp
    · rw [HF.out]
  · have hd : ((doL l ⟨k, x, y, z⟩).2 == 0) = false := by simp [h0]
    have HF : Hid (fitL l ⟨k, x, y, z⟩ = (⟨0, [], [], []⟩, 8)) := by unfold fitL Hid; rw [if_neg h0]
    have HP := toHid (putA B1 N1 (by omega) (.int .i64 0) (.string ⟨#[]⟩) (.string ⟨#[]⟩) (.string ⟨#[]⟩))
    clear M1 N1 B1
    go_wp2_with fail
    obtain ⟨⟨r0, r1, r2, r3⟩, _⟩ := HP.out
    refine bodyPost_ret (v := .tuple #[.agg #[.int .i64 0, .string ⟨#[]⟩, .string ⟨#[]⟩, .string ⟨#[]⟩], .int .i64 8]) ?_ rfl ⟨?_, HP.out.2⟩
    · rw [results_cell_tmp rfl]
      go_simp
    · rw [HF.out]
      rfl
end Go.Proofs.YtebchgoaelamcaaDoor
