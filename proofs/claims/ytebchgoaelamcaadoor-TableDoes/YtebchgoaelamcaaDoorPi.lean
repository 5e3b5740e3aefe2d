/-
  Update and Delete.
-/
import Derived.Test.YtebchgoaelamcaaDoorPh
namespace Go.Proofs.YtebchgoaelamcaaDoor
open Go.RowKit
set_option maxRecDepth 100000

set_option maxRecDepth 20000 in
set_option maxHeartbeats 1000000 in
theorem update_any (B p : Nat) (id : Int) (lsn : Nat) (v : Value) (l : List Cl) (k x : List UInt8) (w : World) (h : PgOk w B p id lsn v l) (hg : GoodL l) (hk : k.length ≤ maxLen) (hx : x.length ≤ maxLen) :
    Calls Tryd.prog 96 #[.pointer (some ⟨p, 0, none⟩), .string (txt k), .string (txt x)] w fun e w' => e = .returned (.int .i64 (updL l k x).2) ∧ PgOk w' B p id lsn v (updL l k x).1 ∧ Touch p v.ownBlock w w' := by
  have h64 := hg.few
  have HP := (show Hid _ from h)
  have HG := (show Hid _ from hg)
  have hsh := ownsRow_shape h.own
  obtain ⟨a, cap, rfl⟩ := hsh
  obtain ⟨p0, p1, p2, f0, f1, f2, hz⟩ := h.cells
  have HS := (show Hid _ from (slC_of_own h.own).1)
  clear h hg
  cases hm : mayK k x
  · have hma := may_any k x w hk hx
    rw [hm] at hma
    have HE : Hid (updL l k x = (l, 1)) := by show _ = _; unfold updL; rw [hm]; rfl
    clear hm
    go_enter Tryd.func96, Tryd.ntmps96
    go_wp2_with fail
    refine Calls.mono hma ?_
    rintro e w1 ⟨rfl, hw1⟩
    obtain rfl := hw1.symm
    go_wp2
    go_ret
    rw [HE.out]
    exact ⟨rfl, HP.out, Touch.refl _ _ _⟩
  · have hma := may_any k x w hk hx
    rw [hm] at hma
    have hks := mayK_small hm
    have HM := (show Hid _ from hm)
    clear hm
    go_enter Tryd.func96, Tryd.ntmps96
    go_wp2_with fail
    refine Calls.mono hma ?_
    rintro e w1 ⟨rfl, hw1⟩
    obtain rfl := hw1.symm
    go_wp2_with fail
    refine Calls.mono (find_any k a cap l _ HS.out (by omega)) ?_
    rintro e w1 ⟨rfl, hb1⟩
    have HB1 := (show Hid _ from hb1)
    clear hb1 p0 p1 p2 f0 f1 f2 hz hma
    cases hf : l.findIdx? (isKey k) with
    | none =>
      have HE : Hid (updL l k x = (l, 8)) := by show _ = _; unfold updL; rw [HM.out, hf]; rfl
      simp only [ixI]
      go_wp2
      go_ret
      rw [HE.out]
      exact ⟨rfl, HP.out.below HB1.out (Nat.le_refl _), Touch.of HB1.out⟩
    | some i =>
      have HE : Hid (updL l k x = fillL l i (cellOfKV k x)) := by show _ = _; unfold updL; rw [HM.out, hf]; rfl
      obtain ⟨hi, _⟩ := find_some hf
      simp only [ixI]
      go_wp2_with fail
      refine Calls.mono (kept_any k x _ (by omega) (by omega)) ?_
      rintro e w2 ⟨rfl, hb2⟩
      have HB2 := (show Hid _ from below_on HB1.out hb2)
      have HP2 := (show Hid _ from HP.out.below HB2.out (Nat.le_refl _))
      obtain ⟨p0, p1, p2, f0, f1, f2, hz⟩ := HP2.out.cells
      clear hb2
      go_wp2_with fail
      refine Calls.mono (fill_any B p id lsn _ l i (cellOfKV k x) _ HP2.out HG.out hi hks) ?_
      rintro e w4 ⟨rfl, hp4, ht4⟩
      go_wp2
      go_ret
      rw [HE.out]
      exact ⟨rfl, hp4, (Touch.of HB2.out).trans ht4⟩

/-- A row cut. -/
theorem own_cut {w : World} {B g cap : Nat} {l m : List Cl} (h : w.ownsRow B 55 3 (.slice (some ⟨g, 0, none⟩) l.length cap) l.length (cellsV l)) (hm : ∃ q, l = m ++ q) :
    w.ownsRow B 55 3 (.slice (some ⟨g, 0, none⟩) m.length cap) m.length (cellsV m) := by
  obtain ⟨q, rfl⟩ := hm
  rcases h.2 with ⟨h1, _⟩ | ⟨g', cap', cur, h1, hB, hh, hc, hm, hs, ht⟩
  · simp at h1
  · simp at h1
    obtain ⟨rfl, rfl⟩ := h1
    simp only [List.length_append] at hc ht
    refine ⟨cellsV_length m, .inr ⟨g, cap, cur, rfl, hB, hh, by omega, hm, hs, ?_⟩⟩
    have := congrArg (List.take (m.length * 3)) ht
    rw [List.take_take, cellsV_append, List.take_left' (cellsV_length m), Nat.min_eq_left (by omega)] at this
    exact this

set_option maxRecDepth 20000 in
set_option maxHeartbeats 1000000 in
theorem delete_any (B p : Nat) (id : Int) (lsn : Nat) (v : Value) (l : List Cl) (k : List UInt8) (w : World) (h : PgOk w B p id lsn v l) (hg : GoodL l) :
    Calls Tryd.prog 97 #[.pointer (some ⟨p, 0, none⟩), .string (txt k)] w fun e w' => e = .returned (.int .i64 (delL l k).2) ∧ ∃ v', PgOk w' B p id lsn v' (delL l k).1 ∧ Touch p v.ownBlock w w' ∧ v'.ownBlock = v.ownBlock := by
  have h64 := hg.few
  have HP := (show Hid _ from h)
  have hsh := ownsRow_shape h.own
  obtain ⟨a, cap, rfl⟩ := hsh
  obtain ⟨p0, p1, p2, f0, f1, f2, hz⟩ := h.cells
  have HS := (show Hid _ from (slC_of_own h.own).1)
  clear h hg
  go_enter Tryd.func97, Tryd.ntmps97
  go_wp2_with fail
  refine Calls.mono (find_any k a cap l _ HS.out (by omega)) ?_
  rintro e w1 ⟨rfl, hb1⟩
  have HB1 := (show Hid _ from hb1)
  have HP1 := (show Hid _ from HP.out.below hb1 (Nat.le_refl _))
  clear hb1 p0 p1 p2 f0 f1 f2 hz
  cases hf : l.findIdx? (isKey k) with
  | none =>
    have HE : Hid (delL l k = (l, 8)) := by show _ = _; unfold delL; rw [hf]
    simp only [ixI]
    go_wp2
    go_ret
    rw [HE.out]
    exact ⟨rfl, _, HP1.out, Touch.of HB1.out, rfl⟩
  | some i =>
    have HE : Hid (delL l k = (trimL (l.set i Cl.none), 0)) := by show _ = _; unfold delL; rw [hf]
    obtain ⟨hi, _⟩ := find_some hf
    have HF := (show Hid _ from hf)
    clear hf
    obtain ⟨g, cap', he, hcap⟩ := own_some HP1.out.own (by omega)
    simp only [Value.slice.injEq] at he
    obtain ⟨rfl, _, rfl⟩ := he
    obtain ⟨p0, p1, p2, f0, f1, f2, hz⟩ := HP1.out.cells
    obtain ⟨hgz, c0, c1, c2⟩ := (slC_of_own HP1.out.own).1.here i hi
    simp only [Nat.zero_add] at c0 c1 c2
    have e0 := row_free HP1.out.own (i * 3)
    have e1 := row_free HP1.out.own (i * 3 + 1)
    have e2 := row_free HP1.out.own (i * 3 + 2)
    have R : Hid (PgOk (((w1.setCell ⟨g, i * 3, none⟩ (.bool false)).setCell ⟨g, i * 3 + 1, none⟩ (.string ⟨#[]⟩)).setCell ⟨g, i * 3 + 2, none⟩ (.string ⟨#[]⟩)) B p id lsn (.slice (some ⟨g, 0, none⟩) l.length cap) (l.set i Cl.none)) := HP1.out.put i hi Cl.none
    have T : Hid (Touch p (some g) w (((w1.setCell ⟨g, i * 3, none⟩ (.bool false)).setCell ⟨g, i * 3 + 1, none⟩ (.string ⟨#[]⟩)).setCell ⟨g, i * 3 + 2, none⟩ (.string ⟨#[]⟩))) := by
      refine Touch.setCell (Touch.setCell (Touch.setCell (Touch.of HB1.out) ?_ _) ?_ _) ?_ _ <;> exact .inr rfl
    obtain ⟨r0, r1, r2, s0, s1, s2, rz⟩ := R.out.cells
    have hll : (l.set i Cl.none).length = l.length := List.length_set ..
    have hX := trimmed_any (some ⟨g, 0, none⟩) cap (l.set i Cl.none) _ (slC_of_own (by rw [hll]; exact (hll ▸ R.out.own))).1 (by omega) (by omega)
    rw [hll] at hX
    have HO := (show Hid _ from R.out.own)
    rw [← hll] at HO
    simp only [ixI]
    go_wp2_with fail
    refine Calls.mono hX ?_
    rintro e w2 ⟨rfl, hw2⟩
    subst hw2
    go_wp2
    go_ret
    rw [HE.out]
    refine ⟨rfl, .slice (some ⟨g, 0, none⟩) (trimL (l.set i Cl.none)).length cap, ?_, Touch.setP T.out _ _, rfl⟩
    have hcut := own_cut (m := trimL (l.set i Cl.none)) HO.out (by obtain ⟨q, hq, _⟩ := trimL_prefix (l.set i Cl.none); exact ⟨q, hq⟩)
    exact ⟨heap_setCell_same _ _ _ _ _ _ R.out.blk, ownsRow_setCell_other hcut (a := ⟨p, 2, none⟩) R.out.ne _, R.out.ne, R.out.base⟩

end Go.Proofs.YtebchgoaelamcaaDoor
