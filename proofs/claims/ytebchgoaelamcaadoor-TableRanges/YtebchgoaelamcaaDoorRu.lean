/-
  The document's Update and Delete.
-/
import Derived.Test.YtebchgoaelamcaaDoorRz
namespace Go.Proofs.YtebchgoaelamcaaDoor
open Go.RowKit
set_option maxRecDepth 100000

set_option maxRecDepth 20000 in
set_option maxHeartbeats 3000000 in
theorem refupdate_any (id : Int) (lsn : Nat) (a : Option Addr) (c : Nat) (l : List Cl) (k x : List UInt8) (w : World) (h : SlC w a l) (hg : GoodL l) :
    Calls Tryd.prog 48 #[.agg (refP id lsn a l.length c), .string (txt k), .string (txt x)] w fun e w' => ∃ a', (∃ c', e = .returned (.tuple #[.agg (refP id lsn a' (updL l k x).1.length c'), .int .i64 (updL l k x).2])) ∧ SlC w' a' (updL l k x).1 ∧ ((a' = a ∧ (updL l k x).1 = l) ∨ ∀ y, a' = some y → w.heap.size ≤ y.block) ∧ Below w.heap.size w w' := by
  have h64 := hg.few
  have HG := (show Hid _ from hg)
  have HB0 : Hid (Below w.heap.size w ((w.alloc (.cells #[.int .i64 id, .int .u64 (lsn : Int), .slice a l.length c] 39)).alloc (.cells #[.int .i64 0, .int .u64 0, .slice none 0 0] 39))) := ((Below.refl _ _).alloc (Nat.le_refl _) _).alloc (by simp) _
  have HS := (show Hid _ from h)
  have HLT : Hid (∀ x, a = some x → l ≠ [] → x.block ≠ w.heap.size + 1) := fun x hx hl => by have := slC_lt h x hx hl; omega
  have HM := (show Hid _ from refmay_any k x)
  clear h hg
  cases hm : mayK k x
  · have HE : Hid (updL l k x = (l, 1)) := by show _ = _; unfold updL; rw [if_neg (by simp [hm])]
    rw [hm] at HM
    have HF1 : Hid (Below w.heap.size w ((w.alloc (.cells #[.int .i64 id, .int .u64 (lsn : Int), .slice a l.length c] 39)).alloc (.cells #[.int .i64 id, .int .u64 (lsn : Int), .slice a l.length c] 39))) := ((Below.refl _ _).alloc (Nat.le_refl _) _).alloc (by simp) _
    clear hm
    simp only [refP] at *
    go_enter Tryd.func48, Tryd.ntmps48
    go_wp2_with fail
    refine Calls.mono (HM.out _) ?_
    rintro e w1 ⟨rfl, hw1⟩
    obtain rfl := hw1.symm
    go_wp2
    (try simp only [Exit.inBlock, Exit.then])
    refine bodyPost_ret (v := .tuple #[.agg (refP id lsn a l.length c), .int .i64 1]) ?_ rfl ⟨a, ⟨c, ?_⟩, ?_, .inl ⟨rfl, by rw [HE.out]⟩, ?_⟩
    · rw [results_cell_tmp rfl]
      simp only [refP]
      go_simp
    · rw [HE.out]; rfl
    · rw [HE.out]; exact HS.out.below (by first | with_reducible exact HF1.out | with_reducible exact HB0.out)
    · first | with_reducible exact HF1.out | with_reducible exact HB0.out
  rw [hm] at HM
  have HMay := (show Hid _ from hm)
  clear hm
  have HFd := (show Hid _ from reffind_any id lsn a c l k _ (HS.out.below HB0.out) (by omega))
  simp only [refP] at *
  go_enter Tryd.func48, Tryd.ntmps48
  go_wp2_with fail
  refine Calls.mono (HM.out _) ?_
  rintro e w1 ⟨rfl, hw1⟩
  obtain rfl := hw1.symm
  go_wp2_with fail
  refine Calls.mono HFd.out ?_
  rintro e w2 ⟨rfl, hb2⟩
  have HB2 := (show Hid _ from below_on HB0.out hb2)
  obtain ⟨k0, k1⟩ := two_kept hb2
  have HK2 := (show Hid _ from k0)
  have HQ2 := (show Hid _ from k1)
  obtain ⟨p0, p1, p2, f0, f1, f2, hz⟩ := cell3 k0
  obtain ⟨q0, q1, q2, g0, g1, g2, hz2⟩ := cell3 k1
  clear hb2 k0 k1 HM HFd
  cases hf : l.findIdx? (isKey k) with
  | none =>
    have HE : Hid (updL l k x = (l, 8)) := by show _ = _; unfold updL; rw [HMay.out, hf]; rfl
    simp only [ixI]
    obtain ⟨r0, r1, r2, hS, hB⟩ := put_end (id := id) (lsn := lsn) (k := l.length) (xc := c) HB2.out HQ2.out (HS.out.below HB2.out) (fun x hx => HLT.out x hx)
    have HF := (show Hid _ from And.intro hS hB)
    clear hS hB
    go_wp2
    (try simp only [Exit.inBlock, Exit.then])
    refine bodyPost_ret (v := .tuple #[.agg (refP id lsn a l.length c), .int .i64 8]) ?_ rfl ⟨a, ⟨c, ?_⟩, ?_, .inl ⟨rfl, by rw [HE.out]⟩, HF.out.2⟩
    · rw [results_cell_tmp rfl]
      simp only [refP]
      go_simp
    · rw [HE.out]; rfl
    · rw [HE.out]; exact HF.out.1
  | some m =>
    have HIns := (show Hid _ from upd_ref HG.out HMay.out hf)
    have hks := mayK_small HMay.out
    obtain ⟨hml, _⟩ := find_some hf
    simp only [ixI]
    clear hf
    have HWi := (show Hid _ from refwith_any id lsn a c l m (cellOfKV k x))
    generalize hD : withL l m (cellOfKV k x) = D at *
    have HDs : Hid (∀ y ∈ D, y.key.length ≤ 16 ∧ y.val.length ≤ 32) := fun y hy => by
      rw [← hD] at hy
      rcases with_mem hy with h1 | rfl
      · exact HG.out.small y h1
      · exact hks
    have HDl : Hid (D.length ≤ 65) := by show _ ≤ _; rw [← hD]; have := with_len l m (cellOfKV k x); omega
    have HB3 := HB2
    have HK3 := HK2
    have HQ3 := HQ2
    clear hD
    simp only [refP, cellV, cellOfKV] at HWi
    go_wp2_with fail
    refine Calls.mono (HWi.out _ (HS.out.below HB3.out) (by omega) (by omega)) ?_
    rintro e w4 ⟨a4, ⟨c4, rfl⟩, hs4, hnb4, hb4⟩
    have hB4 := below_on HB3.out hb4
    have hBq := (Below.refl w4.heap.size w4).alloc (Nat.le_refl _) (.cells #[.int .i64 id, .int .u64 (lsn : Int), .slice a4 D.length c4] 39)
    have HB5 := (show Hid _ from below_on hB4 hBq)
    have HK5 := (show Hid _ from box_in' (box_in' HK3.out hb4) hBq)
    have HQ5 := (show Hid _ from box_in' (box_in' HQ3.out hb4) hBq)
    have HX5 : Hid ((w4.alloc (.cells #[.int .i64 id, .int .u64 (lsn : Int), .slice a4 D.length c4] 39)).heap[w4.heap.size]? = some (.cells #[.int .i64 id, .int .u64 (lsn : Int), .slice a4 D.length c4] 39)) := heap_alloc_new _ _
    have HS5 := (show Hid _ from hs4.below hBq)
    have HA4 : Hid (∀ y, a4 = some y → D ≠ [] → y.block ≠ w.heap.size + 1) := fun y hy _ => by have := hnb4 y hy; have := (cell3 HQ2.out).2.2.2.2.2.2; simp at *; omega
    have HN4 : Hid (∀ y, a4 = some y → w.heap.size ≤ y.block) := fun y hy => by have := hnb4 y hy; have := HB2.out.size; simp at *; omega
    clear hb4 hB4 hBq hs4 hnb4 p0 p1 p2 f0 f1 f2 hz q0 q1 q2 g0 g1 g2 hz2 HWi
    obtain ⟨p0, p1, p2, f0, f1, f2, hz⟩ := cell3 HK5.out
    obtain ⟨q0, q1, q2, g0, g1, g2, hz2⟩ := cell3 HQ5.out
    obtain ⟨x0, x1, x2, y0, y1, y2, hz3⟩ := cell3 HX5.out
    have HFr := (show Hid _ from reffree_any id lsn a4 c4 D _ HS5.out HDs.out (by have := HDl.out; omega))
    simp only [refP] at HFr
    go_wp2_with fail
    refine Calls.mono HFr.out ?_
    rintro e w6 ⟨rfl, hb6⟩
    have HB6 := (show Hid _ from below_on HB5.out hb6)
    have HK6 := (show Hid _ from box_in' HK5.out hb6)
    have HQ6 := (show Hid _ from box_in' HQ5.out hb6)
    have HX6 := (show Hid _ from box_in' HX5.out hb6)
    have HS6 := (show Hid _ from HS5.out.below hb6)
    clear hb6 p0 p1 p2 f0 f1 f2 hz q0 q1 q2 g0 g1 g2 hz2 x0 x1 x2 y0 y1 y2 hz3 HFr
    obtain ⟨p0, p1, p2, f0, f1, f2, hz⟩ := cell3 HK6.out
    obtain ⟨q0, q1, q2, g0, g1, g2, hz2⟩ := cell3 HQ6.out
    obtain ⟨x0, x1, x2, y0, y1, y2, hz3⟩ := cell3 HX6.out
    by_cases hfr : freeL D < 0
    · have HE : Hid (updL l k x = (l, 7)) := by show _ = _; rw [HIns.out, if_pos hfr]
      obtain ⟨r0, r1, r2, hS, hB⟩ := put_end (id := id) (lsn := lsn) (k := l.length) (xc := c) HB6.out HQ6.out (HS.out.below HB6.out) (fun x hx => HLT.out x hx)
      have HF := (show Hid _ from And.intro hS hB)
      clear hS hB
      go_wp2
      (try simp only [Exit.inBlock, Exit.then])
      refine bodyPost_ret (v := .tuple #[.agg (refP id lsn a l.length c), .int .i64 7]) ?_ rfl ⟨a, ⟨c, ?_⟩, ?_, .inl ⟨rfl, by rw [HE.out]⟩, HF.out.2⟩
      · rw [results_cell_tmp rfl]
        simp only [refP]
        go_simp
      · rw [HE.out]; rfl
      · rw [HE.out]; exact HF.out.1
    · have HE : Hid (updL l k x = (D, 0)) := by show _ = _; rw [HIns.out, if_neg hfr]
      obtain ⟨r0, r1, r2, hS, hB⟩ := put_end (id := id) (lsn := lsn) (k := D.length) (xc := c4) HB6.out HQ6.out HS6.out HA4.out
      have HF := (show Hid _ from And.intro hS hB)
      clear hS hB
      go_wp2
      (try simp only [Exit.inBlock, Exit.then])
      refine bodyPost_ret (v := .tuple #[.agg (refP id lsn a4 D.length c4), .int .i64 0]) ?_ rfl ⟨a4, ⟨c4, ?_⟩, ?_, (.inr HN4.out), HF.out.2⟩
      · rw [results_cell_tmp rfl]
        simp only [refP]
        go_simp
      · rw [HE.out]; rfl
      · rw [HE.out]; exact HF.out.1

end Go.Proofs.YtebchgoaelamcaaDoor
