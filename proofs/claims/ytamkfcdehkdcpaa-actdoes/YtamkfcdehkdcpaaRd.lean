/-
  The document's Do.
-/
import Derived.Test.YtamkfcdehkdcpaaRu
import Derived.Test.YtamkfcdehkdcpaaRe
namespace Go.Proofs.Ytamkfcdehkdcpaa
open Go.RowKit

theorem get_find {l : List Cl} {k : List UInt8} {m : Nat} (hf : l.findIdx? (isKey k) = some m) (hm : m < l.length) : getL l k = some l[m].val := by
  simp [getL, hf, List.getElem?_eq_getElem hm]

set_option maxRecDepth 20000 in
set_option maxHeartbeats 3000000 in
theorem refdo_any (id : Int) (lsn : Nat) (a : Option Addr) (c : Nat) (l : List Cl) (ac : Ac) (w : World) (h : SlC w a l) (hg : GoodL l) :
    Calls Try.prog 14 #[.agg (refP id lsn a l.length c), actV ac] w fun e w' => ∃ a', (∃ c', e = .returned (.tuple #[.agg (refP id lsn a' (doL l ac).1.length c'), .int .i64 (doL l ac).2])) ∧ SlC w' a' (doL l ac).1 ∧ ((a' = a ∧ (doL l ac).1 = l) ∨ ∀ y, a' = some y → w.heap.size ≤ y.block) ∧ Below w.heap.size w w' := by
  obtain ⟨k, x, y, z⟩ := ac
  have h64 := hg.few
  have HG := (show Hid _ from hg)
  have HB0 : Hid (Below w.heap.size w (((w.alloc (.cells #[.int .i64 id, .int .u64 (lsn : Int), .slice a l.length c] 29)).alloc (.cells #[.int .i64 k, .string (txt x), .string (txt y), .string (txt z)] 35)).alloc (.cells #[.int .i64 0, .int .u64 0, .slice none 0 0] 29))) := (((Below.refl _ _).alloc (Nat.le_refl _) _).alloc (by simp) _).alloc (by simp; omega) _
  have HS := (show Hid _ from h)
  have HLT : Hid (∀ x, a = some x → l ≠ [] → x.block ≠ w.heap.size + 2) := fun x hx hl => by have := slC_lt h x hx hl; omega
  have HM := (show Hid _ from actmay_any k x y z)
  clear h hg
  simp only [refP, actV, actC] at *
  go_enter Try.func14, Try.ntmps14
  go_wp2_with fail
  refine Calls.mono (HM.out _) ?_
  rintro e w2 ⟨rfl, hb2⟩
  have HB2 := (show Hid _ from below_on HB0.out hb2)
  obtain ⟨k0, k1, k2⟩ := three_kept (by simpa using hb2)
  have HK2 := (show Hid _ from k0)
  have HA2 := (show Hid _ from k1)
  have HQ2 := (show Hid _ from k2)
  have HS2 := (show Hid _ from HS.out.below HB2.out)
  obtain ⟨p0, p1, p2, f0, f1, f2, hz⟩ := cell3 k0
  obtain ⟨s0, s1, s2, s3, t0, t1, t2, t3, hz3⟩ := cell4 k1
  obtain ⟨q0, q1, q2, g0, g1, g2, hz2⟩ := cell3 k2
  clear hb2 k0 k1 k2 HM HB0
  cases hm : actB k x y z
  · have HE : Hid (doL l ⟨k, x, y, z⟩ = (l, 1)) := by show _ = _; unfold doL; rw [if_pos hm]
    clear hm
    obtain ⟨r0, r1, r2, hS, hB⟩ := put_end (id := id) (lsn := lsn) (k := l.length) (xc := c) HB2.out HQ2.out HS2.out HLT.out
    have HF := (show Hid _ from And.intro hS hB)
    clear hS hB
    go_wp2
    (try simp only [Exit.inBlock, Exit.then])
    refine bodyPost_ret (v := .tuple #[.agg (refP id lsn a l.length c), .int .i64 1]) ?_ rfl ⟨a, ⟨c, ?_⟩, ?_, (.inl ⟨rfl, by rw [HE.out]⟩), HF.out.2⟩
    · rw [results_cell_tmp rfl]
      simp only [refP]
      go_simp
    · rw [HE.out]; rfl
    · rw [HE.out]; exact HF.out.1
  have hks : k = 1 ∨ k = 2 ∨ k = 3 := by
    simp only [actB, Bool.and_eq_true, decide_eq_true_eq] at hm
    omega
  have HMay := (show Hid _ from hm)
  clear hm
  by_cases h1 : k = 1
  · subst h1
    have HE : Hid (doL l ⟨1, x, y, z⟩ = insL l x z) := by show _ = _; unfold doL; rw [if_neg (by simp [mayA, HMay.out]), if_pos rfl]
    have HBX := HB2
    have HQX := HQ2
    have HI := (show Hid _ from refinsert_any id lsn a c l x z _ HS2.out HG.out)
    simp only [refP] at HI
    go_wp2_with fail
    refine Calls.mono HI.out ?_
    rintro e w6 ⟨a6, ⟨c6, rfl⟩, hs6, hn6, hb6⟩
    have HB6 := (show Hid _ from below_on HBX.out hb6)
    have HQ6 := (show Hid _ from box_in' HQX.out hb6)
    have HS6 := (show Hid _ from hs6)
    have HX6 : Hid (∀ y, a6 = some y → (insL l x z).1 ≠ [] → y.block ≠ w.heap.size + 2) := fun y hy hl => by
      rcases hn6 with ⟨e1, e2⟩ | e1
      · exact HLT.out y (by rw [← e1]; exact hy) (by rw [← e2]; exact hl)
      · have := e1 y hy; have := (cell3 HQX.out).2.2.2.2.2.2; omega
    have HN6 : Hid ((a6 = a ∧ (insL l x z).1 = l) ∨ ∀ y, a6 = some y → w.heap.size ≤ y.block) := hn6.imp (fun q => q) (fun e1 y hy => Nat.le_trans HBX.out.size (e1 y hy))
    clear hb6 hs6 hn6 q0 q1 q2 g0 g1 g2 hz2
    obtain ⟨q0, q1, q2, g0, g1, g2, hz2⟩ := cell3 HQ6.out
    obtain ⟨r0, r1, r2, hS, hB⟩ := put_end (id := id) (lsn := lsn) (k := (insL l x z).1.length) (xc := c6) HB6.out HQ6.out HS6.out HX6.out
    have HF := (show Hid _ from And.intro hS hB)
    clear hS hB
    go_wp2
    (try simp only [Exit.inBlock, Exit.then])
    refine bodyPost_ret (v := .tuple #[.agg (refP id lsn a6 (insL l x z).1.length c6), .int .i64 (insL l x z).2]) ?_ rfl ⟨a6, ⟨c6, ?_⟩, ?_, (by rw [HE.out]; exact HN6.out), HF.out.2⟩
    · rw [results_cell_tmp rfl]
      simp only [refP]
      go_simp
    · rw [HE.out]; rfl
    · rw [HE.out]; exact HF.out.1
  have h1' : (k == 1) = false := by simp [h1]
  have HDo : Hid (doL l ⟨k, x, y, z⟩ = if whyL l x y ≠ 0 then (l, whyL l x y) else if k = 2 then updL l x z else delL l x) := by
    show _ = _
    unfold doL
    rw [if_neg (by simp [mayA, HMay.out]), if_neg (by simpa using h1)]
  clear h1
  have HFd := (show Hid _ from reffind_any id lsn a c l x _ HS2.out (by omega))
  simp only [refP] at HFd
  go_wp2_with fail
  refine Calls.mono HFd.out ?_
  rintro e w4 ⟨rfl, hb4⟩
  have HBX := (show Hid _ from below_on HB2.out hb4)
  have HKX := (show Hid _ from box_in' HK2.out hb4)
  have HAX := (show Hid _ from box_in' HA2.out hb4)
  have HQX := (show Hid _ from box_in' HQ2.out hb4)
  have HSX := (show Hid _ from HS2.out.below hb4)
  clear hb4 HFd p0 p1 p2 f0 f1 f2 hz s0 s1 s2 s3 t0 t1 t2 t3 hz3 q0 q1 q2 g0 g1 g2 hz2
  obtain ⟨p0, p1, p2, f0, f1, f2, hz⟩ := cell3 HKX.out
  obtain ⟨s0, s1, s2, s3, t0, t1, t2, t3, hz3⟩ := cell4 HAX.out
  obtain ⟨q0, q1, q2, g0, g1, g2, hz2⟩ := cell3 HQX.out
  cases hf : l.findIdx? (isKey x) with
  | none =>
    have HE : Hid (doL l ⟨k, x, y, z⟩ = (l, 8)) := by
      show _ = _
      have hw : whyL l x y = 8 := by simp [whyL, getL, hf]
      rw [HDo.out, hw, if_pos (by decide)]
    simp only [ixI]
    obtain ⟨r0, r1, r2, hS, hB⟩ := put_end (id := id) (lsn := lsn) (k := l.length) (xc := c) HBX.out HQX.out HSX.out HLT.out
    have HF := (show Hid _ from And.intro hS hB)
    clear hS hB
    go_wp2
    (try simp only [Exit.inBlock, Exit.then])
    refine bodyPost_ret (v := .tuple #[.agg (refP id lsn a l.length c), .int .i64 8]) ?_ rfl ⟨a, ⟨c, ?_⟩, ?_, (.inl ⟨rfl, by rw [HE.out]⟩), HF.out.2⟩
    · rw [results_cell_tmp rfl]
      simp only [refP]
      go_simp
    · rw [HE.out]; rfl
    · rw [HE.out]; exact HF.out.1
  | some m =>
    obtain ⟨hml, _⟩ := find_some hf
    have hgt := get_find hf hml
    simp only [ixI]
    clear hf
    obtain ⟨b, o, rfl, hbl, c0, c1, c2⟩ := HSX.out.at m hml
    by_cases hv : l[m].val = y
    · have hv' : ((txt l[m].val).toList == (txt y).toList) = true := by simp [txt_toList, hv]
      have hv2 : ((txt l[m].val).toList != (txt y).toList) = false := by simp [txt_toList, hv]
      have HW : Hid (whyL l x y = 0) := by show _ = _; simp [whyL, hgt, hv]
      clear hv hgt
      go_wp2_with fail
      go_quiet (fail)
      generalize hwq : w4.drewN nq = wq
      have HBq : Hid (Below w.heap.size w wq) := by rw [← hwq]; exact below_drewN HBX.out _
      have HKq : Hid (wq.heap[w.heap.size]? = some (.cells #[.int .i64 id, .int .u64 (lsn : Int), .slice (some ⟨b, o, none⟩) l.length c] 29)) := by rw [← hwq]; exact HKX.out
      have HAq : Hid (wq.heap[w.heap.size + 1]? = some (.cells #[.int .i64 k, .string (txt x), .string (txt y), .string (txt z)] 35)) := by rw [← hwq]; exact HAX.out
      have HQq : Hid (wq.heap[w.heap.size + 2]? = some (.cells #[.int .i64 0, .int .u64 0, .slice none 0 0] 29)) := by rw [← hwq]; exact HQX.out
      have HSq : Hid (SlC wq (some ⟨b, o, none⟩) l) := by rw [← hwq]; exact ⟨HSX.out.nonil, HSX.out.cells⟩
      clear hwq c0 c1 c2 hbl p0 p1 p2 f0 f1 f2 hz s0 s1 s2 s3 t0 t1 t2 t3 hz3 q0 q1 q2 g0 g1 g2 hz2 HBX HKX HAX HQX HSX
      have HBX := HBq
      have HQX := HQq
      have HSX := HSq
      obtain ⟨p0, p1, p2, f0, f1, f2, hz⟩ := cell3 HKq.out
      obtain ⟨s0, s1, s2, s3, t0, t1, t2, t3, hz3⟩ := cell4 HAq.out
      obtain ⟨q0, q1, q2, g0, g1, g2, hz2⟩ := cell3 HQX.out
      by_cases h2 : k = 2
      · subst h2
        have HE : Hid (doL l ⟨2, x, y, z⟩ = updL l x z) := by show _ = _; rw [HDo.out, HW.out]; simp
        have HI := (show Hid _ from refupdate_any id lsn (some ⟨b, o, none⟩) c l x z _ HSX.out HG.out)
        simp only [refP] at HI
        go_wp2_with fail
        refine Calls.mono HI.out ?_
        rintro e w6 ⟨a6, ⟨c6, rfl⟩, hs6, hn6, hb6⟩
        have HB6 := (show Hid _ from below_on HBX.out hb6)
        have HQ6 := (show Hid _ from box_in' HQX.out hb6)
        have HS6 := (show Hid _ from hs6)
        have HX6 : Hid (∀ y, a6 = some y → (updL l x z).1 ≠ [] → y.block ≠ w.heap.size + 2) := fun y hy hl => by
          rcases hn6 with ⟨e1, e2⟩ | e1
          · exact HLT.out y (by rw [← e1]; exact hy) (by rw [← e2]; exact hl)
          · have := e1 y hy; have := (cell3 HQX.out).2.2.2.2.2.2; omega
        have HN6 : Hid ((a6 = some ⟨b, o, none⟩ ∧ (updL l x z).1 = l) ∨ ∀ y, a6 = some y → w.heap.size ≤ y.block) := hn6.imp (fun q => q) (fun e1 y hy => Nat.le_trans HBX.out.size (e1 y hy))
        clear hb6 hs6 hn6 q0 q1 q2 g0 g1 g2 hz2
        obtain ⟨q0, q1, q2, g0, g1, g2, hz2⟩ := cell3 HQ6.out
        obtain ⟨r0, r1, r2, hS, hB⟩ := put_end (id := id) (lsn := lsn) (k := (updL l x z).1.length) (xc := c6) HB6.out HQ6.out HS6.out HX6.out
        have HF := (show Hid _ from And.intro hS hB)
        clear hS hB
        go_wp2
        (try simp only [Exit.inBlock, Exit.then])
        refine bodyPost_ret (v := .tuple #[.agg (refP id lsn a6 (updL l x z).1.length c6), .int .i64 (updL l x z).2]) ?_ rfl ⟨a6, ⟨c6, ?_⟩, ?_, (by rw [HE.out]; exact HN6.out), HF.out.2⟩
        · rw [results_cell_tmp rfl]
          simp only [refP]
          go_simp
        · rw [HE.out]; rfl
        · rw [HE.out]; exact HF.out.1
      · have h2' : (k == 2) = false := by simp [h2]
        have HE : Hid (doL l ⟨k, x, y, z⟩ = delL l x) := by show _ = _; rw [HDo.out, HW.out]; simp [h2]
        clear h2
        have HI := (show Hid _ from refdelete_any id lsn (some ⟨b, o, none⟩) c l x _ HSX.out HG.out)
        simp only [refP] at HI
        go_wp2_with fail
        refine Calls.mono HI.out ?_
        rintro e w6 ⟨a6, ⟨c6, rfl⟩, hs6, hn6, hb6⟩
        have HB6 := (show Hid _ from below_on HBX.out hb6)
        have HQ6 := (show Hid _ from box_in' HQX.out hb6)
        have HS6 := (show Hid _ from hs6)
        have HX6 : Hid (∀ y, a6 = some y → (delL l x).1 ≠ [] → y.block ≠ w.heap.size + 2) := fun y hy hl => by
          rcases hn6 with ⟨e1, e2⟩ | e1
          · exact HLT.out y (by rw [← e1]; exact hy) (by rw [← e2]; exact hl)
          · have := e1 y hy; have := (cell3 HQX.out).2.2.2.2.2.2; omega
        have HN6 : Hid ((a6 = some ⟨b, o, none⟩ ∧ (delL l x).1 = l) ∨ ∀ y, a6 = some y → w.heap.size ≤ y.block) := hn6.imp (fun q => q) (fun e1 y hy => Nat.le_trans HBX.out.size (e1 y hy))
        clear hb6 hs6 hn6 q0 q1 q2 g0 g1 g2 hz2
        obtain ⟨q0, q1, q2, g0, g1, g2, hz2⟩ := cell3 HQ6.out
        obtain ⟨r0, r1, r2, hS, hB⟩ := put_end (id := id) (lsn := lsn) (k := (delL l x).1.length) (xc := c6) HB6.out HQ6.out HS6.out HX6.out
        have HF := (show Hid _ from And.intro hS hB)
        clear hS hB
        go_wp2
        (try simp only [Exit.inBlock, Exit.then])
        refine bodyPost_ret (v := .tuple #[.agg (refP id lsn a6 (delL l x).1.length c6), .int .i64 (delL l x).2]) ?_ rfl ⟨a6, ⟨c6, ?_⟩, ?_, (by rw [HE.out]; exact HN6.out), HF.out.2⟩
        · rw [results_cell_tmp rfl]
          simp only [refP]
          go_simp
        · rw [HE.out]; rfl
        · rw [HE.out]; exact HF.out.1
    · have hv' : ((txt l[m].val).toList == (txt y).toList) = false := by simp [txt_toList, hv]
      have hv2 : ((txt l[m].val).toList != (txt y).toList) = true := by simp [txt_toList, hv]
      have HE : Hid (doL l ⟨k, x, y, z⟩ = (l, 10)) := by
        show _ = _
        have hw : whyL l x y = 10 := by simp [whyL, hgt, hv]
        rw [HDo.out, hw, if_pos (by decide)]
      clear hv hgt
      go_wp2_with fail
      go_quiet (fail)
      generalize hwq : w4.drewN nq = wq
      have HBq : Hid (Below w.heap.size w wq) := by rw [← hwq]; exact below_drewN HBX.out _
      have HKq : Hid (wq.heap[w.heap.size]? = some (.cells #[.int .i64 id, .int .u64 (lsn : Int), .slice (some ⟨b, o, none⟩) l.length c] 29)) := by rw [← hwq]; exact HKX.out
      have HAq : Hid (wq.heap[w.heap.size + 1]? = some (.cells #[.int .i64 k, .string (txt x), .string (txt y), .string (txt z)] 35)) := by rw [← hwq]; exact HAX.out
      have HQq : Hid (wq.heap[w.heap.size + 2]? = some (.cells #[.int .i64 0, .int .u64 0, .slice none 0 0] 29)) := by rw [← hwq]; exact HQX.out
      have HSq : Hid (SlC wq (some ⟨b, o, none⟩) l) := by rw [← hwq]; exact ⟨HSX.out.nonil, HSX.out.cells⟩
      clear hwq c0 c1 c2 hbl p0 p1 p2 f0 f1 f2 hz s0 s1 s2 s3 t0 t1 t2 t3 hz3 q0 q1 q2 g0 g1 g2 hz2 HBX HKX HAX HQX HSX
      have HBX := HBq
      have HQX := HQq
      have HSX := HSq
      obtain ⟨p0, p1, p2, f0, f1, f2, hz⟩ := cell3 HKq.out
      obtain ⟨s0, s1, s2, s3, t0, t1, t2, t3, hz3⟩ := cell4 HAq.out
      obtain ⟨q0, q1, q2, g0, g1, g2, hz2⟩ := cell3 HQX.out
      obtain ⟨r0, r1, r2, hS, hB⟩ := put_end (id := id) (lsn := lsn) (k := l.length) (xc := c) HBX.out HQX.out HSX.out HLT.out
      have HF := (show Hid _ from And.intro hS hB)
      clear hS hB
      go_wp2
      (try simp only [Exit.inBlock, Exit.then])
      refine bodyPost_ret (v := .tuple #[.agg (refP id lsn (some ⟨b, o, none⟩) l.length c), .int .i64 10]) ?_ rfl ⟨(some ⟨b, o, none⟩), ⟨c, ?_⟩, ?_, (.inl ⟨rfl, by rw [HE.out]⟩), HF.out.2⟩
      · rw [results_cell_tmp rfl]
        simp only [refP]
        go_simp
      · rw [HE.out]; rfl
      · rw [HE.out]; exact HF.out.1

end Go.Proofs.Ytamkfcdehkdcpaa
