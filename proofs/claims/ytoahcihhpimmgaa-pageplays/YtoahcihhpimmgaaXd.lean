/-
  PagePlays: one step.
-/
import Derived.Test.YtoahcihhpimmgaaXc
namespace Go.Proofs.Ytoahcihhpimmgaa
open Go.RowKit

set_option maxRecDepth 100000 in
set_option maxHeartbeats 4000000 in
theorem step_insert (w wr : World) (Dd : Nat) (dA : Array Value) (p id lsn : Nat) (v : Value) (a : Option Addr) (c : Nat) (l : List Cl) (h : Tw w wr Dd dA p id lsn v a l l) (kd : Int) (key val : List UInt8) (tm : Nat) (hkd : kd = 0) (hk : key.length ≤ maxLen) (hv : val.length ≤ maxLen) (htm : tm < 18446744073709551616) :
    Calls Try.prog 14 #[.pointer (some ⟨p, 0, none⟩), .agg #[.int .i64 (id : Int), .int .u64 (lsn : Int), .slice a l.length c], .agg #[.int .i64 kd, .string (txt key), .string (txt val), .int .u64 (tm : Int)]] wr (P14 w Dd dA id) := by
  obtain ⟨hX, hb⟩ := Bx.new wr #[.int .i64 (id : Int), .int .u64 (lsn : Int), .slice a l.length c] #[.int .i64 kd, .string (txt key), .string (txt val), .int .u64 (tm : Int)] #[.int .i64 0, .int .u64 0, .slice none 0 0]
  have HT := toHid (h.on hb)
  have HX := toHid hX
  have HDd := toHid (lt_of_blk h.box)
  have HW := toHid h.bel.size
  have HA : Hid (∀ y, a = some y → l ≠ [] → y.block < wr.heap.size) := fun y hy hl => slC_lt' h.sl y hy hl
  have HK := toHid hk
  have HV := toHid hv
  have HTm := toHid htm
  have HKd := toHid hkd
  clear h hX hb hk hv htm hkd
  go_enter Try.func14, Try.ntmps14
  refine wp_seq_k fun K0 hK0 => ?_
  have HK0 := toHid hK0
  clear hK0
  go_wp2_with fail
  refine HK0.out _ _ ?_
  clear HK0
  generalize hw0 : ((wr.alloc (.cells #[.int .i64 (id : Int), .int .u64 (lsn : Int), .slice a l.length c] 33)).alloc (.cells #[.int .i64 kd, .string (txt key), .string (txt val), .int .u64 (tm : Int)] 37)).alloc (.cells #[.int .i64 0, .int .u64 0, .slice none 0 0] 33) = w0 at HT HX ⊢
  clear hw0
  generalize hB : wr.heap.size = B at HX HDd HW HA ⊢
  clear hB
  obtain ⟨c0, c1, c2, c3⟩ := cell4 HX.out.h1
  obtain ⟨d0, d1, d2, _⟩ := cell3 HX.out.h0
  rw [HKd.out] at c0
  go_wp2_with fail
  go_at_call 26
  refine Calls.mono (insert_any _ p (id : Int) lsn v l key val w0 HT.out.pg HT.out.good HK.out HV.out) ?_
  rintro e w1 ⟨rfl, v1, hP1, hT1, hF1⟩
  have HX1 := toHid (HX.out.touch HT.out hT1)
  have HT1 := toHid (HT.out.page hP1 (ins_good HT.out.good key val) HT.out.hls hT1 hF1)
  have HGd := toHid (ins_good HT.out.good' key val)
  clear hP1 hT1 c0 c1 c2 c3 d0 d1 d2
  obtain ⟨r1, hr1⟩ : ∃ r, r = (insL l key val).2 := ⟨_, rfl⟩
  rw [← hr1]
  obtain ⟨c0, c1, c2, c3⟩ := cell4 HX1.out.h1
  obtain ⟨d0, d1, d2, _⟩ := cell3 HX1.out.h0
  go_wp2_with fail
  go_at_call 34
  refine Calls.mono (refinsert_any (id : Int) lsn a c l key val w1 HT1.out.sl HT1.out.good') ?_
  rintro e w2 ⟨a', ⟨c', rfl⟩, hS2, hn2, hB2⟩
  rw [← hr1]
  clear hr1
  have HT2 := toHid (HT1.out.doc hS2 HGd.out hn2 hB2)
  have HX2 := toHid (HX1.out.below hB2)
  have hB12 := lt_of_blk HX1.out.h2
  have HA2 : Hid (∀ y, a' = some y → (insL l key val).1 ≠ [] → y.block ≠ B + 2) := fun y hy hl => by
    rcases hn2 with ⟨e1, e2⟩ | e
    · have := HA.out y (by rw [← e1]; exact hy) (by rw [← e2]; exact hl)
      omega
    · have := e y hy
      omega
  have HLt : Hid (B + 2 < w2.heap.size) := lt_of_blk HX2.out.h2
  obtain ⟨l2, hl2⟩ : ∃ x, x = (insL l key val).1 := ⟨_, rfl⟩
  simp only [refP]
  rw [← hl2] at HT2 HA2 ⊢
  clear hS2 hn2 hB2 hB12 hl2 HT1 HX1 HT HX HGd c0 c1 c2 c3 d0 d1 d2
  have hb3 : Below w2.heap.size w2 (w2.alloc (.cells #[.int .i64 (id : Int), .int .u64 (lsn : Int), .slice a' l2.length c'] 33)) := (Below.refl _ _).alloc (Nat.le_refl _) _
  have HT3 := toHid (HT2.out.on hb3)
  have HX3 := toHid (HX2.out.below hb3)
  have HY3 := toHid (heap_alloc_new w2 (.cells #[.int .i64 (id : Int), .int .u64 (lsn : Int), .slice a' l2.length c'] 33))
  clear hb3 HT2 HX2
  go_wp2_with fail
  generalize hw3 : w2.alloc (.cells #[.int .i64 (id : Int), .int .u64 (lsn : Int), .slice a' l2.length c'] 33) = w3 at HT3 HX3 HY3 ⊢
  clear hw3
  generalize hA1 : w2.heap.size = A1 at HY3 HLt ⊢
  clear hA1
  refine wp_region_held_drew (S := fun W => W.cell? ⟨A1, 0, none⟩ = some (.int .i64 (id : Int)) ∧ W.cell? ⟨A1, 1, none⟩ = some (.int .u64 (lsn : Int)) ∧ W.cell? ⟨A1, 2, none⟩ = some (.slice a' l2.length c')) (by kernel_rfl) ?_ (fun hHeld => ?_)
  · obtain ⟨y0, y1, y2, _⟩ := cell3 HY3.out
    exact ⟨y0, y1, y2⟩
  have HTd := toHid (HT3.out.on ((Below.refl _ w3).drew))
  have HXd := toHid (HX3.out.below ((Below.refl _ w3).drew))
  have HYd : Hid (w3.drew.heap[A1]? = some (.cells #[.int .i64 (id : Int), .int .u64 (lsn : Int), .slice a' l2.length c'] 33)) := HY3.out
  clear HT3 HX3 HY3
  generalize hwd : w3.drew = wd at HTd HXd HYd hHeld ⊢
  clear hwd
  refine wpAnyH_take (i := 0) (v := ?_) rfl (by kernel_rfl) (by kernel_rfl) (by kernel_rfl) (fun _ _ _ h => h) (Or.inl ⟨by rfl, ?_⟩) (by assumption) ?_
  rotate_left
  · (intro W hSw; obtain ⟨y0, y1, y2⟩ := hSw; go_simp; try with_reducible rfl)
  try simp only [Act.put, List.getElem_toArray, List.getElem_cons_zero, List.setIfInBounds_toArray, List.set_cons_zero, List.set_cons_succ]
  refine wpAnyH_take (i := 1) (v := ?_) rfl (by kernel_rfl) (by kernel_rfl) (by kernel_rfl) (fun _ _ _ h => h) (Or.inl ⟨by rfl, ?_⟩) (by assumption) ?_
  rotate_left
  · (intro W hSw; obtain ⟨y0, y1, y2⟩ := hSw; go_simp; try with_reducible rfl)
  try simp only [Act.put, List.getElem_toArray, List.getElem_cons_zero, List.getElem_cons_succ, List.setIfInBounds_toArray, List.set_cons_zero, List.set_cons_succ]
  refine wpAnyH_take (i := 2) (v := ?_) rfl (by kernel_rfl) (by kernel_rfl) (by kernel_rfl) (fun _ _ _ h => h) (Or.inl ⟨by rfl, ?_⟩) (by assumption) ?_
  rotate_left
  · (intro W hSw; obtain ⟨y0, y1, y2⟩ := hSw; go_simp; try with_reducible rfl)
  try simp only [Act.put, List.getElem_toArray, List.getElem_cons_zero, List.getElem_cons_succ, List.setIfInBounds_toArray, List.set_cons_zero, List.set_cons_succ]
  refine wpAnyH_take (i := 3) (v := ?_) rfl (by kernel_rfl) (by kernel_rfl) (by kernel_rfl) (fun _ _ _ h => h) (Or.inl ⟨by rfl, ?_⟩) (by assumption) ?_
  rotate_left
  · (intro W hSw; obtain ⟨y0, y1, y2⟩ := hSw; go_simp; try with_reducible rfl)
  try simp only [Act.put, List.getElem_toArray, List.getElem_cons_zero, List.getElem_cons_succ, List.setIfInBounds_toArray, List.set_cons_zero, List.set_cons_succ]
  refine wpAnyH_take (i := 4) (v := ?_) rfl (by kernel_rfl) (by kernel_rfl) (by kernel_rfl) (fun _ _ _ h => h) (Or.inl ⟨by rfl, ?_⟩) (by assumption) ?_
  rotate_left
  · (intro W hSw; obtain ⟨y0, y1, y2⟩ := hSw; go_simp; try with_reducible rfl)
  try simp only [Act.put, List.getElem_toArray, List.getElem_cons_zero, List.getElem_cons_succ, List.setIfInBounds_toArray, List.set_cons_zero, List.set_cons_succ]
  refine wpAnyH_take (i := 5) (v := ?_) rfl (by kernel_rfl) (by kernel_rfl) (by kernel_rfl) (fun _ _ _ h => h) (Or.inl ⟨by rfl, ?_⟩) (by assumption) ?_
  rotate_left
  · (intro W hSw; obtain ⟨y0, y1, y2⟩ := hSw; go_simp; try with_reducible rfl)
  try simp only [Act.put, List.getElem_toArray, List.getElem_cons_zero, List.getElem_cons_succ, List.setIfInBounds_toArray, List.set_cons_zero, List.set_cons_succ]
  obtain ⟨f1, f2⟩ := fin14 HTd.out HXd.out rfl HDd.out HW.out HA2.out (.int .i64 (id : Int)) (.int .u64 (lsn : Int)) (.slice a' l2.length c')
  have HF1 := toHid f1
  have HF2 := toHid f2
  have HK5 : Hid (∀ k, k ≠ B + 2 → (((wd.setCell ⟨B + 2, 0, none⟩ (.int .i64 (id : Int))).setCell ⟨B + 2, 1, none⟩ (.int .u64 (lsn : Int))).setCell ⟨B + 2, 2, none⟩ (.slice a' l2.length c')).heap[k]? = wd.heap[k]?) := fun k hk => by rw [heap_setCell_other _ _ _ _ hk, heap_setCell_other _ _ _ _ hk, heap_setCell_other _ _ _ _ hk]
  clear f1 f2
  refine wpAnyH_ready (rs := [6]) (by kernel_rfl) (by simp) ?_
  refine AllReadyH.cons rfl (fun K hK => ?_) AllReadyH.nil
  clear hHeld
  obtain ⟨z0, z1, z2, zf⟩ := cell3 HXd.out.h2
  go_simp
  refine hK.out _ _ ?_ (fun hHeld => ?_)
  · obtain ⟨y0, y1, y2, _⟩ := cell3 ((HK5.out A1 (by have := HLt.out; omega)).trans HYd.out)
    exact ⟨y0, y1, y2⟩
  clear hK K
  try simp only [Act.put, List.getElem_toArray, List.getElem_cons_zero, List.getElem_cons_succ, List.setIfInBounds_toArray, List.set_cons_zero, List.set_cons_succ]
  refine wpAnyH_take (i := 7) (v := ?_) rfl (by kernel_rfl) (by kernel_rfl) (by kernel_rfl) (fun _ _ _ h => h) (Or.inl ⟨by rfl, ?_⟩) (by assumption) ?_
  rotate_left
  · (intro W hSw; obtain ⟨y0, y1, y2⟩ := hSw; go_simp; try with_reducible rfl)
  try simp only [Act.put, List.getElem_toArray, List.getElem_cons_zero, List.getElem_cons_succ, List.setIfInBounds_toArray, List.set_cons_zero, List.set_cons_succ]
  refine wpAnyH_done (by kernel_rfl) ?_ _
  simp only [Exit.then]
  go_wp2_with fail
  exact bodyPost_ret (results_t_c_t (P := Try.prog) Try.results14 _ _ (B + 2) 33 _ (0, 0) _ rfl HF1.out Try.underlying33 rfl (by kernel_rfl)) rfl ⟨_, _, _, _, _, _, rfl, HF2.out⟩

set_option maxRecDepth 100000 in
set_option maxHeartbeats 4000000 in
theorem step_update (w wr : World) (Dd : Nat) (dA : Array Value) (p id lsn : Nat) (v : Value) (a : Option Addr) (c : Nat) (l : List Cl) (h : Tw w wr Dd dA p id lsn v a l l) (kd : Int) (key val : List UInt8) (tm : Nat) (hkd : kd = 1) (hk : key.length ≤ maxLen) (hv : val.length ≤ maxLen) (htm : tm < 18446744073709551616) :
    Calls Try.prog 14 #[.pointer (some ⟨p, 0, none⟩), .agg #[.int .i64 (id : Int), .int .u64 (lsn : Int), .slice a l.length c], .agg #[.int .i64 kd, .string (txt key), .string (txt val), .int .u64 (tm : Int)]] wr (P14 w Dd dA id) := by
  obtain ⟨hX, hb⟩ := Bx.new wr #[.int .i64 (id : Int), .int .u64 (lsn : Int), .slice a l.length c] #[.int .i64 kd, .string (txt key), .string (txt val), .int .u64 (tm : Int)] #[.int .i64 0, .int .u64 0, .slice none 0 0]
  have HT := toHid (h.on hb)
  have HX := toHid hX
  have HDd := toHid (lt_of_blk h.box)
  have HW := toHid h.bel.size
  have HA : Hid (∀ y, a = some y → l ≠ [] → y.block < wr.heap.size) := fun y hy hl => slC_lt' h.sl y hy hl
  have HK := toHid hk
  have HV := toHid hv
  have HTm := toHid htm
  have HKd := toHid hkd
  clear h hX hb hk hv htm hkd
  go_enter Try.func14, Try.ntmps14
  refine wp_seq_k fun K0 hK0 => ?_
  have HK0 := toHid hK0
  clear hK0
  go_wp2_with fail
  refine HK0.out _ _ ?_
  clear HK0
  generalize hw0 : ((wr.alloc (.cells #[.int .i64 (id : Int), .int .u64 (lsn : Int), .slice a l.length c] 33)).alloc (.cells #[.int .i64 kd, .string (txt key), .string (txt val), .int .u64 (tm : Int)] 37)).alloc (.cells #[.int .i64 0, .int .u64 0, .slice none 0 0] 33) = w0 at HT HX ⊢
  clear hw0
  generalize hB : wr.heap.size = B at HX HDd HW HA ⊢
  clear hB
  obtain ⟨c0, c1, c2, c3⟩ := cell4 HX.out.h1
  obtain ⟨d0, d1, d2, _⟩ := cell3 HX.out.h0
  rw [HKd.out] at c0
  go_wp2_with fail
  go_at_call 27
  refine Calls.mono (update_any _ p (id : Int) lsn v l key val w0 HT.out.pg HT.out.good HK.out HV.out) ?_
  rintro e w1 ⟨rfl, hP1, hT1⟩
  have HX1 := toHid (HX.out.touch HT.out hT1)
  have HT1 := toHid (HT.out.page hP1 (upd_good HT.out.good key val) HT.out.hls hT1 (Fresh.refl _ _))
  have HGd := toHid (upd_good HT.out.good' key val)
  clear hP1 hT1 c0 c1 c2 c3 d0 d1 d2
  obtain ⟨r1, hr1⟩ : ∃ r, r = (updL l key val).2 := ⟨_, rfl⟩
  rw [← hr1]
  obtain ⟨c0, c1, c2, c3⟩ := cell4 HX1.out.h1
  obtain ⟨d0, d1, d2, _⟩ := cell3 HX1.out.h0
  go_wp2_with fail
  go_at_call 35
  refine Calls.mono (refupdate_any (id : Int) lsn a c l key val w1 HT1.out.sl HT1.out.good') ?_
  rintro e w2 ⟨a', ⟨c', rfl⟩, hS2, hn2, hB2⟩
  rw [← hr1]
  clear hr1
  have HT2 := toHid (HT1.out.doc hS2 HGd.out hn2 hB2)
  have HX2 := toHid (HX1.out.below hB2)
  have hB12 := lt_of_blk HX1.out.h2
  have HA2 : Hid (∀ y, a' = some y → (updL l key val).1 ≠ [] → y.block ≠ B + 2) := fun y hy hl => by
    rcases hn2 with ⟨e1, e2⟩ | e
    · have := HA.out y (by rw [← e1]; exact hy) (by rw [← e2]; exact hl)
      omega
    · have := e y hy
      omega
  have HLt : Hid (B + 2 < w2.heap.size) := lt_of_blk HX2.out.h2
  obtain ⟨l2, hl2⟩ : ∃ x, x = (updL l key val).1 := ⟨_, rfl⟩
  simp only [refP]
  rw [← hl2] at HT2 HA2 ⊢
  clear hS2 hn2 hB2 hB12 hl2 HT1 HX1 HT HX HGd c0 c1 c2 c3 d0 d1 d2
  have hb3 : Below w2.heap.size w2 (w2.alloc (.cells #[.int .i64 (id : Int), .int .u64 (lsn : Int), .slice a' l2.length c'] 33)) := (Below.refl _ _).alloc (Nat.le_refl _) _
  have HT3 := toHid (HT2.out.on hb3)
  have HX3 := toHid (HX2.out.below hb3)
  have HY3 := toHid (heap_alloc_new w2 (.cells #[.int .i64 (id : Int), .int .u64 (lsn : Int), .slice a' l2.length c'] 33))
  clear hb3 HT2 HX2
  go_wp2_with fail
  generalize hw3 : w2.alloc (.cells #[.int .i64 (id : Int), .int .u64 (lsn : Int), .slice a' l2.length c'] 33) = w3 at HT3 HX3 HY3 ⊢
  clear hw3
  generalize hA1 : w2.heap.size = A1 at HY3 HLt ⊢
  clear hA1
  refine wp_region_held_drew (S := fun W => W.cell? ⟨A1, 0, none⟩ = some (.int .i64 (id : Int)) ∧ W.cell? ⟨A1, 1, none⟩ = some (.int .u64 (lsn : Int)) ∧ W.cell? ⟨A1, 2, none⟩ = some (.slice a' l2.length c')) (by kernel_rfl) ?_ (fun hHeld => ?_)
  · obtain ⟨y0, y1, y2, _⟩ := cell3 HY3.out
    exact ⟨y0, y1, y2⟩
  have HTd := toHid (HT3.out.on ((Below.refl _ w3).drew))
  have HXd := toHid (HX3.out.below ((Below.refl _ w3).drew))
  have HYd : Hid (w3.drew.heap[A1]? = some (.cells #[.int .i64 (id : Int), .int .u64 (lsn : Int), .slice a' l2.length c'] 33)) := HY3.out
  clear HT3 HX3 HY3
  generalize hwd : w3.drew = wd at HTd HXd HYd hHeld ⊢
  clear hwd
  refine wpAnyH_take (i := 0) (v := ?_) rfl (by kernel_rfl) (by kernel_rfl) (by kernel_rfl) (fun _ _ _ h => h) (Or.inl ⟨by rfl, ?_⟩) (by assumption) ?_
  rotate_left
  · (intro W hSw; obtain ⟨y0, y1, y2⟩ := hSw; go_simp; try with_reducible rfl)
  try simp only [Act.put, List.getElem_toArray, List.getElem_cons_zero, List.setIfInBounds_toArray, List.set_cons_zero, List.set_cons_succ]
  refine wpAnyH_take (i := 1) (v := ?_) rfl (by kernel_rfl) (by kernel_rfl) (by kernel_rfl) (fun _ _ _ h => h) (Or.inl ⟨by rfl, ?_⟩) (by assumption) ?_
  rotate_left
  · (intro W hSw; obtain ⟨y0, y1, y2⟩ := hSw; go_simp; try with_reducible rfl)
  try simp only [Act.put, List.getElem_toArray, List.getElem_cons_zero, List.getElem_cons_succ, List.setIfInBounds_toArray, List.set_cons_zero, List.set_cons_succ]
  refine wpAnyH_take (i := 2) (v := ?_) rfl (by kernel_rfl) (by kernel_rfl) (by kernel_rfl) (fun _ _ _ h => h) (Or.inl ⟨by rfl, ?_⟩) (by assumption) ?_
  rotate_left
  · (intro W hSw; obtain ⟨y0, y1, y2⟩ := hSw; go_simp; try with_reducible rfl)
  try simp only [Act.put, List.getElem_toArray, List.getElem_cons_zero, List.getElem_cons_succ, List.setIfInBounds_toArray, List.set_cons_zero, List.set_cons_succ]
  refine wpAnyH_take (i := 3) (v := ?_) rfl (by kernel_rfl) (by kernel_rfl) (by kernel_rfl) (fun _ _ _ h => h) (Or.inl ⟨by rfl, ?_⟩) (by assumption) ?_
  rotate_left
  · (intro W hSw; obtain ⟨y0, y1, y2⟩ := hSw; go_simp; try with_reducible rfl)
  try simp only [Act.put, List.getElem_toArray, List.getElem_cons_zero, List.getElem_cons_succ, List.setIfInBounds_toArray, List.set_cons_zero, List.set_cons_succ]
  refine wpAnyH_take (i := 4) (v := ?_) rfl (by kernel_rfl) (by kernel_rfl) (by kernel_rfl) (fun _ _ _ h => h) (Or.inl ⟨by rfl, ?_⟩) (by assumption) ?_
  rotate_left
  · (intro W hSw; obtain ⟨y0, y1, y2⟩ := hSw; go_simp; try with_reducible rfl)
  try simp only [Act.put, List.getElem_toArray, List.getElem_cons_zero, List.getElem_cons_succ, List.setIfInBounds_toArray, List.set_cons_zero, List.set_cons_succ]
  refine wpAnyH_take (i := 5) (v := ?_) rfl (by kernel_rfl) (by kernel_rfl) (by kernel_rfl) (fun _ _ _ h => h) (Or.inl ⟨by rfl, ?_⟩) (by assumption) ?_
  rotate_left
  · (intro W hSw; obtain ⟨y0, y1, y2⟩ := hSw; go_simp; try with_reducible rfl)
  try simp only [Act.put, List.getElem_toArray, List.getElem_cons_zero, List.getElem_cons_succ, List.setIfInBounds_toArray, List.set_cons_zero, List.set_cons_succ]
  obtain ⟨f1, f2⟩ := fin14 HTd.out HXd.out rfl HDd.out HW.out HA2.out (.int .i64 (id : Int)) (.int .u64 (lsn : Int)) (.slice a' l2.length c')
  have HF1 := toHid f1
  have HF2 := toHid f2
  have HK5 : Hid (∀ k, k ≠ B + 2 → (((wd.setCell ⟨B + 2, 0, none⟩ (.int .i64 (id : Int))).setCell ⟨B + 2, 1, none⟩ (.int .u64 (lsn : Int))).setCell ⟨B + 2, 2, none⟩ (.slice a' l2.length c')).heap[k]? = wd.heap[k]?) := fun k hk => by rw [heap_setCell_other _ _ _ _ hk, heap_setCell_other _ _ _ _ hk, heap_setCell_other _ _ _ _ hk]
  clear f1 f2
  refine wpAnyH_ready (rs := [6]) (by kernel_rfl) (by simp) ?_
  refine AllReadyH.cons rfl (fun K hK => ?_) AllReadyH.nil
  clear hHeld
  obtain ⟨z0, z1, z2, zf⟩ := cell3 HXd.out.h2
  go_simp
  refine hK.out _ _ ?_ (fun hHeld => ?_)
  · obtain ⟨y0, y1, y2, _⟩ := cell3 ((HK5.out A1 (by have := HLt.out; omega)).trans HYd.out)
    exact ⟨y0, y1, y2⟩
  clear hK K
  try simp only [Act.put, List.getElem_toArray, List.getElem_cons_zero, List.getElem_cons_succ, List.setIfInBounds_toArray, List.set_cons_zero, List.set_cons_succ]
  refine wpAnyH_take (i := 7) (v := ?_) rfl (by kernel_rfl) (by kernel_rfl) (by kernel_rfl) (fun _ _ _ h => h) (Or.inl ⟨by rfl, ?_⟩) (by assumption) ?_
  rotate_left
  · (intro W hSw; obtain ⟨y0, y1, y2⟩ := hSw; go_simp; try with_reducible rfl)
  try simp only [Act.put, List.getElem_toArray, List.getElem_cons_zero, List.getElem_cons_succ, List.setIfInBounds_toArray, List.set_cons_zero, List.set_cons_succ]
  refine wpAnyH_done (by kernel_rfl) ?_ _
  simp only [Exit.then]
  go_wp2_with fail
  exact bodyPost_ret (results_t_c_t (P := Try.prog) Try.results14 _ _ (B + 2) 33 _ (0, 0) _ rfl HF1.out Try.underlying33 rfl (by kernel_rfl)) rfl ⟨_, _, _, _, _, _, rfl, HF2.out⟩

set_option maxRecDepth 100000 in
set_option maxHeartbeats 4000000 in
theorem step_delete (w wr : World) (Dd : Nat) (dA : Array Value) (p id lsn : Nat) (v : Value) (a : Option Addr) (c : Nat) (l : List Cl) (h : Tw w wr Dd dA p id lsn v a l l) (kd : Int) (key val : List UInt8) (tm : Nat) (hkd : kd = 2) (hk : key.length ≤ maxLen) (hv : val.length ≤ maxLen) (htm : tm < 18446744073709551616) :
    Calls Try.prog 14 #[.pointer (some ⟨p, 0, none⟩), .agg #[.int .i64 (id : Int), .int .u64 (lsn : Int), .slice a l.length c], .agg #[.int .i64 kd, .string (txt key), .string (txt val), .int .u64 (tm : Int)]] wr (P14 w Dd dA id) := by
  obtain ⟨hX, hb⟩ := Bx.new wr #[.int .i64 (id : Int), .int .u64 (lsn : Int), .slice a l.length c] #[.int .i64 kd, .string (txt key), .string (txt val), .int .u64 (tm : Int)] #[.int .i64 0, .int .u64 0, .slice none 0 0]
  have HT := toHid (h.on hb)
  have HX := toHid hX
  have HDd := toHid (lt_of_blk h.box)
  have HW := toHid h.bel.size
  have HA : Hid (∀ y, a = some y → l ≠ [] → y.block < wr.heap.size) := fun y hy hl => slC_lt' h.sl y hy hl
  have HK := toHid hk
  have HV := toHid hv
  have HTm := toHid htm
  have HKd := toHid hkd
  clear h hX hb hk hv htm hkd
  go_enter Try.func14, Try.ntmps14
  refine wp_seq_k fun K0 hK0 => ?_
  have HK0 := toHid hK0
  clear hK0
  go_wp2_with fail
  refine HK0.out _ _ ?_
  clear HK0
  generalize hw0 : ((wr.alloc (.cells #[.int .i64 (id : Int), .int .u64 (lsn : Int), .slice a l.length c] 33)).alloc (.cells #[.int .i64 kd, .string (txt key), .string (txt val), .int .u64 (tm : Int)] 37)).alloc (.cells #[.int .i64 0, .int .u64 0, .slice none 0 0] 33) = w0 at HT HX ⊢
  clear hw0
  generalize hB : wr.heap.size = B at HX HDd HW HA ⊢
  clear hB
  obtain ⟨c0, c1, c2, c3⟩ := cell4 HX.out.h1
  obtain ⟨d0, d1, d2, _⟩ := cell3 HX.out.h0
  rw [HKd.out] at c0
  go_wp2_with fail
  go_at_call 28
  refine Calls.mono (delete_any _ p (id : Int) lsn v l key w0 HT.out.pg HT.out.good) ?_
  rintro e w1 ⟨rfl, v1, hP1, hT1, hv1⟩
  have HX1 := toHid (HX.out.touch HT.out hT1)
  have HT1 := toHid (HT.out.page hP1 (del_good HT.out.good key) HT.out.hls hT1 (fun k hk => .inl (by rw [← hv1]; exact hk)))
  have HGd := toHid (del_good HT.out.good' key)
  clear hP1 hT1 c0 c1 c2 c3 d0 d1 d2
  obtain ⟨r1, hr1⟩ : ∃ r, r = (delL l key).2 := ⟨_, rfl⟩
  rw [← hr1]
  obtain ⟨c0, c1, c2, c3⟩ := cell4 HX1.out.h1
  obtain ⟨d0, d1, d2, _⟩ := cell3 HX1.out.h0
  go_wp2_with fail
  go_at_call 36
  refine Calls.mono (refdelete_any (id : Int) lsn a c l key w1 HT1.out.sl HT1.out.good') ?_
  rintro e w2 ⟨a', ⟨c', rfl⟩, hS2, hn2, hB2⟩
  rw [← hr1]
  clear hr1
  have HT2 := toHid (HT1.out.doc hS2 HGd.out hn2 hB2)
  have HX2 := toHid (HX1.out.below hB2)
  have hB12 := lt_of_blk HX1.out.h2
  have HA2 : Hid (∀ y, a' = some y → (delL l key).1 ≠ [] → y.block ≠ B + 2) := fun y hy hl => by
    rcases hn2 with ⟨e1, e2⟩ | e
    · have := HA.out y (by rw [← e1]; exact hy) (by rw [← e2]; exact hl)
      omega
    · have := e y hy
      omega
  have HLt : Hid (B + 2 < w2.heap.size) := lt_of_blk HX2.out.h2
  obtain ⟨l2, hl2⟩ : ∃ x, x = (delL l key).1 := ⟨_, rfl⟩
  simp only [refP]
  rw [← hl2] at HT2 HA2 ⊢
  clear hS2 hn2 hB2 hB12 hl2 HT1 HX1 HT HX HGd c0 c1 c2 c3 d0 d1 d2
  have hb3 : Below w2.heap.size w2 (w2.alloc (.cells #[.int .i64 (id : Int), .int .u64 (lsn : Int), .slice a' l2.length c'] 33)) := (Below.refl _ _).alloc (Nat.le_refl _) _
  have HT3 := toHid (HT2.out.on hb3)
  have HX3 := toHid (HX2.out.below hb3)
  have HY3 := toHid (heap_alloc_new w2 (.cells #[.int .i64 (id : Int), .int .u64 (lsn : Int), .slice a' l2.length c'] 33))
  clear hb3 HT2 HX2
  go_wp2_with fail
  generalize hw3 : w2.alloc (.cells #[.int .i64 (id : Int), .int .u64 (lsn : Int), .slice a' l2.length c'] 33) = w3 at HT3 HX3 HY3 ⊢
  clear hw3
  generalize hA1 : w2.heap.size = A1 at HY3 HLt ⊢
  clear hA1
  refine wp_region_held_drew (S := fun W => W.cell? ⟨A1, 0, none⟩ = some (.int .i64 (id : Int)) ∧ W.cell? ⟨A1, 1, none⟩ = some (.int .u64 (lsn : Int)) ∧ W.cell? ⟨A1, 2, none⟩ = some (.slice a' l2.length c')) (by kernel_rfl) ?_ (fun hHeld => ?_)
  · obtain ⟨y0, y1, y2, _⟩ := cell3 HY3.out
    exact ⟨y0, y1, y2⟩
  have HTd := toHid (HT3.out.on ((Below.refl _ w3).drew))
  have HXd := toHid (HX3.out.below ((Below.refl _ w3).drew))
  have HYd : Hid (w3.drew.heap[A1]? = some (.cells #[.int .i64 (id : Int), .int .u64 (lsn : Int), .slice a' l2.length c'] 33)) := HY3.out
  clear HT3 HX3 HY3
  generalize hwd : w3.drew = wd at HTd HXd HYd hHeld ⊢
  clear hwd
  refine wpAnyH_take (i := 0) (v := ?_) rfl (by kernel_rfl) (by kernel_rfl) (by kernel_rfl) (fun _ _ _ h => h) (Or.inl ⟨by rfl, ?_⟩) (by assumption) ?_
  rotate_left
  · (intro W hSw; obtain ⟨y0, y1, y2⟩ := hSw; go_simp; try with_reducible rfl)
  try simp only [Act.put, List.getElem_toArray, List.getElem_cons_zero, List.setIfInBounds_toArray, List.set_cons_zero, List.set_cons_succ]
  refine wpAnyH_take (i := 1) (v := ?_) rfl (by kernel_rfl) (by kernel_rfl) (by kernel_rfl) (fun _ _ _ h => h) (Or.inl ⟨by rfl, ?_⟩) (by assumption) ?_
  rotate_left
  · (intro W hSw; obtain ⟨y0, y1, y2⟩ := hSw; go_simp; try with_reducible rfl)
  try simp only [Act.put, List.getElem_toArray, List.getElem_cons_zero, List.getElem_cons_succ, List.setIfInBounds_toArray, List.set_cons_zero, List.set_cons_succ]
  refine wpAnyH_take (i := 2) (v := ?_) rfl (by kernel_rfl) (by kernel_rfl) (by kernel_rfl) (fun _ _ _ h => h) (Or.inl ⟨by rfl, ?_⟩) (by assumption) ?_
  rotate_left
  · (intro W hSw; obtain ⟨y0, y1, y2⟩ := hSw; go_simp; try with_reducible rfl)
  try simp only [Act.put, List.getElem_toArray, List.getElem_cons_zero, List.getElem_cons_succ, List.setIfInBounds_toArray, List.set_cons_zero, List.set_cons_succ]
  refine wpAnyH_take (i := 3) (v := ?_) rfl (by kernel_rfl) (by kernel_rfl) (by kernel_rfl) (fun _ _ _ h => h) (Or.inl ⟨by rfl, ?_⟩) (by assumption) ?_
  rotate_left
  · (intro W hSw; obtain ⟨y0, y1, y2⟩ := hSw; go_simp; try with_reducible rfl)
  try simp only [Act.put, List.getElem_toArray, List.getElem_cons_zero, List.getElem_cons_succ, List.setIfInBounds_toArray, List.set_cons_zero, List.set_cons_succ]
  refine wpAnyH_take (i := 4) (v := ?_) rfl (by kernel_rfl) (by kernel_rfl) (by kernel_rfl) (fun _ _ _ h => h) (Or.inl ⟨by rfl, ?_⟩) (by assumption) ?_
  rotate_left
  · (intro W hSw; obtain ⟨y0, y1, y2⟩ := hSw; go_simp; try with_reducible rfl)
  try simp only [Act.put, List.getElem_toArray, List.getElem_cons_zero, List.getElem_cons_succ, List.setIfInBounds_toArray, List.set_cons_zero, List.set_cons_succ]
  refine wpAnyH_take (i := 5) (v := ?_) rfl (by kernel_rfl) (by kernel_rfl) (by kernel_rfl) (fun _ _ _ h => h) (Or.inl ⟨by rfl, ?_⟩) (by assumption) ?_
  rotate_left
  · (intro W hSw; obtain ⟨y0, y1, y2⟩ := hSw; go_simp; try with_reducible rfl)
  try simp only [Act.put, List.getElem_toArray, List.getElem_cons_zero, List.getElem_cons_succ, List.setIfInBounds_toArray, List.set_cons_zero, List.set_cons_succ]
  obtain ⟨f1, f2⟩ := fin14 HTd.out HXd.out rfl HDd.out HW.out HA2.out (.int .i64 (id : Int)) (.int .u64 (lsn : Int)) (.slice a' l2.length c')
  have HF1 := toHid f1
  have HF2 := toHid f2
  have HK5 : Hid (∀ k, k ≠ B + 2 → (((wd.setCell ⟨B + 2, 0, none⟩ (.int .i64 (id : Int))).setCell ⟨B + 2, 1, none⟩ (.int .u64 (lsn : Int))).setCell ⟨B + 2, 2, none⟩ (.slice a' l2.length c')).heap[k]? = wd.heap[k]?) := fun k hk => by rw [heap_setCell_other _ _ _ _ hk, heap_setCell_other _ _ _ _ hk, heap_setCell_other _ _ _ _ hk]
  clear f1 f2
  refine wpAnyH_ready (rs := [6]) (by kernel_rfl) (by simp) ?_
  refine AllReadyH.cons rfl (fun K hK => ?_) AllReadyH.nil
  clear hHeld
  obtain ⟨z0, z1, z2, zf⟩ := cell3 HXd.out.h2
  go_simp
  refine hK.out _ _ ?_ (fun hHeld => ?_)
  · obtain ⟨y0, y1, y2, _⟩ := cell3 ((HK5.out A1 (by have := HLt.out; omega)).trans HYd.out)
    exact ⟨y0, y1, y2⟩
  clear hK K
  try simp only [Act.put, List.getElem_toArray, List.getElem_cons_zero, List.getElem_cons_succ, List.setIfInBounds_toArray, List.set_cons_zero, List.set_cons_succ]
  refine wpAnyH_take (i := 7) (v := ?_) rfl (by kernel_rfl) (by kernel_rfl) (by kernel_rfl) (fun _ _ _ h => h) (Or.inl ⟨by rfl, ?_⟩) (by assumption) ?_
  rotate_left
  · (intro W hSw; obtain ⟨y0, y1, y2⟩ := hSw; go_simp; try with_reducible rfl)
  try simp only [Act.put, List.getElem_toArray, List.getElem_cons_zero, List.getElem_cons_succ, List.setIfInBounds_toArray, List.set_cons_zero, List.set_cons_succ]
  refine wpAnyH_done (by kernel_rfl) ?_ _
  simp only [Exit.then]
  go_wp2_with fail
  exact bodyPost_ret (results_t_c_t (P := Try.prog) Try.results14 _ _ (B + 2) 33 _ (0, 0) _ rfl HF1.out Try.underlying33 rfl (by kernel_rfl)) rfl ⟨_, _, _, _, _, _, rfl, HF2.out⟩


end Go.Proofs.Ytoahcihhpimmgaa
