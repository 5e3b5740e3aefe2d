/-
  PagePlays: the other steps.
-/
import Derived.Test.YtoahcihhpimmgaaXd
namespace Go.Proofs.Ytoahcihhpimmgaa
open Go.RowKit

theorem Tw.new {w W W' : World} {Dd : Nat} {dA : Array Value} {p id lsn : Nat} {v : Value} {a : Option Addr} {l m : List Cl} (h : Tw w W Dd dA p id lsn v a l m) {q : Nat} {v' : Value} (hq : PgOk W' W.heap.size q (id : Int) lsn v' l) (hb : Below W.heap.size W W') : Tw w W' Dd dA q id lsn v' a l m := by
  have hz := h.bel.size
  have hqb := hq.base
  refine ⟨⟨hq.blk, row_low hq.own hz, hq.ne, by omega⟩, h.good, h.good', h.hid, h.hls, h.sl.below hb, fun y hy hm => ?_, (hb.block _ (lt_of_blk h.box)).trans h.box, h.bel.trans (hb.mono hz)⟩
  have h1 := slC_lt' h.sl y hy hm
  refine ⟨by omega, fun e => ?_, (h.sep y hy hm).2.2⟩
  obtain ⟨av, cv, rfl⟩ := ownsRow_shape hq.own
  rcases own_addr hq.own with ⟨e1, _⟩ | ⟨g, cur, e1, hg, _⟩
  · rw [e1] at e; simp [Value.ownBlock] at e
  · rw [e1] at e; simp [Value.ownBlock] at e; omega
theorem Tw.drew {w W : World} {Dd : Nat} {dA : Array Value} {p id lsn : Nat} {v : Value} {a : Option Addr} {l m : List Cl} (h : Tw w W Dd dA p id lsn v a l m) : Tw w W.drew Dd dA p id lsn v a l m := h.on ((Below.refl _ W).drew)
theorem Bx.drew {B : Nat} {W : World} {d o z : Array Value} (h : Bx B W d o z) : Bx B W.drew d o z := h.below ((Below.refl _ W).drew)
theorem apart2 {a : Option Addr} {l : List Cl} {B : Nat} (h : ∀ y, a = some y → l ≠ [] → y.block < B) : ∀ y, a = some y → l ≠ [] → y.block ≠ B + 2 := fun y hy hl e => by have := h y hy hl; omega

set_option maxRecDepth 100000 in
set_option maxHeartbeats 4000000 in
theorem step_clone (w wr : World) (Dd : Nat) (dA : Array Value) (p id lsn : Nat) (v : Value) (a : Option Addr) (c : Nat) (l : List Cl) (h : Tw w wr Dd dA p id lsn v a l l) (kd : Int) (key val : List UInt8) (tm : Nat) (hkd : ¬ kd = 0 ∧ ¬ kd = 1 ∧ ¬ kd = 2 ∧ ¬ kd = 3 ∧ ¬ kd = 4 ∧ ¬ kd = 5) (hk : key.length ≤ maxLen) (hv : val.length ≤ maxLen) (htm : tm < 18446744073709551616) :
    Calls Try.prog 14 #[.pointer (some ⟨p, 0, none⟩), .agg #[.int .i64 (id : Int), .int .u64 (lsn : Int), .slice a l.length c], .agg #[.int .i64 kd, .string (txt key), .string (txt val), .int .u64 (tm : Int)]] wr (P14 w Dd dA id) := by
  obtain ⟨hX, hb⟩ := Bx.new wr #[.int .i64 (id : Int), .int .u64 (lsn : Int), .slice a l.length c] #[.int .i64 kd, .string (txt key), .string (txt val), .int .u64 (tm : Int)] #[.int .i64 0, .int .u64 0, .slice none 0 0]
  have HT := toHid (h.on hb)
  have HX := toHid hX
  have HDd := toHid (lt_of_blk h.box)
  have HW := toHid h.bel.size
  have HA : Hid (∀ y, a = some y → l ≠ [] → y.block < wr.heap.size) := fun y hy hl => slC_lt' h.sl y hy hl
  have HK := toHid hk
  have HV := toHid hv
  have HTm := toHid htm
  have HKd := toHid hkd
  clear h hX hb hk hv htm hkd
  go_enter Try.func14, Try.ntmps14
  refine wp_seq_k fun K0 hK0 => ?_
  have HK0 := toHid hK0
  clear hK0
  go_wp2_with fail
  refine HK0.out _ _ ?_
  clear HK0
  generalize hw0 : ((wr.alloc (.cells #[.int .i64 (id : Int), .int .u64 (lsn : Int), .slice a l.length c] 33)).alloc (.cells #[.int .i64 kd, .string (txt key), .string (txt val), .int .u64 (tm : Int)] 37)).alloc (.cells #[.int .i64 0, .int .u64 0, .slice none 0 0] 33) = w0 at HT HX ⊢
  clear hw0
  generalize hB : wr.heap.size = B at HX HDd HW HA ⊢
  clear hB
  obtain ⟨c0, c1, c2, c3⟩ := cell4 HX.out.h1
  obtain ⟨d0, d1, d2, _⟩ := cell3 HX.out.h0
  have z0 : (kd == 0) = false := by simp [HKd.out.1]
  have z1 : (kd == 1) = false := by simp [HKd.out.2.1]
  have z2 : (kd == 2) = false := by simp [HKd.out.2.2.1]
  have z3 : (kd == 3) = false := by simp [HKd.out.2.2.2.1]
  have z4 : (kd == 4) = false := by simp [HKd.out.2.2.2.2.1]
  have z5 : (kd == 5) = false := by simp [HKd.out.2.2.2.2.2]
  go_wp2_with fail
  go_at_call 39
  refine Calls.mono (clone_any _ p (id : Int) lsn v l w0 HT.out.pg HT.out.good) ?_
  rintro e w1 ⟨q, v1, rfl, hQ1, hB1⟩
  have HX1 := toHid (HX.out.below hB1)
  have HT1 := toHid (HT.out.new hQ1 hB1)
  clear hQ1 hB1 HT HX c0 c1 c2 c3 d0 d1 d2 z0 z1 z2 z3 z4 z5
  go_wp2_with fail
  refine wp_region_held_drew (S := fun W => W.cell? ⟨B, 0, none⟩ = some (.int .i64 (id : Int)) ∧ W.cell? ⟨B, 1, none⟩ = some (.int .u64 (lsn : Int)) ∧ W.cell? ⟨B, 2, none⟩ = some (.slice a l.length c)) (by kernel_rfl) ?_ (fun hHeld => ?_)
  · obtain ⟨y0, y1, y2, _⟩ := cell3 HX1.out.h0
    exact ⟨y0, y1, y2⟩
  have HTd := toHid HT1.out.drew
  have HXd := toHid HX1.out.drew
  clear HT1 HX1
  generalize hwd : w1.drew = wd at HTd HXd hHeld ⊢
  clear hwd
  refine wpAnyH_take (i := 0) (v := ?_) rfl (by kernel_rfl) (by kernel_rfl) (by kernel_rfl) (fun _ _ _ h => h) (Or.inl ⟨by rfl, ?_⟩) (by assumption) ?_
  rotate_left
  · (intro W hSw; obtain ⟨y0, y1, y2⟩ := hSw; go_simp; try with_reducible rfl)
  try simp only [Act.put, List.getElem_toArray, List.getElem_cons_zero, List.setIfInBounds_toArray, List.set_cons_zero, List.set_cons_succ]
  refine wpAnyH_take (i := 1) (v := ?_) rfl (by kernel_rfl) (by kernel_rfl) (by kernel_rfl) (fun _ _ _ h => h) (Or.inl ⟨by rfl, ?_⟩) (by assumption) ?_
  rotate_left
  · (intro W hSw; obtain ⟨y0, y1, y2⟩ := hSw; go_simp; try with_reducible rfl)
  try simp only [Act.put, List.getElem_toArray, List.getElem_cons_zero, List.getElem_cons_succ, List.setIfInBounds_toArray, List.set_cons_zero, List.set_cons_succ]
  refine wpAnyH_take (i := 2) (v := ?_) rfl (by kernel_rfl) (by kernel_rfl) (by kernel_rfl) (fun _ _ _ h => h) (Or.inl ⟨by rfl, ?_⟩) (by assumption) ?_
  rotate_left
  · (intro W hSw; obtain ⟨y0, y1, y2⟩ := hSw; go_simp; try with_reducible rfl)
  try simp only [Act.put, List.getElem_toArray, List.getElem_cons_zero, List.getElem_cons_succ, List.setIfInBounds_toArray, List.set_cons_zero, List.set_cons_succ]
  refine wpAnyH_take (i := 3) (v := ?_) rfl (by kernel_rfl) (by kernel_rfl) (by kernel_rfl) (fun _ _ _ h => h) (Or.inl ⟨by rfl, ?_⟩) (by assumption) ?_
  rotate_left
  · (intro W hSw; obtain ⟨y0, y1, y2⟩ := hSw; go_simp; try with_reducible rfl)
  try simp only [Act.put, List.getElem_toArray, List.getElem_cons_zero, List.getElem_cons_succ, List.setIfInBounds_toArray, List.set_cons_zero, List.set_cons_succ]
  refine wpAnyH_take (i := 4) (v := ?_) rfl (by kernel_rfl) (by kernel_rfl) (by kernel_rfl) (fun _ _ _ h => h) (Or.inl ⟨by rfl, ?_⟩) (by assumption) ?_
  rotate_left
  · (intro W hSw; obtain ⟨y0, y1, y2⟩ := hSw; go_simp; try with_reducible rfl)
  try simp only [Act.put, List.getElem_toArray, List.getElem_cons_zero, List.getElem_cons_succ, List.setIfInBounds_toArray, List.set_cons_zero, List.set_cons_succ]
  obtain ⟨f1, f2⟩ := fin14 HTd.out HXd.out rfl HDd.out HW.out (apart2 HA.out) (.int .i64 (id : Int)) (.int .u64 (lsn : Int)) (.slice a l.length c)
  have HF1 := toHid f1
  have HF2 := toHid f2
  have HK5 : Hid (∀ k, k ≠ B + 2 → (((wd.setCell ⟨B + 2, 0, none⟩ (.int .i64 (id : Int))).setCell ⟨B + 2, 1, none⟩ (.int .u64 (lsn : Int))).setCell ⟨B + 2, 2, none⟩ (.slice a l.length c)).heap[k]? = wd.heap[k]?) := fun k hk => by rw [heap_setCell_other _ _ _ _ hk, heap_setCell_other _ _ _ _ hk, heap_setCell_other _ _ _ _ hk]
  clear f1 f2
  refine wpAnyH_ready (rs := [5]) (by kernel_rfl) (by simp) ?_
  refine AllReadyH.cons rfl (fun K hK => ?_) AllReadyH.nil
  clear hHeld
  obtain ⟨z0, z1, z2, zf⟩ := cell3 HXd.out.h2
  go_simp
  refine hK.out _ _ ?_ (fun hHeld => ?_)
  · obtain ⟨y0, y1, y2, _⟩ := cell3 ((HK5.out B (by omega)).trans HXd.out.h0)
    exact ⟨y0, y1, y2⟩
  clear hK K
  try simp only [Act.put, List.getElem_toArray, List.getElem_cons_zero, List.getElem_cons_succ, List.setIfInBounds_toArray, List.set_cons_zero, List.set_cons_succ]
  refine wpAnyH_take (i := 6) (v := ?_) rfl (by kernel_rfl) (by kernel_rfl) (by kernel_rfl) (fun _ _ _ h => h) (Or.inl ⟨by rfl, ?_⟩) (by assumption) ?_
  rotate_left
  · (intro W hSw; obtain ⟨y0, y1, y2⟩ := hSw; go_simp; try with_reducible rfl)
  try simp only [Act.put, List.getElem_toArray, List.getElem_cons_zero, List.getElem_cons_succ, List.setIfInBounds_toArray, List.set_cons_zero, List.set_cons_succ]
  refine wpAnyH_done (by kernel_rfl) ?_ _
  simp only [Exit.then]
  go_wp2_with fail
  exact bodyPost_ret (results_t_c_t (P := Try.prog) Try.results14 _ _ (B + 2) 33 _ (0, 0) _ rfl HF1.out Try.underlying33 rfl (by kernel_rfl)) rfl ⟨_, _, _, _, _, _, rfl, HF2.out⟩

set_option maxRecDepth 100000 in
set_option maxHeartbeats 4000000 in
theorem step_stamp (w wr : World) (Dd : Nat) (dA : Array Value) (p id lsn : Nat) (v : Value) (a : Option Addr) (c : Nat) (l : List Cl) (h : Tw w wr Dd dA p id lsn v a l l) (kd : Int) (key val : List UInt8) (tm : Nat) (hkd : kd = 4) (hk : key.length ≤ maxLen) (hv : val.length ≤ maxLen) (htm : tm < 18446744073709551616) :
    Calls Try.prog 14 #[.pointer (some ⟨p, 0, none⟩), .agg #[.int .i64 (id : Int), .int .u64 (lsn : Int), .slice a l.length c], .agg #[.int .i64 kd, .string (txt key), .string (txt val), .int .u64 (tm : Int)]] wr (P14 w Dd dA id) := by
  obtain ⟨hX, hb⟩ := Bx.new wr #[.int .i64 (id : Int), .int .u64 (lsn : Int), .slice a l.length c] #[.int .i64 kd, .string (txt key), .string (txt val), .int .u64 (tm : Int)] #[.int .i64 0, .int .u64 0, .slice none 0 0]
  have HT := toHid (h.on hb)
  have HX := toHid hX
  have HDd := toHid (lt_of_blk h.box)
  have HW := toHid h.bel.size
  have HA : Hid (∀ y, a = some y → l ≠ [] → y.block < wr.heap.size) := fun y hy hl => slC_lt' h.sl y hy hl
  have HK := toHid hk
  have HV := toHid hv
  have HTm := toHid htm
  have HKd := toHid hkd
  clear h hX hb hk hv htm hkd
  go_enter Try.func14, Try.ntmps14
  refine wp_seq_k fun K0 hK0 => ?_
  have HK0 := toHid hK0
  clear hK0
  go_wp2_with fail
  refine HK0.out _ _ ?_
  clear HK0
  generalize hw0 : ((wr.alloc (.cells #[.int .i64 (id : Int), .int .u64 (lsn : Int), .slice a l.length c] 33)).alloc (.cells #[.int .i64 kd, .string (txt key), .string (txt val), .int .u64 (tm : Int)] 37)).alloc (.cells #[.int .i64 0, .int .u64 0, .slice none 0 0] 33) = w0 at HT HX ⊢
  clear hw0
  generalize hB : wr.heap.size = B at HX HDd HW HA ⊢
  clear hB
  obtain ⟨c0, c1, c2, c3⟩ := cell4 HX.out.h1
  obtain ⟨d0, d1, d2, _⟩ := cell3 HX.out.h0
  rw [HKd.out] at c0
  go_wp2_with fail
  go_at_call 38
  refine Calls.mono (stamp_any _ p (id : Int) lsn v l tm w0 HT.out.pg) ?_
  rintro e w1 ⟨rfl, hP1, hT1⟩
  have HXa := toHid (HX.out.touch HT.out hT1)
  have HTa := toHid (HT.out.page hP1 HT.out.good HTm.out hT1 (Fresh.refl _ _))
  clear hP1 hT1 HT HX c0 c1 c2 c3 d0 d1 d2
  obtain ⟨c0, c1, c2, c3⟩ := cell4 HXa.out.h1
  obtain ⟨d0, d1, d2, df⟩ := cell3 HXa.out.h0
  have s1 := heap_setCell_same w1 B 1 _ 33 (.int .u64 (tm : Int)) HXa.out.h0
  have HX1 : Hid (Bx B (w1.setCell ⟨B, 1, none⟩ (.int .u64 (tm : Int))) #[.int .i64 (id : Int), .int .u64 (tm : Int), .slice a l.length c] #[.int .i64 4, .string (txt key), .string (txt val), .int .u64 (tm : Int)] #[.int .i64 0, .int .u64 0, .slice none 0 0]) := ⟨s1, by rw [heap_setCell_other _ _ _ _ (by simp)]; rw [← HKd.out]; exact HXa.out.h1, by rw [heap_setCell_other _ _ _ _ (by simp)]; exact HXa.out.h2⟩
  have HT1 := toHid (HTa.out.put (i := 1) HXa.out.h0 (by have := HDd.out; omega) HW.out (fun y hy hl e => by have := HA.out y hy hl; omega) (.int .u64 (tm : Int)))
  clear s1 HXa HTa
  go_wp2_with fail
  generalize hw2 : w1.setCell ⟨B, 1, none⟩ (.int .u64 (tm : Int)) = w2 at HX1 HT1 ⊢
  clear hw2
  refine wp_region_held_drew (S := fun W => W.cell? ⟨B, 0, none⟩ = some (.int .i64 (id : Int)) ∧ W.cell? ⟨B, 1, none⟩ = some (.int .u64 (tm : Int)) ∧ W.cell? ⟨B, 2, none⟩ = some (.slice a l.length c)) (by kernel_rfl) ?_ (fun hHeld => ?_)
  · obtain ⟨y0, y1, y2, _⟩ := cell3 HX1.out.h0
    exact ⟨y0, y1, y2⟩
  have HTd := toHid HT1.out.drew
  have HXd := toHid HX1.out.drew
  clear HT1 HX1
  generalize hwd : w2.drew = wd at HTd HXd hHeld ⊢
  clear hwd
  refine wpAnyH_take (i := 0) (v := ?_) rfl (by kernel_rfl) (by kernel_rfl) (by kernel_rfl) (fun _ _ _ h => h) (Or.inl ⟨by rfl, ?_⟩) (by assumption) ?_
  rotate_left
  · (intro W hSw; obtain ⟨y0, y1, y2⟩ := hSw; go_simp; try with_reducible rfl)
  try simp only [Act.put, List.getElem_toArray, List.getElem_cons_zero, List.setIfInBounds_toArray, List.set_cons_zero, List.set_cons_succ]
  refine wpAnyH_take (i := 1) (v := ?_) rfl (by kernel_rfl) (by kernel_rfl) (by kernel_rfl) (fun _ _ _ h => h) (Or.inl ⟨by rfl, ?_⟩) (by assumption) ?_
  rotate_left
  · (intro W hSw; obtain ⟨y0, y1, y2⟩ := hSw; go_simp; try with_reducible rfl)
  try simp only [Act.put, List.getElem_toArray, List.getElem_cons_zero, List.getElem_cons_succ, List.setIfInBounds_toArray, List.set_cons_zero, List.set_cons_succ]
  refine wpAnyH_take (i := 2) (v := ?_) rfl (by kernel_rfl) (by kernel_rfl) (by kernel_rfl) (fun _ _ _ h => h) (Or.inl ⟨by rfl, ?_⟩) (by assumption) ?_
  rotate_left
  · (intro W hSw; obtain ⟨y0, y1, y2⟩ := hSw; go_simp; try with_reducible rfl)
  try simp only [Act.put, List.getElem_toArray, List.getElem_cons_zero, List.getElem_cons_succ, List.setIfInBounds_toArray, List.set_cons_zero, List.set_cons_succ]
  obtain ⟨f1, f2⟩ := fin14 HTd.out HXd.out rfl HDd.out HW.out (apart2 HA.out) (.int .i64 (id : Int)) (.int .u64 (tm : Int)) (.slice a l.length c)
  have HF1 := toHid f1
  have HF2 := toHid f2
  have HK5 : Hid (∀ k, k ≠ B + 2 → (((wd.setCell ⟨B + 2, 0, none⟩ (.int .i64 (id : Int))).setCell ⟨B + 2, 1, none⟩ (.int .u64 (tm : Int))).setCell ⟨B + 2, 2, none⟩ (.slice a l.length c)).heap[k]? = wd.heap[k]?) := fun k hk => by rw [heap_setCell_other _ _ _ _ hk, heap_setCell_other _ _ _ _ hk, heap_setCell_other _ _ _ _ hk]
  clear f1 f2
  refine wpAnyH_ready (rs := [3]) (by kernel_rfl) (by simp) ?_
  refine AllReadyH.cons rfl (fun K hK => ?_) AllReadyH.nil
  clear hHeld
  obtain ⟨z0, z1, z2, zf⟩ := cell3 HXd.out.h2
  go_simp
  refine hK.out _ _ ?_ (fun hHeld => ?_)
  · obtain ⟨y0, y1, y2, _⟩ := cell3 ((HK5.out B (by omega)).trans HXd.out.h0)
    exact ⟨y0, y1, y2⟩
  clear hK K
  try simp only [Act.put, List.getElem_toArray, List.getElem_cons_zero, List.getElem_cons_succ, List.setIfInBounds_toArray, List.set_cons_zero, List.set_cons_succ]
  refine wpAnyH_take (i := 4) (v := ?_) rfl (by kernel_rfl) (by kernel_rfl) (by kernel_rfl) (fun _ _ _ h => h) (Or.inl ⟨by rfl, ?_⟩) (by assumption) ?_
  rotate_left
  · (intro W hSw; obtain ⟨y0, y1, y2⟩ := hSw; go_simp; try with_reducible rfl)
  try simp only [Act.put, List.getElem_toArray, List.getElem_cons_zero, List.getElem_cons_succ, List.setIfInBounds_toArray, List.set_cons_zero, List.set_cons_succ]
  refine wpAnyH_done (by kernel_rfl) ?_ _
  simp only [Exit.then]
  go_wp2_with fail
  exact bodyPost_ret (results_t_c_t (P := Try.prog) Try.results14 _ _ (B + 2) 33 _ (0, 0) _ rfl HF1.out Try.underlying33 rfl (by kernel_rfl)) rfl ⟨_, _, _, _, _, _, rfl, HF2.out⟩

set_option maxRecDepth 100000 in
set_option maxHeartbeats 4000000 in
theorem step_parse (w wr : World) (Dd : Nat) (dA : Array Value) (p id lsn : Nat) (v : Value) (a : Option Addr) (c : Nat) (l : List Cl) (h : Tw w wr Dd dA p id lsn v a l l) (kd : Int) (key val : List UInt8) (tm : Nat) (hkd : kd = 5) (hk : key.length ≤ maxLen) (hv : val.length ≤ maxLen) (htm : tm < 18446744073709551616) :
    Calls Try.prog 14 #[.pointer (some ⟨p, 0, none⟩), .agg #[.int .i64 (id : Int), .int .u64 (lsn : Int), .slice a l.length c], .agg #[.int .i64 kd, .string (txt key), .string (txt val), .int .u64 (tm : Int)]] wr (P14 w Dd dA id) := by
  obtain ⟨hX, hb⟩ := Bx.new wr #[.int .i64 (id : Int), .int .u64 (lsn : Int), .slice a l.length c] #[.int .i64 kd, .string (txt key), .string (txt val), .int .u64 (tm : Int)] #[.int .i64 0, .int .u64 0, .slice none 0 0]
  have HT := toHid (h.on hb)
  have HX := toHid hX
  have HDd := toHid (lt_of_blk h.box)
  have HW := toHid h.bel.size
  have HA : Hid (∀ y, a = some y → l ≠ [] → y.block < wr.heap.size) := fun y hy hl => slC_lt' h.sl y hy hl
  have HK := toHid hk
  have HV := toHid hv
  have HTm := toHid htm
  have HKd := toHid hkd
  clear h hX hb hk hv htm hkd
  go_enter Try.func14, Try.ntmps14
  refine wp_seq_k fun K0 hK0 => ?_
  have HK0 := toHid hK0
  clear hK0
  go_wp2_with fail
  refine HK0.out _ _ ?_
  clear HK0
  generalize hw0 : ((wr.alloc (.cells #[.int .i64 (id : Int), .int .u64 (lsn : Int), .slice a l.length c] 33)).alloc (.cells #[.int .i64 kd, .string (txt key), .string (txt val), .int .u64 (tm : Int)] 37)).alloc (.cells #[.int .i64 0, .int .u64 0, .slice none 0 0] 33) = w0 at HT HX ⊢
  clear hw0
  generalize hB : wr.heap.size = B at HX HDd HW HA ⊢
  clear hB
  obtain ⟨c0, c1, c2, c3⟩ := cell4 HX.out.h1
  obtain ⟨d0, d1, d2, _⟩ := cell3 HX.out.h0
  rw [HKd.out] at c0
  go_wp2_with fail
  have HL5 := toHid (pageB_length id lsn l HT.out.good.room)
  have HT1 := HT
  have HX1 := HX
  clear HT HX c0 c1 c2 c3 d0 d1 d2
  refine wp_region_held_drew (S := fun W => W.cell? ⟨B, 0, none⟩ = some (.int .i64 (id : Int)) ∧ W.cell? ⟨B, 1, none⟩ = some (.int .u64 (lsn : Int))) (by kernel_rfl) ?_ (fun hHeld => ?_)
  · obtain ⟨y0, y1, y2, _⟩ := cell3 HX1.out.h0
    exact ⟨y0, y1⟩
  have HTd := toHid HT1.out.drew
  have HXd := toHid HX1.out.drew
  clear HT1 HX1
  generalize hwd : w0.drew = wd at HTd HXd hHeld ⊢
  clear hwd
  refine wpAnyH_take (i := 0) (v := ?_) rfl (by kernel_rfl) (by kernel_rfl) (by kernel_rfl) (fun _ _ _ h => h) (Or.inl ⟨by rfl, ?_⟩) (by assumption) ?_
  rotate_left
  · (intro W hSw; obtain ⟨y0, y1⟩ := hSw; go_simp; try with_reducible rfl)
  try simp only [Act.put, List.getElem_toArray, List.getElem_cons_zero, List.setIfInBounds_toArray, List.set_cons_zero, List.set_cons_succ]
  refine wpAnyH_take (i := 1) (v := ?_) rfl (by kernel_rfl) (by kernel_rfl) (by kernel_rfl) (fun _ _ _ h => h) (Or.inl ⟨by rfl, ?_⟩) (by assumption) ?_
  rotate_left
  · (intro W hSw; obtain ⟨y0, y1⟩ := hSw; go_simp; try with_reducible rfl)
  try simp only [Act.put, List.getElem_toArray, List.getElem_cons_zero, List.getElem_cons_succ, List.setIfInBounds_toArray, List.set_cons_zero, List.set_cons_succ]
  refine wpAnyH_take (i := 2) (v := ?_) rfl (by kernel_rfl) (by kernel_rfl) (by kernel_rfl) (fun _ _ _ h => h) (Or.inl ⟨by rfl, ?_⟩) (by assumption) ?_
  rotate_left
  · (intro W hSw; obtain ⟨y0, y1⟩ := hSw; go_simp; try with_reducible rfl)
  try simp only [Act.put, List.getElem_toArray, List.getElem_cons_zero, List.getElem_cons_succ, List.setIfInBounds_toArray, List.set_cons_zero, List.set_cons_succ]
  refine wpAnyH_ready (rs := [3]) (by kernel_rfl) (by simp) ?_
  refine AllReadyH.cons rfl (fun K hK => ?_) AllReadyH.nil
  clear hHeld
  go_simp
  refine Calls.mono (bytes_any _ p id lsn v l wd HTd.out.pg HTd.out.good HTd.out.hid) ?_
  rintro e w1 ⟨G, rfl, _, hBuf, hB1⟩
  have HTe := toHid (HTd.out.on hB1)
  have HXe := toHid (HXd.out.below hB1)
  have HU := toHid hBuf
  clear hBuf hB1 HTd HXd
  try go_wp2_with fail
  refine hK.out _ w1 ?_ (fun hHeld => ?_)
  · obtain ⟨y0, y1, y2, _⟩ := cell3 HXe.out.h0
    exact ⟨y0, y1⟩
  clear hK K
  try simp only [Act.put, List.getElem_toArray, List.getElem_cons_zero, List.getElem_cons_succ, List.setIfInBounds_toArray, List.set_cons_zero, List.set_cons_succ]
  refine wpAnyH_ready (rs := [4]) (by kernel_rfl) (by simp) ?_
  refine AllReadyH.cons rfl (fun K hK => ?_) AllReadyH.nil
  clear hHeld
  go_simp
  refine Calls.mono (parse_own G 0 512 id lsn l w1 (by have := Buf.slB HU.out 0; rw [List.drop_zero] at this; exact this) HTe.out.good (by decide) HTe.out.hid HTe.out.hls) ?_
  rintro e w2 ⟨q, v2, rfl, hQ2, hB2⟩
  have HT1 := toHid (HTe.out.new hQ2 hB2)
  have HX1 := toHid (HXe.out.below hB2)
  clear hQ2 hB2 HTe HXe HU
  try go_wp2_with fail
  refine hK.out _ w2 ?_ (fun hHeld => ?_)
  · obtain ⟨y0, y1, y2, _⟩ := cell3 HX1.out.h0
    exact ⟨y0, y1⟩
  clear hK K
  try simp only [Act.put, List.getElem_toArray, List.getElem_cons_zero, List.getElem_cons_succ, List.setIfInBounds_toArray, List.set_cons_zero, List.set_cons_succ]
  refine wpAnyH_take (i := 5) (v := ?_) rfl (by kernel_rfl) (by kernel_rfl) (by kernel_rfl) (fun _ _ _ h => h) (Or.inl ⟨by rfl, ?_⟩) (by assumption) ?_
  rotate_left
  · (intro W hSw; obtain ⟨y0, y1⟩ := hSw; go_simp; try with_reducible rfl)
  try simp only [Act.put, List.getElem_toArray, List.getElem_cons_zero, List.getElem_cons_succ, List.setIfInBounds_toArray, List.set_cons_zero, List.set_cons_succ]
  refine wpAnyH_take (i := 6) (v := ?_) rfl (by kernel_rfl) (by kernel_rfl) (by kernel_rfl) (fun _ _ _ h => h) (Or.inl ⟨by rfl, ?_⟩) (by assumption) ?_
  rotate_left
  · (intro W hSw; obtain ⟨y0, y1⟩ := hSw; go_simp; try with_reducible rfl)
  try simp only [Act.put, List.getElem_toArray, List.getElem_cons_zero, List.getElem_cons_succ, List.setIfInBounds_toArray, List.set_cons_zero, List.set_cons_succ]
  refine wpAnyH_take (i := 7) (v := ?_) rfl (by kernel_rfl) (by kernel_rfl) (by kernel_rfl) (fun _ _ _ h => h) (Or.inl ⟨by rfl, ?_⟩) (by assumption) ?_
  rotate_left
  · (intro W hSw; obtain ⟨y0, y1⟩ := hSw; go_simp; try with_reducible rfl)
  try simp only [Act.put, List.getElem_toArray, List.getElem_cons_zero, List.getElem_cons_succ, List.setIfInBounds_toArray, List.set_cons_zero, List.set_cons_succ]
  refine wpAnyH_take (i := 8) (v := ?_) rfl (by kernel_rfl) (by kernel_rfl) (by kernel_rfl) (fun _ _ _ h => h) (Or.inl ⟨by rfl, ?_⟩) (by assumption) ?_
  rotate_left
  · (intro W hSw; obtain ⟨y0, y1⟩ := hSw; go_simp; try with_reducible rfl)
  try simp only [Act.put, List.getElem_toArray, List.getElem_cons_zero, List.getElem_cons_succ, List.setIfInBounds_toArray, List.set_cons_zero, List.set_cons_succ]
  refine wpAnyH_take (i := 9) (v := ?_) rfl (by kernel_rfl) (by kernel_rfl) (by kernel_rfl) (fun _ _ _ h => h) (Or.inl ⟨by rfl, ?_⟩) (by assumption) ?_
  rotate_left
  · (intro W hSw; obtain ⟨y0, y1⟩ := hSw; go_simp; try with_reducible rfl)
  try simp only [Act.put, List.getElem_toArray, List.getElem_cons_zero, List.getElem_cons_succ, List.setIfInBounds_toArray, List.set_cons_zero, List.set_cons_succ]
  refine wpAnyH_done (by kernel_rfl) ?_ _
  clear hHeld
  simp only [Exit.then]
  go_wp2_with fail
  refine wp_region_held_drew (S := fun W => W.cell? ⟨B, 0, none⟩ = some (.int .i64 (id : Int)) ∧ W.cell? ⟨B, 1, none⟩ = some (.int .u64 (lsn : Int)) ∧ W.cell? ⟨B, 2, none⟩ = some (.slice a l.length c)) (by kernel_rfl) ?_ (fun hHeld => ?_)
  · obtain ⟨y0, y1, y2, _⟩ := cell3 HX1.out.h0
    exact ⟨y0, y1, y2⟩
  have HTd := toHid HT1.out.drew
  have HXd := toHid HX1.out.drew
  clear HT1 HX1
  generalize hwd : w2.drew = wd at HTd HXd hHeld ⊢
  clear hwd
  refine wpAnyH_take (i := 0) (v := ?_) rfl (by kernel_rfl) (by kernel_rfl) (by kernel_rfl) (fun _ _ _ h => h) (Or.inl ⟨by rfl, ?_⟩) (by assumption) ?_
  rotate_left
  · (intro W hSw; obtain ⟨y0, y1, y2⟩ := hSw; go_simp; try with_reducible rfl)
  try simp only [Act.put, List.getElem_toArray, List.getElem_cons_zero, List.setIfInBounds_toArray, List.set_cons_zero, List.set_cons_succ]
  refine wpAnyH_take (i := 1) (v := ?_) rfl (by kernel_rfl) (by kernel_rfl) (by kernel_rfl) (fun _ _ _ h => h) (Or.inl ⟨by rfl, ?_⟩) (by assumption) ?_
  rotate_left
  · (intro W hSw; obtain ⟨y0, y1, y2⟩ := hSw; go_simp; try with_reducible rfl)
  try simp only [Act.put, List.getElem_toArray, List.getElem_cons_zero, List.getElem_cons_succ, List.setIfInBounds_toArray, List.set_cons_zero, List.set_cons_succ]
  refine wpAnyH_take (i := 2) (v := ?_) rfl (by kernel_rfl) (by kernel_rfl) (by kernel_rfl) (fun _ _ _ h => h) (Or.inl ⟨by rfl, ?_⟩) (by assumption) ?_
  rotate_left
  · (intro W hSw; obtain ⟨y0, y1, y2⟩ := hSw; go_simp; try with_reducible rfl)
  try simp only [Act.put, List.getElem_toArray, List.getElem_cons_zero, List.getElem_cons_succ, List.setIfInBounds_toArray, List.set_cons_zero, List.set_cons_succ]
  refine wpAnyH_take (i := 3) (v := ?_) rfl (by kernel_rfl) (by kernel_rfl) (by kernel_rfl) (fun _ _ _ h => h) (Or.inl ⟨by rfl, ?_⟩) (by assumption) ?_
  rotate_left
  · (intro W hSw; obtain ⟨y0, y1, y2⟩ := hSw; go_simp; try with_reducible rfl)
  try simp only [Act.put, List.getElem_toArray, List.getElem_cons_zero, List.getElem_cons_succ, List.setIfInBounds_toArray, List.set_cons_zero, List.set_cons_succ]
  refine wpAnyH_take (i := 4) (v := ?_) rfl (by kernel_rfl) (by kernel_rfl) (by kernel_rfl) (fun _ _ _ h => h) (Or.inl ⟨by rfl, ?_⟩) (by assumption) ?_
  rotate_left
  · (intro W hSw; obtain ⟨y0, y1, y2⟩ := hSw; go_simp; try with_reducible rfl)
  try simp only [Act.put, List.getElem_toArray, List.getElem_cons_zero, List.getElem_cons_succ, List.setIfInBounds_toArray, List.set_cons_zero, List.set_cons_succ]
  refine wpAnyH_take (i := 5) (v := ?_) rfl (by kernel_rfl) (by kernel_rfl) (by kernel_rfl) (fun _ _ _ h => h) (Or.inl ⟨by rfl, ?_⟩) (by assumption) ?_
  rotate_left
  · (intro W hSw; obtain ⟨y0, y1, y2⟩ := hSw; go_simp; try with_reducible rfl)
  try simp only [Act.put, List.getElem_toArray, List.getElem_cons_zero, List.getElem_cons_succ, List.setIfInBounds_toArray, List.set_cons_zero, List.set_cons_succ]
  refine wpAnyH_take (i := 6) (v := ?_) rfl (by kernel_rfl) (by kernel_rfl) (by kernel_rfl) (fun _ _ _ h => h) (Or.inl ⟨by rfl, ?_⟩) (by assumption) ?_
  rotate_left
  · (intro W hSw; obtain ⟨y0, y1, y2⟩ := hSw; go_simp; try with_reducible rfl)
  try simp only [Act.put, List.getElem_toArray, List.getElem_cons_zero, List.getElem_cons_succ, List.setIfInBounds_toArray, List.set_cons_zero, List.set_cons_succ]
  refine wpAnyH_take (i := 7) (v := ?_) rfl (by kernel_rfl) (by kernel_rfl) (by kernel_rfl) (fun _ _ _ h => h) (Or.inl ⟨by rfl, ?_⟩) (by assumption) ?_
  rotate_left
  · (intro W hSw; obtain ⟨y0, y1, y2⟩ := hSw; go_simp; try with_reducible rfl)
  try simp only [Act.put, List.getElem_toArray, List.getElem_cons_zero, List.getElem_cons_succ, List.setIfInBounds_toArray, List.set_cons_zero, List.set_cons_succ]
  refine wpAnyH_take (i := 8) (v := ?_) rfl (by kernel_rfl) (by kernel_rfl) (by kernel_rfl) (fun _ _ _ h => h) (Or.inl ⟨by rfl, ?_⟩) (by assumption) ?_
  rotate_left
  · (intro W hSw; obtain ⟨y0, y1, y2⟩ := hSw; go_simp; try with_reducible rfl)
  try simp only [Act.put, List.getElem_toArray, List.getElem_cons_zero, List.getElem_cons_succ, List.setIfInBounds_toArray, List.set_cons_zero, List.set_cons_succ]
  obtain ⟨f1, f2⟩ := fin14 HTd.out HXd.out rfl HDd.out HW.out (apart2 HA.out) (.int .i64 (id : Int)) (.int .u64 (lsn : Int)) (.slice a l.length c)
  have HF1 := toHid f1
  have HF2 := toHid f2
  have HK5 : Hid (∀ k, k ≠ B + 2 → (((wd.setCell ⟨B + 2, 0, none⟩ (.int .i64 (id : Int))).setCell ⟨B + 2, 1, none⟩ (.int .u64 (lsn : Int))).setCell ⟨B + 2, 2, none⟩ (.slice a l.length c)).heap[k]? = wd.heap[k]?) := fun k hk => by rw [heap_setCell_other _ _ _ _ hk, heap_setCell_other _ _ _ _ hk, heap_setCell_other _ _ _ _ hk]
  clear f1 f2
  refine wpAnyH_ready (rs := [9]) (by kernel_rfl) (by simp) ?_
  refine AllReadyH.cons rfl (fun K hK => ?_) AllReadyH.nil
  clear hHeld
  obtain ⟨z0, z1, z2, zf⟩ := cell3 HXd.out.h2
  go_simp
  refine hK.out _ _ ?_ (fun hHeld => ?_)
  · obtain ⟨y0, y1, y2, _⟩ := cell3 ((HK5.out B (by omega)).trans HXd.out.h0)
    exact ⟨y0, y1, y2⟩
  clear hK K
  try simp only [Act.put, List.getElem_toArray, List.getElem_cons_zero, List.getElem_cons_succ, List.setIfInBounds_toArray, List.set_cons_zero, List.set_cons_succ]
  refine wpAnyH_take (i := 10) (v := ?_) rfl (by kernel_rfl) (by kernel_rfl) (by kernel_rfl) (fun _ _ _ h => h) (Or.inl ⟨by rfl, ?_⟩) (by assumption) ?_
  rotate_left
  · (intro W hSw; obtain ⟨y0, y1, y2⟩ := hSw; go_simp; try with_reducible rfl)
  try simp only [Act.put, List.getElem_toArray, List.getElem_cons_zero, List.getElem_cons_succ, List.setIfInBounds_toArray, List.set_cons_zero, List.set_cons_succ]
  refine wpAnyH_done (by kernel_rfl) ?_ _
  simp only [Exit.then]
  go_wp2_with fail
  exact bodyPost_ret (results_t_c_t (P := Try.prog) Try.results14 _ _ (B + 2) 33 _ (0, 0) _ rfl HF1.out Try.underlying33 rfl (by kernel_rfl)) rfl ⟨_, _, _, _, _, _, rfl, HF2.out⟩


end Go.Proofs.Ytoahcihhpimmgaa
