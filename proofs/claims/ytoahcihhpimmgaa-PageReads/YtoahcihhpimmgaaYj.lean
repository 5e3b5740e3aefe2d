/-
  PageReads: the document's Parse: bytes whose sum is right.
-/
import Derived.Test.YtoahcihhpimmgaaYi
import Derived.Test.YtoahcihhpimmgaaRy
namespace Go.Proofs.Ytoahcihhpimmgaa
open Go.RowKit

/-- What Parse says of bytes whose sum is right. -/
def Ret19 (id : Nat) (b : List UInt8) (w w' : World) (e : Ending) : Prop := Below w.heap.size w w' ∧ ((∃ lsn l a c, GoodL l ∧ lsn < 18446744073709551616 ∧ b = pageB id lsn l ∧ e = .returned (.tuple #[.agg (refP (id : Int) lsn a l.length c), .int .i64 0]) ∧ SlC w' a l) ∨ ((∀ l lsn, GoodL l → lsn < 18446744073709551616 → b ≠ pageB id lsn l) ∧ e = .returned (.tuple #[.agg (refP 0 0 none 0 0), .int .i64 5])))
def NoP (id : Nat) (b : List UInt8) : Prop := ∀ l lsn, GoodL l → lsn < 18446744073709551616 → b ≠ pageB id lsn l
theorem ret19_no {id : Nat} {b : List UInt8} {w w' : World} (hb : Below w.heap.size w w') (h : NoP id b) : Ret19 id b w w' (.returned (.tuple #[.agg (refP 0 0 none 0 0), .int .i64 5])) := ⟨hb, .inr ⟨h, rfl⟩⟩

/-- The slots that the document has read. -/
structure Rd (b : List UInt8) (l : List Cl) : Prop where
  slots : ∀ j (hj : j < l.length), refSlot b (16 + 4 * j) = (l[j], true)
  cells : ∀ c ∈ l, goodC c
  once : ∀ i j (hi : i < l.length) (hj : j < l.length), l[i].used = true → l[j].used = true → l[i].key = l[j].key → i = j

theorem Rd.start (b : List UInt8) : Rd b [] := ⟨by simp, by simp, by simp⟩
theorem Rd.snoc {b : List UInt8} {l : List Cl} {c : Cl} (h : Rd b l) (hs : refSlot b (16 + 4 * l.length) = (c, true)) (hc : c.used = true → l.findIdx? (isKey c.key) = none) : Rd b (l ++ [c]) := by
  have hg := refSlot_good b (16 + 4 * l.length)
  rw [hs] at hg
  refine ⟨fun j hj => ?_, fun d hd => ?_, once_snoc h.once (fun hu d hd hdu he => ?_)⟩
  · by_cases e : j < l.length
    · rw [List.getElem_append_left e]; exact h.slots j e
    · obtain rfl : j = l.length := by simp at hj; omega
      rw [hs]; simp
  · rcases List.mem_append.1 hd with e | e
    · exact h.cells d e
    · obtain rfl : d = c := by simpa using e
      exact hg
  · have := List.findIdx?_eq_none_iff.1 (hc hu) d hd
    simp [isKey, hdu] at this
    exact this he
theorem Rd.page {id lsn : Nat} {l0 l : List Cl} (h : Rd (pageB id lsn l0) l) (hg : GoodL l0) (hl : l.length ≤ l0.length) : l = l0.take l.length := by
  refine List.ext_getElem (by simp; omega) (fun j h1 h2 => ?_)
  have e1 := h.slots j h1
  rw [slot_page id lsn l0 hg j (by omega)] at e1
  simp at e1
  rw [List.getElem_take]
  exact e1.symm
theorem id_page (id lsn : Nat) (l : List Cl) (hid : id < 16) : leV (((pageB id lsn l).drop 12).take 2) = id := by rw [pg_id, leV_leB]; omega
theorem count_page (id lsn : Nat) (l : List Cl) (hg : GoodL l) : leV (((pageB id lsn l).drop 14).take 2) = l.length := by have := hg.few; rw [pg_count, leV_leB]; omega
theorem lsn_page (id lsn : Nat) (l : List Cl) (h : lsn < 18446744073709551616) : leV (((pageB id lsn l).drop 4).take 8) = lsn := by rw [pg_lsn, leV_leB]; omega
theorem nop_head {id id0 n : Nat} {b : List UInt8} (hid : id < 16) (h1 : leV ((b.drop 12).take 2) = id0) (h2 : leV ((b.drop 14).take 2) = n) (h : id0 ≠ id ∨ 64 < n) : NoP id b := by
  intro l lsn hg hl e
  rw [e, id_page id lsn l hid] at h1
  rw [e, count_page id lsn l hg] at h2
  have := hg.few
  omega
theorem nop_slot {id n : Nat} {b : List UInt8} {c : Cl} (h2 : leV ((b.drop 14).take 2) = n) {k : Nat} (hk : k < n) (hs : refSlot b (16 + 4 * k) = (c, false)) : NoP id b := by
  intro l lsn hg hl e
  rw [e, count_page id lsn l hg] at h2
  rw [e, slot_page id lsn l hg k (by omega)] at hs
  simp at hs
theorem nop_twice {id n i : Nat} {b : List UInt8} {c : Cl} {l : List Cl} (h : Rd b l) (h2 : leV ((b.drop 14).take 2) = n) (hk : l.length < n) (hs : refSlot b (16 + 4 * l.length) = (c, true)) (hu : c.used = true) (hf : l.findIdx? (isKey c.key) = some i) : NoP id b := by
  intro l0 lsn hg hl e
  subst e
  rw [count_page id lsn l0 hg] at h2
  have ht := h.page hg (by omega)
  rw [slot_page id lsn l0 hg l.length (by omega)] at hs
  simp at hs
  have := good_before l0 hg l.length (by omega) (by rw [hs]; exact hu)
  rw [hs, ← ht, hf] at this
  simp at this
theorem rd_all {id lsn n : Nat} {l0 l : List Cl} (h : Rd (pageB id lsn l0) l) (hg : GoodL l0) (h2 : leV (((pageB id lsn l0).drop 14).take 2) = n) (hk : l.length = n) : l = l0 := by
  rw [count_page id lsn l0 hg] at h2
  have ht := h.page hg (by omega)
  rw [show l.length = l0.length by omega, List.take_length] at ht
  exact ht
theorem nop_end {id n : Nat} {b : List UInt8} {l : List Cl} (h : Rd b l) (h2 : leV ((b.drop 14).take 2) = n) (hk : l.length = n) (hg : ¬ GoodL l) : NoP id b := by
  intro l0 lsn hg0 hl e
  subst e
  exact hg (by rw [rd_all h hg0 h2 hk]; exact hg0)
theorem nop_bytes {id n lsn : Nat} {b : List UInt8} {l : List Cl} (h : Rd b l) (h2 : leV ((b.drop 14).take 2) = n) (hk : l.length = n) (h4 : leV ((b.drop 4).take 8) = lsn) (hne : pageB id lsn l ≠ b) : NoP id b := by
  intro l0 lsn0 hg0 hl e
  subst e
  rw [lsn_page id lsn0 l0 hl] at h4
  exact hne (by rw [rd_all h hg0 h2 hk, h4])
theorem trim_of_last {l : List Cl} (h : ∀ hl : 0 < l.length, (l[l.length - 1]'(by omega)).used = true) : trimL l = l := by
  rcases List.eq_nil_or_concat l with rfl | ⟨m, c, rfl⟩
  · rfl
  · rw [List.concat_eq_append] at h ⊢
    refine trimL_snoc_used m c ?_
    have := h (by simp)
    simpa using this
theorem last_of_trim {l : List Cl} (hl : 0 < l.length) (h : trimL l = l) : (l[l.length - 1]'(by omega)).used = true := by
  rcases List.eq_nil_or_concat l with rfl | ⟨m, c, rfl⟩
  · simp at hl
  · simp only [List.concat_eq_append] at h ⊢
    cases hc : c.used with
    | true => simp [hc]
    | false =>
      rw [trimL_snoc_free m c hc] at h
      have := (trimL_free m).2
      have := congrArg List.length h
      simp at this
      omega
theorem lsn_step (b : List UInt8) (j : Nat) (hj : j < b.length) (h11 : j ≤ 11) : leV ((b.drop j).take (12 - j)) = (b[j]'hj).toNat + 256 * leV ((b.drop (j + 1)).take (11 - j)) := by
  rw [List.drop_eq_getElem_cons hj, show 12 - j = (11 - j) + 1 by omega, List.take_succ_cons]
  rfl

/-- The page that Parse fills, its slots in a row of its own. -/
structure Mz (w5 : World) (id lsn : Nat) (a : Option Addr) (c : Nat) (l : List Cl) (W : World) : Prop where
  page : W.heap[w5.heap.size]? = some (.cells #[.int .i64 (id : Int), .int .u64 (lsn : Int), .slice a l.length c] 33)
  row : W.ownsRow (w5.heap.size + 1) 65 3 (.slice a l.length c) l.length (cellsV l)
  below : Below w5.heap.size w5 W
theorem Mz.on {w5 W W' : World} {id lsn : Nat} {a : Option Addr} {c : Nat} {l : List Cl} (h : Mz w5 id lsn a c l W) (hb : Below W.heap.size W W') : Mz w5 id lsn a c l W' :=
  ⟨by rw [hb.block _ (lt_of_blk h.page)]; exact h.page, own_on h.row hb, h.below.trans (hb.mono h.below.size)⟩
theorem Mz.app {w5 W w3 : World} {id lsn : Nat} {a a5 : Option Addr} {c c5 : Nat} {l : List Cl} {d : Cl} (h : Mz w5 id lsn a c l W) (o : Obj) (hg : (W.alloc o).grownBy w3 (Value.slice a l.length c).ownBlock) (hown : w3.ownsRow (w5.heap.size + 1) 65 3 (.slice a5 (l.length + 1) c5) (l.length + 1) (cellsV l ++ [.bool d.used, .string (txt d.key), .string (txt d.val)])) :
    Mz w5 id lsn a5 c5 (l ++ [d]) (w3.setCell ⟨w5.heap.size, 2, none⟩ (.slice a5 (l.length + 1) c5)) := by
  have hlt := lt_of_blk h.page
  have hb : Below (w5.heap.size + 1) W w3 := ((Below.refl _ _).alloc (by omega) o).grown hg (by simp; omega) (fun j hj => (h.row.lt j hj).1)
  have hp : w3.heap[w5.heap.size]? = some (.cells #[.int .i64 (id : Int), .int .u64 (lsn : Int), .slice a l.length c] 33) := by rw [hb.block _ (by omega)]; exact h.page
  have hs := heap_setCell_same w3 w5.heap.size 2 _ 33 (.slice a5 (l.length + 1) c5) hp
  have hne : (Value.slice a5 (l.length + 1) c5).ownBlock ≠ some w5.heap.size := fun e => by have := (hown.lt _ e).1; omega
  refine ⟨?_, ?_, (h.below.trans (hb.mono (by omega))).setCell (Nat.le_refl _) _⟩
  · rw [hs]; simp
  · have := ownsRow_setCell_other hown (a := ⟨w5.heap.size, 2, none⟩) hne (.slice a5 (l.length + 1) c5)
    rw [List.length_append, List.length_singleton, cellsV_append]
    simpa [cellsV] using this
theorem three_cells' (w : World) (A : Obj) (a b c : Value) (t : TypeId) : ∀ j u, [a, b, c][j]? = some u → ((w.alloc A).alloc (.cells #[a, b, c] t)).cell? ((⟨w.heap.size + 1, 0, none⟩ : Addr).add j) = some u := by
  have := three_cells (w.alloc A) a b c t
  simpa using this

set_option maxRecDepth 20000 in
set_option maxHeartbeats 4000000 in
theorem ref_form (id : Nat) (b : List UInt8) (w : World) (hb : b.length = 512) (hid : id < 16) (hno : b.all (· == 0) = false) (hsum : b.take 4 = leB (more 0 (b.drop 4)) 4) :
    Calls Try.prog 19 #[.int .i64 (id : Int), .string (txt b)] w fun e w' => Ret19 id b w w' e := by
  have hsz := txt_size b
  rw [hb] at hsz
  have hk := fun W => refid_any (id : Int) W
  rw [show (decide (0 ≤ (id : Int)) && decide ((id : Int) < 16)) = true by simp; omega] at hk
  have HK : Hid (∀ W, Calls Try.prog 10 #[.int .i64 (id : Int)] W fun e w' => e = .returned (.bool true) ∧ w' = W) := hk
  have HB : Hid (b.length = 512) := hb
  have HNO : Hid (b.all (· == 0) = false) := hno
  obtain ⟨sm, hm⟩ : ∃ sm, more 0 (b.drop 4) = sm := ⟨_, rfl⟩
  have HMo : Hid (more 0 (b.drop 4) = sm) := hm
  have HCmp : Hid (((txt (leB sm 4)).toList == (txt (b.take 4)).toList) = true) := by show _ = _; rw [txt_toList, txt_toList, hsum, hm]; simp
  clear hm hsum
  clear hk hb hno
  go_enter Try.func19, Try.ntmps19
  go_wp2_with fail
  refine Calls.mono (HK.out _) ?_
  rintro e w1 ⟨rfl, hw⟩
  obtain rfl := hw.symm
  go_wp2_with fail
  go_loop [6, 7] (fun e i => ∃ k : Nat, k ≤ 512 ∧ i = .int .i64 k ∧ e = .bool ((b.take k).all (· == 0))) (fun _ i => 512 - (intOf i).toNat)
  case atStart => exact ⟨0, Nat.zero_le _, rfl, rfl⟩
  case round =>
    obtain ⟨k, hk, rfl, rfl⟩ := hrel
    by_cases hlt : k < 512
    · have hlt' : (k : Int) < 512 := by omega
      have hkb : k < b.length := by rw [HB.out]; exact hlt
      obtain ⟨q, hq⟩ : ∃ q : Nat, (b[k]'hkb).toNat = q := ⟨_, rfl⟩
      have hxg : ∀ h, ((txt b)[k]'h).toNat = q := fun _ => hq
      have HT : Hid ((b.take (k + 1)).all (· == 0) = ((b.take k).all (· == 0) && (b[k]'hkb == 0))) := by
        show _ = _
        rw [List.take_succ_eq_append_getElem hkb, List.all_append]
        simp
      by_cases hz : q = 0
      · subst hz
        have hbz : (b[k]'hkb == 0) = true := by
          have := congrArg UInt8.ofNat hq
          simpa using this
        have HT2 : Hid ((b.take (k + 1)).all (· == 0) = (b.take k).all (· == 0)) := by rw [hbz, Bool.and_true] at HT; exact HT
        clear HT hbz hq
        go_wp2_with fail
        go_round
        case rel => exact ⟨k + 1, by omega, by simp, by rw [HT2.out]⟩
        case measure => first | omega | (simp only [intOf]; omega)
      · have hqn : ((q : Int) != 0) = true := by simp; omega
        have hbz : (b[k]'hkb == 0) = false := by
          rw [beq_eq_false_iff_ne]
          intro e
          rw [e] at hq
          exact hz (by simpa using hq.symm)
        have HT2 : Hid ((b.take (k + 1)).all (· == 0) = false) := by rw [hbz, Bool.and_false] at HT; exact HT
        clear HT hbz hq
        go_wp2_with fail
        go_round
        case rel => exact ⟨k + 1, by omega, by simp, by rw [HT2.out]⟩
        case measure => first | omega | (simp only [intOf]; omega)
    · obtain rfl : k = 512 := by omega
      have hall : (b.take 512).all (· == 0) = false := by rw [List.take_of_length_le (by rw [HB.out]; decide)]; exact HNO.out
      rw [hall]
      clear hk hlt
      have HM : Hid (∀ W, Calls Try.prog 48 #[.string (txt (b.drop 4))] W fun e w' => e = .returned (.int .u32 (sm : Int)) ∧ w' = W) := fun W => by
        have := refsum_any (txt (b.drop 4)) W (by rw [txt_size, List.length_drop, HB.out]; unfold maxLen; omega)
        have e : (txt (b.drop 4)).data.toList = b.drop 4 := by simp [txt]
        rw [e, HMo.out] at this
        exact this
      have HF : Hid (∀ W, Calls Try.prog 47 #[.int .u32 (sm : Int)] W fun e w' => e = .returned (.string (txt (leB sm 4))) ∧ Below W.heap.size W w') := fun W => four_any sm W (by rw [← HMo.out]; exact more_lt _ _)
      have x1 : (txt b).extract 4 512 = txt (b.drop 4) := by rw [txt_extract, List.take_of_length_le (by rw [List.length_drop, HB.out]; decide)]
      have x2 : (txt b).extract 0 4 = txt (b.take 4) := by rw [txt_extract]; rfl
      have hneq : ((txt (leB sm 4)).toList == (txt (b.take 4)).toList) = true := HCmp.out
      obtain ⟨W1, hW1⟩ : ∃ W1, W1 = w.alloc (.cells #[.int .i64 0, .int .u64 0, .slice none 0 0] 33) := ⟨_, rfl⟩
      have HW1 : Hid (W1 = w.alloc (.cells #[.int .i64 0, .int .u64 0, .slice none 0 0] 33)) := hW1
      have hz1 : W1.heap.size = w.heap.size + 1 := by rw [hW1]; simp
      have HZ1 : Hid (W1.heap.size = w.heap.size + 1) := hz1
      have HBW : Hid (Below w.heap.size w W1) := by show Below _ _ _; rw [hW1]; exact (Below.refl _ _).alloc (Nat.le_refl _) _
      have HC0 : Hid (W1.heap[w.heap.size]? = some (.cells #[.int .i64 0, .int .u64 0, .slice none 0 0] 33)) := by show _ = _; rw [hW1]; exact heap_alloc_new w _
      have HSS : Hid (Below W1.heap.size W1 W1.drew) := (Below.refl _ _).drew
      go_wp2_with fail
      simp only [← hW1]
      clear hW1 hz1
      refine wp_region_held_drew (S := (fun W => Below W1.heap.size W1 W)) (by kernel_rfl) HSS.out (fun hHeld => ?_)
      refine wpAnyH_take (i := 0) (v := ?_) rfl (by kernel_rfl) (by kernel_rfl) (by kernel_rfl) (fun _ _ _ h => h) (Or.inl ⟨by rfl, ?_⟩) (by assumption) ?_
      rotate_left
      · (intro W hSw; (try dsimp only at hSw); go_simp; try with_reducible rfl)
      try simp only [Act.put, List.getElem_toArray, List.getElem_cons_zero, List.setIfInBounds_toArray, List.set_cons_zero, List.set_cons_succ]
      refine wpAnyH_take (i := 1) (v := ?_) rfl (by kernel_rfl) (by kernel_rfl) (by kernel_rfl) (fun _ _ _ h => h) (Or.inl ⟨by rfl, ?_⟩) (by assumption) ?_
      rotate_left
      · (intro W hSw; (try dsimp only at hSw); go_simp; try with_reducible rfl)
      try simp only [Act.put, List.getElem_toArray, List.getElem_cons_zero, List.getElem_cons_succ, List.setIfInBounds_toArray, List.set_cons_zero, List.set_cons_succ]
      refine wpAnyH_take (i := 4) (v := ?_) rfl (by kernel_rfl) (by kernel_rfl) (by kernel_rfl) (fun _ _ _ h => h) (Or.inl ⟨by rfl, ?_⟩) (by assumption) ?_
      rotate_left
      · (intro W hSw; (try dsimp only at hSw); go_simp; try with_reducible rfl)
      try simp only [Act.put, List.getElem_toArray, List.getElem_cons_zero, List.getElem_cons_succ, List.setIfInBounds_toArray, List.set_cons_zero, List.set_cons_succ]
      refine wpAnyH_take (i := 5) (v := ?_) rfl (by kernel_rfl) (by kernel_rfl) (by kernel_rfl) (fun _ _ _ h => h) (Or.inl ⟨by rfl, ?_⟩) (by assumption) ?_
      rotate_left
      · (intro W hSw; (try dsimp only at hSw); go_simp; try with_reducible rfl)
      try simp only [Act.put, List.getElem_toArray, List.getElem_cons_zero, List.getElem_cons_succ, List.setIfInBounds_toArray, List.set_cons_zero, List.set_cons_succ]
      refine wpAnyH_ready (rs := [2]) (by kernel_rfl) (by simp) ?_
      refine AllReadyH.cons rfl (fun K hK => ?_) AllReadyH.nil
      go_simp
      refine Calls.mono (HM.out _) ?_
      rintro e wn ⟨rfl, hw⟩
      obtain rfl := hw.symm
      try go_wp2_with fail
      refine hK.out _ _ (hHeld) (fun hHeld => ?_)
      clear hK K
      try simp only [Act.put, List.getElem_toArray, List.getElem_cons_zero, List.getElem_cons_succ, List.setIfInBounds_toArray, List.set_cons_zero, List.set_cons_succ]
      refine wpAnyH_ready (rs := [3]) (by kernel_rfl) (by simp) ?_
      refine AllReadyH.cons rfl (fun K hK => ?_) AllReadyH.nil
      go_simp
      refine Calls.mono (HF.out _) ?_
      rintro e w5 ⟨rfl, hb5⟩
      have HB5 : Hid (Below W1.heap.size W1 w5) := hHeld.trans (hb5.mono hHeld.size)
      clear hb5 hHeld
      try go_wp2_with fail
      refine hK.out _ _ (HB5.out) (fun hHeld => ?_)
      clear hK K
      try simp only [Act.put, List.getElem_toArray, List.getElem_cons_zero, List.getElem_cons_succ, List.setIfInBounds_toArray, List.set_cons_zero, List.set_cons_succ]
      refine wpAnyH_take (i := 6) (v := ?_) rfl (by kernel_rfl) (by kernel_rfl) (by kernel_rfl) (fun _ _ _ h => h) (Or.inl ⟨by rfl, ?_⟩) (by assumption) ?_
      rotate_left
      · (intro W hSw; (try dsimp only at hSw); go_simp; try with_reducible rfl)
      try simp only [Act.put, List.getElem_toArray, List.getElem_cons_zero, List.getElem_cons_succ, List.setIfInBounds_toArray, List.set_cons_zero, List.set_cons_succ]
      refine wpAnyH_done (by kernel_rfl) ?_ _
      clear hHeld HM HF HSS
      have HC5 : Hid (w5.heap[w.heap.size]? = some (.cells #[.int .i64 0, .int .u64 0, .slice none 0 0] 33)) := by show _ = _; rw [HB5.out.block _ (by rw [HZ1.out]; omega)]; exact HC0.out
      have HW5 : Hid (Below w.heap.size w w5) := HBW.out.trans (HB5.out.mono (by rw [HZ1.out]; omega))
      have hz5 : w.heap.size < w5.heap.size := lt_of_blk HC5.out
      clear HB5 HBW HC0
      obtain ⟨g0, g1, g2, f0, f1, f2, hzz⟩ := cell3 HC5.out
      have HT : Hid (∀ hno : True, True) := fun _ => trivial
      clear hneq x1 x2 HT HCmp HMo
      go_wp2_with fail
      go_loopw [9] (fun i wr => ∃ j : Nat, 3 ≤ j ∧ j ≤ 11 ∧ i = .int .i64 (j : Int) ∧ wr.heap[w5.heap.size]? = some (.cells #[.int .i64 (id : Int), .int .u64 ((leV ((b.drop (j + 1)).take (11 - j)) : Nat) : Int), .slice none 0 0] 33) ∧ Below w5.heap.size w5 wr) (fun i _ => (intOf i - 3).toNat)
      case atStart => exact ⟨11, by omega, by omega, rfl, by rw [show leV ((b.drop (11 + 1)).take (11 - 11)) = 0 from rfl]; exact heap_alloc_new w5 _, (Below.refl _ _).alloc (Nat.le_refl _) _⟩
      case round =>
        obtain ⟨j, hj3, hj11, rfl, hcr, hbr⟩ := hrel
        have HBr : Hid (Below w5.heap.size w5 wr) := hbr
        have HCr : Hid (wr.heap[w5.heap.size]? = some (.cells #[.int .i64 (id : Int), .int .u64 ((leV ((b.drop (j + 1)).take (11 - j)) : Nat) : Int), .slice none 0 0] 33)) := hcr
        clear hcr hbr
        by_cases h4 : 4 ≤ j
        · have h4' : (4 : Int) ≤ (j : Int) := by omega
          have hj5 : (j : Int) < 512 := by omega
          have hjb : j < b.length := by rw [HB.out]; omega
          obtain ⟨q, hq⟩ : ∃ q : Nat, (b[j]'hjb).toNat = q := ⟨_, rfl⟩
          have hxg : ∀ h, ((txt b)[j]'h).toNat = q := fun _ => hq
          have hq2 : q < 256 := by rw [← hq]; exact UInt8.toNat_lt _
          have HSt := toHid (lsn_step b j hjb (by omega))
          rw [hq] at HSt
          obtain ⟨L, hL⟩ : ∃ L : Nat, leV ((b.drop (j + 1)).take (11 - j)) = L := ⟨_, rfl⟩
          have hLl : L < 72057594037927936 := by
            have h1 := leV_lt ((b.drop (j + 1)).take (11 - j))
            have h2 : ((b.drop (j + 1)).take (11 - j)).length ≤ 7 := by rw [List.length_take]; omega
            have h3 : 256 ^ ((b.drop (j + 1)).take (11 - j)).length ≤ 256 ^ 7 := Nat.pow_le_pow_right (by decide) h2
            rw [hL] at h1
            exact Nat.lt_of_lt_of_le h1 h3
          rw [hL] at HSt HCr
          obtain ⟨p0, p1, p2, e0, e1, e2, hzp⟩ := cell3 HCr.out
          have u1 : IntKind.u64.wrap (256 * (L : Int)) = 256 * (L : Int) := by simp [IntKind.wrap, IntKind.bits, IntKind.signed]; omega
          have u2 : IntKind.u64.wrap (256 * (L : Int) + (q : Int)) = 256 * (L : Int) + (q : Int) := by simp [IntKind.wrap, IntKind.bits, IntKind.signed]; omega
          have u3 : IntKind.u64.wrap (q : Int) = (q : Int) := by simp [IntKind.wrap, IntKind.bits, IntKind.signed]; omega
          have HNew : Hid (∀ m, ((wr.drewN m).setCell ⟨w5.heap.size, 1, none⟩ (.int .u64 (256 * (L : Int) + (q : Int)))).heap[w5.heap.size]? = some (.cells #[.int .i64 (id : Int), .int .u64 ((leV ((b.drop (j - 1 + 1)).take (11 - (j - 1))) : Nat) : Int), .slice none 0 0] 33)) := fun m => by
            have h1 := heap_setCell_same (wr.drewN m) w5.heap.size 1 _ 33 (.int .u64 (256 * (L : Int) + (q : Int))) HCr.out
            rw [show j - 1 + 1 = j by omega, show 11 - (j - 1) = 12 - j by omega, HSt.out]
            rw [h1]
            simp
            omega
          have HNew0 : Hid (∀ m, Below w5.heap.size w5 ((wr.drewN m).setCell ⟨w5.heap.size, 1, none⟩ (.int .u64 (256 * (L : Int) + (q : Int))))) := fun m => ((below_drewN' HBr.out m)).setCell (Nat.le_refl _) _
          clear hq hL
          go_wp2_with fail
          go_region
          all_goals
            go_wp2_with fail
            go_roundw
            case rel => exact ⟨j - 1, by omega, by omega, by congr 1; omega, HNew.out 1, HNew0.out 1⟩
            case measure => first | omega | (simp only [intOf]; omega)
        · obtain rfl : j = 3 := by omega
          obtain ⟨lsn, hlsn⟩ : ∃ lsn, leV ((b.drop 4).take 8) = lsn := ⟨_, rfl⟩
          have HLs : Hid (leV ((b.drop 4).take 8) = lsn) := hlsn
          have hlsn2 : lsn < 18446744073709551616 := by
            have := leV_lt ((b.drop 4).take 8)
            rw [hlsn, List.length_take, List.length_drop, HB.out] at this
            simpa using this
          have HCq : Hid (wr.heap[w5.heap.size]? = some (.cells #[.int .i64 (id : Int), .int .u64 (lsn : Int), .slice none 0 0] 33)) := by
            have := HCr.out
            rw [show leV ((b.drop (3 + 1)).take (11 - 3)) = lsn from hlsn] at this
            exact this
          obtain ⟨n, hn⟩ : ∃ n, leV ((b.drop 14).take 2) = n := ⟨_, rfl⟩
          obtain ⟨id0, hid0⟩ : ∃ id0, leV ((b.drop 12).take 2) = id0 := ⟨_, rfl⟩
          have HNn : Hid (leV ((b.drop 14).take 2) = n) := hn
          have HId : Hid (leV ((b.drop 12).take 2) = id0) := hid0
          have H49a : Hid (∀ W, Calls Try.prog 49 #[.string (txt b), .int .i64 14, .int .i64 2] W fun e w' => e = .returned (.int .i64 (n : Int)) ∧ w' = W) := fun W => num2_txt b 14 n W (by rw [HB.out]; decide) (by rw [HB.out]; decide) hn
          have H49b : Hid (∀ W, Calls Try.prog 49 #[.string (txt b), .int .i64 12, .int .i64 2] W fun e w' => e = .returned (.int .i64 (id0 : Int)) ∧ w' = W) := fun W => num2_txt b 12 id0 W (by rw [HB.out]; decide) (by rw [HB.out]; decide) hid0
          have HRes : Hid (∀ W, Below w5.heap.size w5 W → W.heap[w.heap.size]? = some (.cells #[.int .i64 0, .int .u64 0, .slice none 0 0] 33) ∧ Below w.heap.size w W) := fun W hW => ⟨by rw [hW.block _ hz5]; exact HC5.out, HW5.out.trans (hW.mono (by omega))⟩
          clear hn hid0 hlsn HCr
          clear hj3 hj11 h4 g0 g1 g2 f0 f1 f2 hzz
          generalize wr = wq at *
          obtain ⟨g0, g1, g2, f0, f1, f2, hzz⟩ := cell3 (HRes.out _ HBr.out).1
          go_wp2_with fail
          refine Calls.mono (H49a.out _) ?_
          rintro e w1 ⟨rfl, hw⟩
          obtain rfl := hw.symm
          go_wp2_with fail
          refine Calls.mono (H49b.out _) ?_
          rintro e w1 ⟨rfl, hw⟩
          obtain rfl := hw.symm
          clear H49a H49b
          by_cases hie : id0 = id
          · have hne1 : ((id0 : Int) != (id : Int)) = false := by simp [hie]
            by_cases hn64 : 64 < n
            · have hn64' : (64 : Int) < (n : Int) := by omega
              have hsE := stored33 (.int .i64 0) (.int .u64 0) (.slice none 0 0) (HRes.out _ HBr.out).1
              have hbE := below3 (.int .i64 0) (.int .u64 0) (.slice none 0 0) (HRes.out _ HBr.out).2
              go_wp2
              generalize (((World.setCell wq ⟨w.heap.size, 0, none⟩ (.int .i64 0)).setCell ⟨w.heap.size, 1, none⟩ (.int .u64 0)).setCell ⟨w.heap.size, 2, none⟩ (.slice none 0 0)) = WE at *
              obtain ⟨r0, r1, r2, _⟩ := cell3 hsE
              refine bodyPost_ret (v := .tuple #[.agg (refP 0 0 none 0 0), .int .i64 5]) ?_ rfl (ret19_no hbE (nop_head hid HId.out HNn.out (.inr hn64)))
              simp [results, Try.results19, go_sem, refP, r0, r1, r2]
            · have hn64' : ¬ (64 : Int) < (n : Int) := by omega
              obtain ⟨i0, hii, hy0, hy1, hy2⟩ := info_parts Try.info65
              have HM0 : Hid (Mz w5 id lsn none 0 [] wq) := ⟨HCq.out, by simpa [cellsV] using World.ownsRow_nil wq _ _ _, HBr.out⟩
              clear HId HCq g0 g1 g2 f0 f1 f2 hzz
              go_wp2_with fail
              go_loopw [11] (fun i wz => ∃ l a c, l.length ≤ n ∧ i = .int .i64 (l.length : Int) ∧ Rd b l ∧ Mz w5 id lsn a c l wz) (fun i _ => n - (intOf i).toNat)
              case atStart => exact ⟨[], none, 0, Nat.zero_le _, rfl, Rd.start b, HM0.out⟩
              case round =>
                obtain ⟨l, a, c, hln, rfl, hrd, hm⟩ := hrel
                have HRd : Hid (Rd b l) := hrd
                have HMz : Hid (Mz w5 id lsn a c l wr) := hm
                clear hrd hm HM0 HBr
                by_cases hlt : l.length < n
                · have hlt' : (l.length : Int) < (n : Int) := by omega
                  have H50 : Hid (Calls Try.prog 50 #[.string (txt b), .int .i64 (16 + 4 * (l.length : Int))] wr fun e w' => Ret50 b (16 + 4 * l.length) wr w' e) := by
                    have := refslot_any b (16 + 4 * l.length) wr HB.out (by omega)
                    push_cast at this
                    exact this
                  obtain ⟨⟨d, ok⟩, hs⟩ : ∃ x, refSlot b (16 + 4 * l.length) = x := ⟨_, rfl⟩
                  have HSl : Hid (refSlot b (16 + 4 * l.length) = (d, ok)) := hs
                  clear hs
                  go_wp2_with fail
                  refine Calls.mono H50.out ?_
                  rintro e w2 ⟨rfl, hb2⟩
                  rw [HSl.out]
                  dsimp only [cellV]
                  have HM2 : Hid (Mz w5 id lsn a c l w2) := HMz.out.on hb2
                  clear hb2 HMz H50
                  obtain ⟨g0, g1, g2, f0, f1, f2, hzz⟩ := cell3 (HRes.out _ HM2.out.below).1
                  obtain ⟨p0, p1, p2, e0, e1, e2, hzp⟩ := cell3 HM2.out.page
                  have hp2 : w5.heap.size < w2.heap.size := lt_of_blk HM2.out.page
                  have hd1 : ¬ w.heap.size = w2.heap.size := by omega
                  have hd2 : ¬ w5.heap.size = w2.heap.size := by omega
                  have hd3 : ¬ w5.heap.size = w.heap.size := by omega
                  have HM3 : Hid (Mz w5 id lsn a c l (w2.alloc (.cells #[.bool d.used, .string (txt d.key), .string (txt d.val)] 65))) := HM2.out.on ((Below.refl _ _).alloc (Nat.le_refl _) _)
                  cases ok with
                  | false =>
                    have hsE : ((((w2.setCell ⟨w.heap.size, 0, none⟩ (.int .i64 0)).setCell ⟨w.heap.size, 1, none⟩ (.int .u64 0)).setCell ⟨w.heap.size, 2, none⟩ (.slice none 0 0)).alloc (.cells #[.bool d.used, .string (txt d.key), .string (txt d.val)] 65)).heap[w.heap.size]? = some (.cells #[.int .i64 0, .int .u64 0, .slice none 0 0] 33) := by
                      rw [Below.heap_alloc _ _ _ (by simp; omega)]
                      exact stored33 (.int .i64 0) (.int .u64 0) (.slice none 0 0) (HRes.out _ HM2.out.below).1
                    have hbE := (below3 (.int .i64 0) (.int .u64 0) (.slice none 0 0) (HRes.out _ HM2.out.below).2).alloc (by simp; omega) (.cells #[.bool d.used, .string (txt d.key), .string (txt d.val)] 65)
                    go_wp2
                    generalize ((((World.setCell w2 ⟨w.heap.size, 0, none⟩ (.int .i64 0)).setCell ⟨w.heap.size, 1, none⟩ (.int .u64 0)).setCell ⟨w.heap.size, 2, none⟩ (.slice none 0 0)).alloc (.cells #[.bool d.used, .string (txt d.key), .string (txt d.val)] 65)) = WE at *
                    obtain ⟨r0, r1, r2, _⟩ := cell3 hsE
                    refine bodyPost_ret (v := .tuple #[.agg (refP 0 0 none 0 0), .int .i64 5]) ?_ rfl (ret19_no hbE (nop_slot HNn.out hlt HSl.out))
                    simp [results, Try.results19, go_sem, refP, r0, r1, r2]
                  | true =>
                    cases hu : d.used with
                    | false =>
                      rw [hu] at HM3
                      go_wp2_with (at_builtin; refine wpList_append_own _ rfl _ _ 31 rfl (w5.heap.size + 1) 65 i0 _ 3 40 Try.underlying31 hii hy0 hy1 hy2 rfl (by decide) _ l.length _ rfl (HM3.out.row.alloc _) ⟨w2.heap.size + 1, 0, none⟩ 1 1 [.bool false, .string (txt d.key), .string (txt d.val)] rfl rfl (three_cells' _ _ _ _ _ _) (by intro u hu; simp at hu; rcases hu with rfl | rfl | rfl <;> rfl) (by unfold maxLen; omega) (by omega) (by simp; omega) ?_; intro v' w3 hown hgrow _; obtain ⟨a5, c5, rfl⟩ := ownsRow_shape hown; have HM4 : Hid (Mz w5 id lsn a5 c5 (l ++ [d]) (w3.setCell ⟨w5.heap.size, 2, none⟩ (.slice a5 (l.length + 1) c5))) := HM3.out.app _ hgrow (by rw [hu]; exact hown); have HB3 : Hid (Below (w5.heap.size + 1) (w2.alloc (.cells #[.bool false, .string (txt d.key), .string (txt d.val)] 65)) w3) := ((Below.refl _ _).alloc (by simp; omega) _).grown hgrow (by simp; omega) (fun j hj => (HM3.out.row.lt j hj).1); have k3 : w3.heap[w5.heap.size]? = some (.cells #[.int .i64 (id : Int), .int .u64 (lsn : Int), .slice a l.length c] 33) := (by rw [HB3.out.block _ (by omega)]; exact HM3.out.page); obtain ⟨s0, s1, s2, t0, t1, t2, hzs⟩ := cell3 k3; clear hown hgrow k3 HB3)
                      go_roundw
                      case rel => exact ⟨l ++ [d], a5, c5, by simp; omega, by simp, HRd.out.snoc HSl.out (fun h => by rw [hu] at h; cases h), HM4.out⟩
                      case measure => first | omega | (simp only [intOf]; omega)
                    | true =>
                      rw [hu] at HM3
                      have H37 : Hid (∀ W, SlC W a l → Calls Try.prog 37 #[.agg #[.int .i64 (id : Int), .int .u64 (lsn : Int), .slice a l.length c], .string (txt d.key)] W fun e w' => e = .returned (.int .i64 (ixI (l.findIdx? (isKey d.key)))) ∧ Below W.heap.size W w') := fun W h => reffind_any (id : Int) lsn a c l d.key W h (by omega)
                      have HSc : Hid _ := (slC_of_own HM3.out.row).1
                      go_wp2_with fail
                      refine Calls.mono (H37.out _ HSc.out) ?_
                      rintro e w6 ⟨rfl, hb6⟩
                      have HM6 : Hid (Mz w5 id lsn a c l w6) := HM3.out.on hb6
                      have kA : w6.heap[w2.heap.size]? = some (.cells #[.bool true, .string (txt d.key), .string (txt d.val)] 65) := by rw [hb6.block _ (by simp)]; exact heap_alloc_new w2 _
                      clear HM3 H37 HSc hb6 g0 g1 g2 f0 f1 f2 hzz p0 p1 p2 e0 e1 e2 hzp
                      have HM3 : Hid (Mz w5 id lsn a c l w6) := HM6
                      have h26 : w2.heap.size < w6.heap.size := lt_of_blk kA
                      obtain ⟨g0, g1, g2, f0, f1, f2, hzz⟩ := cell3 (HRes.out _ HM3.out.below).1
                      obtain ⟨p0, p1, p2, e0, e1, e2, hzp⟩ := cell3 HM3.out.page
                      obtain ⟨q0, q1, q2, v0, v1, v2, hzq⟩ := cell3 kA
                      clear kA
                      cases hf : l.findIdx? (isKey d.key) with
                      | some i =>
                        simp only [ixI]
                        have hi0 : (0 : Int) ≤ (i : Int) := by omega
                        have hsE := stored33 (.int .i64 0) (.int .u64 0) (.slice none 0 0) (HRes.out _ HM3.out.below).1
                        have hbE := below3 (.int .i64 0) (.int .u64 0) (.slice none 0 0) (HRes.out _ HM3.out.below).2
                        go_wp2
                        generalize (((World.setCell w6 ⟨w.heap.size, 0, none⟩ (.int .i64 0)).setCell ⟨w.heap.size, 1, none⟩ (.int .u64 0)).setCell ⟨w.heap.size, 2, none⟩ (.slice none 0 0)) = WE at *
                        obtain ⟨r0, r1, r2, _⟩ := cell3 hsE
                        refine bodyPost_ret (v := .tuple #[.agg (refP 0 0 none 0 0), .int .i64 5]) ?_ rfl (ret19_no hbE (nop_twice HRd.out HNn.out hlt HSl.out hu hf))
                        simp [results, Try.results19, go_sem, refP, r0, r1, r2]
                      | none =>
                        simp only [ixI]
                        go_wp2_with (at_builtin; refine wpList_append_own _ rfl _ _ 31 rfl (w5.heap.size + 1) 65 i0 _ 3 40 Try.underlying31 hii hy0 hy1 hy2 rfl (by decide) _ l.length _ rfl (HM3.out.row.alloc _) ⟨w6.heap.size, 0, none⟩ 1 1 [.bool true, .string (txt d.key), .string (txt d.val)] rfl rfl (three_cells _ _ _ _ _) (by intro u hu; simp at hu; rcases hu with rfl | rfl | rfl <;> rfl) (by unfold maxLen; omega) (by omega) (by first | omega | (simp; omega)) ?_; intro v' w3 hown hgrow _; obtain ⟨a5, c5, rfl⟩ := ownsRow_shape hown; have HM4 : Hid (Mz w5 id lsn a5 c5 (l ++ [d]) (w3.setCell ⟨w5.heap.size, 2, none⟩ (.slice a5 (l.length + 1) c5))) := HM3.out.app _ hgrow (by rw [hu]; exact hown); have HB3 : Hid (Below (w5.heap.size + 1) w6 w3) := ((Below.refl _ _).alloc (by first | omega | (simp; omega)) _).grown hgrow (by first | omega | (simp; omega)) (fun j hj => (HM3.out.row.lt j hj).1); have k3 : w3.heap[w5.heap.size]? = some (.cells #[.int .i64 (id : Int), .int .u64 (lsn : Int), .slice a l.length c] 33) := (by rw [HB3.out.block _ (by omega)]; exact HM3.out.page); obtain ⟨s0, s1, s2, t0, t1, t2, hzs⟩ := cell3 k3; clear hown hgrow k3 HB3)
                        go_roundw
                        case rel => exact ⟨l ++ [d], a5, c5, by simp; omega, by simp, HRd.out.snoc HSl.out (fun _ => hf), HM4.out⟩
                        case measure => first | omega | (simp only [intOf]; omega)
                · obtain rfl : n = l.length := by omega
                  have HSc : Hid (SlC wr a l) := (slC_of_own HMz.out.row).1
                  have hcap : l.length ≤ c := (slC_of_own HMz.out.row).2.2.1
                  have H32 : Hid (∀ W, SlC W a l → Calls Try.prog 32 #[.agg #[.int .i64 (id : Int), .int .u64 (lsn : Int), .slice a l.length c]] W fun e w' => e = .returned (.int .i64 (freeL l)) ∧ Below W.heap.size W w') := fun W h => reffree_any (id : Int) lsn a c l W h (fun x hx => by
                    have := HRd.out.cells x hx
                    unfold goodC at this
                    split at this
                    · omega
                    · rw [this.1, this.2]; simp) (by omega)
                  obtain ⟨g0, g1, g2, f0, f1, f2, hzz⟩ := cell3 (HRes.out _ HMz.out.below).1
                  obtain ⟨p0, p1, p2, e0, e1, e2, hzp⟩ := cell3 HMz.out.page
                  have hlt' : ¬ (l.length : Int) < (l.length : Int) := by omega
                  by_cases h0 : l.length = 0
                  · obtain rfl : l = [] := List.eq_nil_of_length_eq_zero h0
                    clear h0 hlt'
                    have HTr : Hid (trimL [] = []) := rfl
                    go_wp2_with fail
                    refine Calls.mono (H32.out _ HSc.out) ?_
                    rintro e w6 ⟨rfl, hb6⟩
                    have HM6 : Hid (Mz w5 id lsn a c ([] : List Cl) w6) := HMz.out.on hb6
                    clear hb6 HSc H32 g0 g1 g2 f0 f1 f2 hzz p0 p1 p2 e0 e1 e2 hzp
                    obtain ⟨g0, g1, g2, f0, f1, f2, hzz⟩ := cell3 (HRes.out _ HM6.out.below).1
                    obtain ⟨p0, p1, p2, e0, e1, e2, hzp⟩ := cell3 HM6.out.page
                    by_cases hfr : freeL ([] : List Cl) < 0
                    · have hsE := stored33 (.int .i64 0) (.int .u64 0) (.slice none 0 0) (HRes.out _ HM6.out.below).1
                      have hbE := below3 (.int .i64 0) (.int .u64 0) (.slice none 0 0) (HRes.out _ HM6.out.below).2
                      go_wp2
                      generalize (((World.setCell w6 ⟨w.heap.size, 0, none⟩ (.int .i64 0)).setCell ⟨w.heap.size, 1, none⟩ (.int .u64 0)).setCell ⟨w.heap.size, 2, none⟩ (.slice none 0 0)) = WE at *
                      obtain ⟨r0, r1, r2, _⟩ := cell3 hsE
                      refine bodyPost_ret (v := .tuple #[.agg (refP 0 0 none 0 0), .int .i64 5]) ?_ rfl (ret19_no hbE (nop_end HRd.out HNn.out rfl (fun hg => by have := hg.room; omega)))
                      simp [results, Try.results19, go_sem, refP, r0, r1, r2]
                    · have HG : Hid (GoodL ([] : List Cl)) := ⟨HRd.out.cells, by omega, by omega, HTr.out, HRd.out.once⟩
                      have H33 : Hid (∀ W, SlC W a ([] : List Cl) → Calls Try.prog 33 #[.agg #[.int .i64 (id : Int), .int .u64 (lsn : Int), .slice a 0 c]] W fun e w' => e = .returned (.string (txt (pageB id lsn ([] : List Cl)))) ∧ Below W.heap.size W w') := fun W h => refbytes_any id lsn a c ([] : List Cl) W h HG.out hid hlsn2
                      have HSc6 : Hid (SlC w6 a ([] : List Cl)) := (slC_of_own HM6.out.row).1
                      go_wp2_with fail
                      refine Calls.mono (H33.out _ HSc6.out) ?_
                      rintro e w7 ⟨rfl, hb7⟩
                      have HM7 : Hid (Mz w5 id lsn a c ([] : List Cl) w7) := HM6.out.on hb7
                      clear hb7 HSc6 H33 g0 g1 g2 f0 f1 f2 hzz p0 p1 p2 e0 e1 e2 hzp
                      obtain ⟨g0, g1, g2, f0, f1, f2, hzz⟩ := cell3 (HRes.out _ HM7.out.below).1
                      obtain ⟨p0, p1, p2, e0, e1, e2, hzp⟩ := cell3 HM7.out.page
                      by_cases he : pageB id lsn ([] : List Cl) = b
                      · have hq : ((txt (pageB id lsn ([] : List Cl))).toList == (txt b).toList) = true := by rw [txt_toList, txt_toList, he]; simp
                        have HE : Hid (pageB id lsn ([] : List Cl) = b) := he
                        clear he
                        have hsE := stored33 (.int .i64 (id : Int)) (.int .u64 (lsn : Int)) (.slice a 0 c) (HRes.out _ HM7.out.below).1
                        have hbE := below3 (.int .i64 (id : Int)) (.int .u64 (lsn : Int)) (.slice a 0 c) (HRes.out _ HM7.out.below).2
                        have hnb : (Value.slice a 0 c).ownBlock ≠ some w.heap.size := fun e => by have := (HM7.out.row.lt _ e).1; omega
                        have hSE := (slC_of_own (ownsRow_setCell_other (ownsRow_setCell_other (ownsRow_setCell_other HM7.out.row (a := ⟨w.heap.size, 0, none⟩) hnb (.int .i64 (id : Int))) (a := ⟨w.heap.size, 1, none⟩) hnb (.int .u64 (lsn : Int))) (a := ⟨w.heap.size, 2, none⟩) hnb (.slice a 0 c))).1
                        have hAll := toHid (And.intro hsE (And.intro hbE hSE))
                        clear hsE hbE hSE hnb
                        go_wp2
                        obtain ⟨hsE, hbE, hSE⟩ := hAll.out
                        generalize (((World.setCell w7 ⟨w.heap.size, 0, none⟩ (.int .i64 (id : Int))).setCell ⟨w.heap.size, 1, none⟩ (.int .u64 (lsn : Int))).setCell ⟨w.heap.size, 2, none⟩ (.slice a 0 c)) = WE at *
                        obtain ⟨r0, r1, r2, _⟩ := cell3 hsE
                        refine bodyPost_ret (v := .tuple #[.agg (refP (id : Int) lsn a 0 c), .int .i64 0]) ?_ rfl ⟨hbE, .inl ⟨lsn, ([] : List Cl), a, c, HG.out, hlsn2, HE.out.symm, rfl, hSE⟩⟩
                        simp [results, Try.results19, go_sem, refP, r0, r1, r2]
                      · have hq : ((txt (pageB id lsn ([] : List Cl))).toList == (txt b).toList) = false := by rw [txt_toList, txt_toList]; simpa using he
                        have hsE := stored33 (.int .i64 0) (.int .u64 0) (.slice none 0 0) (HRes.out _ HM7.out.below).1
                        have hbE := below3 (.int .i64 0) (.int .u64 0) (.slice none 0 0) (HRes.out _ HM7.out.below).2
                        go_wp2
                        generalize (((World.setCell w7 ⟨w.heap.size, 0, none⟩ (.int .i64 0)).setCell ⟨w.heap.size, 1, none⟩ (.int .u64 0)).setCell ⟨w.heap.size, 2, none⟩ (.slice none 0 0)) = WE at *
                        obtain ⟨r0, r1, r2, _⟩ := cell3 hsE
                        refine bodyPost_ret (v := .tuple #[.agg (refP 0 0 none 0 0), .int .i64 5]) ?_ rfl (ret19_no hbE (nop_bytes HRd.out HNn.out rfl HLs.out he))
                        simp [results, Try.results19, go_sem, refP, r0, r1, r2]
                  · have h0' : (0 : Int) < (l.length : Int) := by omega
                    obtain ⟨m, hm⟩ : ∃ m, l.length = m + 1 := ⟨l.length - 1, by omega⟩
                    have hix : ((l.length : Int) - 1) = (m : Int) := by omega
                    have hml : m < l.length := by omega
                    have HMm : Hid (l.length = m + 1) := hm
                    clear hm
                    have hml' : (m : Int) < (l.length : Int) := by omega
                    obtain ⟨bb, oo, hab, hbl, c0, c1, c2⟩ := HSc.out.at m hml
                    cases hu : l[m].used with
                    | false =>
                      rw [hu] at c0
                      have HNG : Hid (¬ GoodL l) := fun hg => by
                        have := last_of_trim (by omega) hg.last
                        have e : l.length - 1 = m := by have := HMm.out; omega
                        simp only [e] at this
                        rw [hu] at this
                        cases this
                      subst hab
                      have hsE := stored33 (.int .i64 0) (.int .u64 0) (.slice none 0 0) (HRes.out _ HMz.out.below).1
                      have hbE := below3 (.int .i64 0) (.int .u64 0) (.slice none 0 0) (HRes.out _ HMz.out.below).2
                      go_wp2
                      generalize (((World.setCell wr ⟨w.heap.size, 0, none⟩ (.int .i64 0)).setCell ⟨w.heap.size, 1, none⟩ (.int .u64 0)).setCell ⟨w.heap.size, 2, none⟩ (.slice none 0 0)) = WE at *
                      obtain ⟨r0, r1, r2, _⟩ := cell3 hsE
                      refine bodyPost_ret (v := .tuple #[.agg (refP 0 0 none 0 0), .int .i64 5]) ?_ rfl (ret19_no hbE (nop_end HRd.out HNn.out rfl HNG.out))
                      simp [results, Try.results19, go_sem, refP, r0, r1, r2]
                    | true =>
                      rw [hu] at c0
                      have HTr : Hid (trimL l = l) := trim_of_last (fun hl => by
                        have e : l.length - 1 = m := by have := HMm.out; omega
                        simp only [e]
                        exact hu)
                      subst hab
                      go_wp2_with fail
                      clear c0 c1 c2
                      refine Calls.mono (H32.out _ HSc.out) ?_
                      rintro e w6 ⟨rfl, hb6⟩
                      have HM6 : Hid (Mz w5 id lsn (some ⟨bb, oo, none⟩) c l w6) := HMz.out.on hb6
                      clear hb6 HSc H32 g0 g1 g2 f0 f1 f2 hzz p0 p1 p2 e0 e1 e2 hzp
                      obtain ⟨g0, g1, g2, f0, f1, f2, hzz⟩ := cell3 (HRes.out _ HM6.out.below).1
                      obtain ⟨p0, p1, p2, e0, e1, e2, hzp⟩ := cell3 HM6.out.page
                      by_cases hfr : freeL l < 0
                      · have hsE := stored33 (.int .i64 0) (.int .u64 0) (.slice none 0 0) (HRes.out _ HM6.out.below).1
                        have hbE := below3 (.int .i64 0) (.int .u64 0) (.slice none 0 0) (HRes.out _ HM6.out.below).2
                        go_wp2
                        generalize (((World.setCell w6 ⟨w.heap.size, 0, none⟩ (.int .i64 0)).setCell ⟨w.heap.size, 1, none⟩ (.int .u64 0)).setCell ⟨w.heap.size, 2, none⟩ (.slice none 0 0)) = WE at *
                        obtain ⟨r0, r1, r2, _⟩ := cell3 hsE
                        refine bodyPost_ret (v := .tuple #[.agg (refP 0 0 none 0 0), .int .i64 5]) ?_ rfl (ret19_no hbE (nop_end HRd.out HNn.out rfl (fun hg => by have := hg.room; omega)))
                        simp [results, Try.results19, go_sem, refP, r0, r1, r2]
                      · have HG : Hid (GoodL l) := ⟨HRd.out.cells, by omega, by omega, HTr.out, HRd.out.once⟩
                        have H33 : Hid (∀ W, SlC W (some ⟨bb, oo, none⟩) l → Calls Try.prog 33 #[.agg #[.int .i64 (id : Int), .int .u64 (lsn : Int), .slice (some ⟨bb, oo, none⟩) l.length c]] W fun e w' => e = .returned (.string (txt (pageB id lsn l))) ∧ Below W.heap.size W w') := fun W h => refbytes_any id lsn (some ⟨bb, oo, none⟩) c l W h HG.out hid hlsn2
                        have HSc6 : Hid (SlC w6 (some ⟨bb, oo, none⟩) l) := (slC_of_own HM6.out.row).1
                        go_wp2_with fail
                        refine Calls.mono (H33.out _ HSc6.out) ?_
                        rintro e w7 ⟨rfl, hb7⟩
                        have HM7 : Hid (Mz w5 id lsn (some ⟨bb, oo, none⟩) c l w7) := HM6.out.on hb7
                        clear hb7 HSc6 H33 g0 g1 g2 f0 f1 f2 hzz p0 p1 p2 e0 e1 e2 hzp
                        obtain ⟨g0, g1, g2, f0, f1, f2, hzz⟩ := cell3 (HRes.out _ HM7.out.below).1
                        obtain ⟨p0, p1, p2, e0, e1, e2, hzp⟩ := cell3 HM7.out.page
                        by_cases he : pageB id lsn l = b
                        · have hq : ((txt (pageB id lsn l)).toList == (txt b).toList) = true := by rw [txt_toList, txt_toList, he]; simp
                          have HE : Hid (pageB id lsn l = b) := he
                          clear he
                          have hsE := stored33 (.int .i64 (id : Int)) (.int .u64 (lsn : Int)) (.slice (some ⟨bb, oo, none⟩) l.length c) (HRes.out _ HM7.out.below).1
                          have hbE := below3 (.int .i64 (id : Int)) (.int .u64 (lsn : Int)) (.slice (some ⟨bb, oo, none⟩) l.length c) (HRes.out _ HM7.out.below).2
                          have hnb : (Value.slice (some ⟨bb, oo, none⟩) l.length c).ownBlock ≠ some w.heap.size := fun e => by have := (HM7.out.row.lt _ e).1; omega
                          have hSE := (slC_of_own (ownsRow_setCell_other (ownsRow_setCell_other (ownsRow_setCell_other HM7.out.row (a := ⟨w.heap.size, 0, none⟩) hnb (.int .i64 (id : Int))) (a := ⟨w.heap.size, 1, none⟩) hnb (.int .u64 (lsn : Int))) (a := ⟨w.heap.size, 2, none⟩) hnb (.slice (some ⟨bb, oo, none⟩) l.length c))).1
                          have hAll := toHid (And.intro hsE (And.intro hbE hSE))
                          clear hsE hbE hSE hnb
                          go_wp2
                          obtain ⟨hsE, hbE, hSE⟩ := hAll.out
                          generalize (((World.setCell w7 ⟨w.heap.size, 0, none⟩ (.int .i64 (id : Int))).setCell ⟨w.heap.size, 1, none⟩ (.int .u64 (lsn : Int))).setCell ⟨w.heap.size, 2, none⟩ (.slice (some ⟨bb, oo, none⟩) l.length c)) = WE at *
                          obtain ⟨r0, r1, r2, _⟩ := cell3 hsE
                          refine bodyPost_ret (v := .tuple #[.agg (refP (id : Int) lsn (some ⟨bb, oo, none⟩) l.length c), .int .i64 0]) ?_ rfl ⟨hbE, .inl ⟨lsn, l, some ⟨bb, oo, none⟩, c, HG.out, hlsn2, HE.out.symm, rfl, hSE⟩⟩
                          simp [results, Try.results19, go_sem, refP, r0, r1, r2]
                        · have hq : ((txt (pageB id lsn l)).toList == (txt b).toList) = false := by rw [txt_toList, txt_toList]; simpa using he
                          have hsE := stored33 (.int .i64 0) (.int .u64 0) (.slice none 0 0) (HRes.out _ HM7.out.below).1
                          have hbE := below3 (.int .i64 0) (.int .u64 0) (.slice none 0 0) (HRes.out _ HM7.out.below).2
                          go_wp2
                          generalize (((World.setCell w7 ⟨w.heap.size, 0, none⟩ (.int .i64 0)).setCell ⟨w.heap.size, 1, none⟩ (.int .u64 0)).setCell ⟨w.heap.size, 2, none⟩ (.slice none 0 0)) = WE at *
                          obtain ⟨r0, r1, r2, _⟩ := cell3 hsE
                          refine bodyPost_ret (v := .tuple #[.agg (refP 0 0 none 0 0), .int .i64 5]) ?_ rfl (ret19_no hbE (nop_bytes HRd.out HNn.out rfl HLs.out he))
                          simp [results, Try.results19, go_sem, refP, r0, r1, r2]
          · have hne1 : ((id0 : Int) != (id : Int)) = true := by simp; omega
            have hsE := stored33 (.int .i64 0) (.int .u64 0) (.slice none 0 0) (HRes.out _ HBr.out).1
            have hbE := below3 (.int .i64 0) (.int .u64 0) (.slice none 0 0) (HRes.out _ HBr.out).2
            go_wp2
            generalize (((World.setCell wq ⟨w.heap.size, 0, none⟩ (.int .i64 0)).setCell ⟨w.heap.size, 1, none⟩ (.int .u64 0)).setCell ⟨w.heap.size, 2, none⟩ (.slice none 0 0)) = WE at *
            obtain ⟨r0, r1, r2, _⟩ := cell3 hsE
            refine bodyPost_ret (v := .tuple #[.agg (refP 0 0 none 0 0), .int .i64 5]) ?_ rfl (ret19_no hbE (nop_head hid HId.out HNn.out (.inl hie)))
            simp [results, Try.results19, go_sem, refP, r0, r1, r2]

end Go.Proofs.Ytoahcihhpimmgaa
