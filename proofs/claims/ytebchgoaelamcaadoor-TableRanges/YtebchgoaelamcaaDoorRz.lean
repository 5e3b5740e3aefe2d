/-
  The document's Insert, Update, Delete.
-/
import Derived.Test.YtebchgoaelamcaaDoorRy
namespace Go.Proofs.YtebchgoaelamcaaDoor
open Go.RowKit
set_option maxRecDepth 100000

theorem with_mem {l : List Cl} {i : Nat} {c d : Cl} (h : d ∈ withL l i c) : d ∈ l ∨ d = c := by
  obtain ⟨p, hp, _⟩ := trimL_prefix (if i = l.length then l ++ [c] else l.set i c)
  have : d ∈ (if i = l.length then l ++ [c] else l.set i c) := by rw [hp]; exact List.mem_append_left _ h
  split at this
  · simpa using this
  · exact List.mem_or_eq_of_mem_set this
theorem with_len (l : List Cl) (i : Nat) (c : Cl) : (withL l i c).length ≤ l.length + 1 := by
  have := (trimL_free (if i = l.length then l ++ [c] else l.set i c)).2
  unfold withL
  split at this <;> simp at this ⊢ <;> split <;> simp_all <;> omega

theorem slC_lt {w : World} {a : Option Addr} {l : List Cl} (h : SlC w a l) : ∀ x, a = some x → l ≠ [] → x.block < w.heap.size := fun x hx hl => by
  obtain ⟨t, ht⟩ := List.exists_mem_of_ne_nil l hl
  obtain ⟨j, hj, rfl⟩ := List.getElem_of_mem ht
  obtain ⟨_, h1, _⟩ := h.cells x hx j _ (List.getElem?_eq_getElem hj)
  have := World.block_lt_of_cell? _ _ h1
  exact this

theorem SlC.setOther {w : World} {a : Option Addr} {l : List Cl} (h : SlC w a l) {p : Addr} (hp : ∀ x, a = some x → l ≠ [] → x.block ≠ p.block) (u : Value) : SlC (w.setCell p u) a l :=
  ⟨h.nonil, fun x hx i t ht => by
    obtain ⟨h0, h1, h2, h3⟩ := h.cells x hx i t ht
    have hne : x.block ≠ p.block := hp x hx (by rintro rfl; simp at ht)
    have e : ∀ o, (w.setCell p u).cell? ⟨x.block, o, none⟩ = w.cell? ⟨x.block, o, none⟩ := fun o => World.cell?_of_block (w := w) (a := ⟨x.block, o, none⟩) (heap_setCell_other _ _ _ _ hne)
    exact ⟨h0, by rw [e]; exact h1, by rw [e]; exact h2, by rw [e]; exact h3⟩⟩

/-- The page that is told lies in block g. -/
theorem put_end {w wX : World} {n g : Nat} {id : Int} {lsn k : Nat} {xa : Option Addr} {xc : Nat} {L : List Cl} {z0 z1 z2 : Value} (hB : Below n w wX) (hm : wX.heap[g]? = some (.cells #[z0, z1, z2] 39)) (hS : SlC wX xa L) (hx : ∀ x, xa = some x → L ≠ [] → x.block ≠ g) (hg : n ≤ g := by omega) :
    (((wX.setCell ⟨g, 0, none⟩ (.int .i64 id)).setCell ⟨g, 1, none⟩ (.int .u64 (lsn : Int))).setCell ⟨g, 2, none⟩ (.slice xa k xc)).cell? ⟨g, 0, none⟩ = some (.int .i64 id) ∧
    (((wX.setCell ⟨g, 0, none⟩ (.int .i64 id)).setCell ⟨g, 1, none⟩ (.int .u64 (lsn : Int))).setCell ⟨g, 2, none⟩ (.slice xa k xc)).cell? ⟨g, 1, none⟩ = some (.int .u64 (lsn : Int)) ∧
    (((wX.setCell ⟨g, 0, none⟩ (.int .i64 id)).setCell ⟨g, 1, none⟩ (.int .u64 (lsn : Int))).setCell ⟨g, 2, none⟩ (.slice xa k xc)).cell? ⟨g, 2, none⟩ = some (.slice xa k xc) ∧
    SlC (((wX.setCell ⟨g, 0, none⟩ (.int .i64 id)).setCell ⟨g, 1, none⟩ (.int .u64 (lsn : Int))).setCell ⟨g, 2, none⟩ (.slice xa k xc)) xa L ∧
    Below n w (((wX.setCell ⟨g, 0, none⟩ (.int .i64 id)).setCell ⟨g, 1, none⟩ (.int .u64 (lsn : Int))).setCell ⟨g, 2, none⟩ (.slice xa k xc)) := by
  have h1 := heap_setCell_same wX g 0 _ 39 (.int .i64 id) hm
  have h2 := heap_setCell_same _ g 1 _ 39 (.int .u64 (lsn : Int)) h1
  have h3 := heap_setCell_same _ g 2 _ 39 (.slice xa k xc) h2
  obtain ⟨r0, r1, r2, _⟩ := cell3 (show _ = some (Obj.cells #[.int .i64 id, .int .u64 (lsn : Int), .slice xa k xc] 39) from h3)
  exact ⟨r0, r1, r2, ((hS.setOther (p := ⟨g, 0, none⟩) hx _).setOther (p := ⟨g, 1, none⟩) hx _).setOther (p := ⟨g, 2, none⟩) hx _, ((hB.setCell hg _).setCell hg _).setCell hg _⟩

theorem free_first {l : List Cl} {k : Nat} (hk : k ≤ l.length) (h : ∀ j (hj : j < l.length), j < k → l[j].used = true) (he : ∀ hk : k < l.length, l[k].used = false) : freeAt l = k := by
  unfold freeAt
  by_cases hlt : k < l.length
  · rw [ixI_take_none (p := isFree) k hlt (fun j hj hjk => by simp [isFree, h j hj hjk]) (by simp [isFree, he hlt])]
    rfl
  · rw [ixI_all_none (p := isFree) (fun j hj => by simp [isFree, h j hj (by omega)])]
    simp only [Option.getD_none]
    omega

set_option maxRecDepth 20000 in
set_option maxHeartbeats 3000000 in
theorem refinsert_any (id : Int) (lsn : Nat) (a : Option Addr) (c : Nat) (l : List Cl) (k x : List UInt8) (w : World) (h : SlC w a l) (hg : GoodL l) :
    Calls Tryd.prog 37 #[.agg (refP id lsn a l.length c), .string (txt k), .string (txt x)] w fun e w' => ∃ a', (∃ c', e = .returned (.tuple #[.agg (refP id lsn a' (insL l k x).1.length c'), .int .i64 (insL l k x).2])) ∧ SlC w' a' (insL l k x).1 ∧ ((a' = a ∧ (insL l k x).1 = l) ∨ ∀ y, a' = some y → w.heap.size ≤ y.block) ∧ Below w.heap.size w w' := by
  have h64 := hg.few
  have HG := (show Hid _ from hg)
  have HB0 : Hid (Below w.heap.size w ((w.alloc (.cells #[.int .i64 id, .int .u64 (lsn : Int), .slice a l.length c] 39)).alloc (.cells #[.int .i64 0, .int .u64 0, .slice none 0 0] 39))) := ((Below.refl _ _).alloc (Nat.le_refl _) _).alloc (by simp) _
  have HS := (show Hid _ from h)
  have HLT : Hid (∀ x, a = some x → l ≠ [] → x.block ≠ w.heap.size + 1) := fun x hx hl => by have := slC_lt h x hx hl; omega
  have HM := (show Hid _ from refmay_any k x)
  clear h hg
  cases hm : mayK k x
  · have HE : Hid (insL l k x = (l, 1)) := by show _ = _; unfold insL; rw [if_neg (by simp [hm])]
    rw [hm] at HM
    have HF1 : Hid (Below w.heap.size w ((w.alloc (.cells #[.int .i64 id, .int .u64 (lsn : Int), .slice a l.length c] 39)).alloc (.cells #[.int .i64 id, .int .u64 (lsn : Int), .slice a l.length c] 39))) := ((Below.refl _ _).alloc (Nat.le_refl _) _).alloc (by simp) _
    clear hm
    simp only [refP] at *
    go_enter Tryd.func37, Tryd.ntmps37
    go_wp2_with fail
    refine Calls.mono (HM.out _) ?_
    rintro e w1 ⟨rfl, hw1⟩
    obtain rfl := hw1.symm
    go_wp2
    (try simp only [Exit.inBlock, Exit.then])
    refine bodyPost_ret (v := .tuple #[.agg (refP id lsn a l.length c), .int .i64 1]) ?_ rfl ⟨a, ⟨c, ?_⟩, ?_, .inl ⟨rfl, by rw [HE.out]⟩, ?_⟩
    · rw [results_cell_tmp rfl]
      simp only [refP]
      go_simp
    · rw [HE.out]; rfl
    · rw [HE.out]; exact HS.out.below (by first | with_reducible exact HF1.out | with_reducible exact HB0.out)
    · first | with_reducible exact HF1.out | with_reducible exact HB0.out
  rw [hm] at HM
  have HMay := (show Hid _ from hm)
  clear hm
  have HFd := (show Hid _ from reffind_any id lsn a c l k _ (HS.out.below HB0.out) (by omega))
  simp only [refP] at *
  go_enter Tryd.func37, Tryd.ntmps37
  go_wp2_with fail
  refine Calls.mono (HM.out _) ?_
  rintro e w1 ⟨rfl, hw1⟩
  obtain rfl := hw1.symm
  go_wp2_with fail
  refine Calls.mono HFd.out ?_
  rintro e w2 ⟨rfl, hb2⟩
  have HB2 := (show Hid _ from below_on HB0.out hb2)
  obtain ⟨k0, k1⟩ := two_kept hb2
  have HK2 := (show Hid _ from k0)
  have HQ2 := (show Hid _ from k1)
  obtain ⟨p0, p1, p2, f0, f1, f2, hz⟩ := cell3 k0
  obtain ⟨q0, q1, q2, g0, g1, g2, hz2⟩ := cell3 k1
  clear hb2 k0 k1 HM HFd
  cases hf : l.findIdx? (isKey k) with
  | some j =>
    have HE : Hid (insL l k x = (l, 9)) := by show _ = _; unfold insL; rw [HMay.out, hf]; rfl
    simp only [ixI]
    obtain ⟨r0, r1, r2, hS, hB⟩ := put_end (id := id) (lsn := lsn) (k := l.length) (xc := c) HB2.out HQ2.out (HS.out.below HB2.out) (fun x hx => HLT.out x hx)
    have HF := (show Hid _ from And.intro hS hB)
    clear hS hB
    go_wp2
    (try simp only [Exit.inBlock, Exit.then])
    refine bodyPost_ret (v := .tuple #[.agg (refP id lsn a l.length c), .int .i64 9]) ?_ rfl ⟨a, ⟨c, ?_⟩, ?_, .inl ⟨rfl, by rw [HE.out]⟩, HF.out.2⟩
    · rw [results_cell_tmp rfl]
      simp only [refP]
      go_simp
    · rw [HE.out]; rfl
    · rw [HE.out]; exact HF.out.1
  | none =>
    have HIns := (show Hid _ from ins_ref HG.out HMay.out hf)
    have hks := mayK_small HMay.out
    simp only [ixI]
    clear hf
    go_wp2_with fail
    go_loop [8] (fun i => ∃ k : Nat, k ≤ l.length ∧ i = .int .i64 k ∧ ∀ j (hj : j < l.length), j < k → l[j].used = true) (fun i => l.length - (intOf i).toNat)
    case atStart => exact ⟨0, Nat.zero_le _, rfl, fun j hj h0 => by omega⟩
    case round =>
      obtain ⟨m, hm, rfl, hu⟩ := hrel
      have HU := (show Hid _ from hu)
      clear hu
      by_cases hlt : m < l.length
      · obtain ⟨b, o, rfl, hbl, c0, c1, c2⟩ := (HS.out.below HB2.out).at m hlt
        cases hus : l[m].used
        · rw [hus] at c0
          have HFA : Hid (freeAt l = m) := free_first hm (fun j hj hjk => HU.out j hj hjk) (fun _ => hus)
          clear hus
          rw [HFA.out] at HIns
          have HWi := (show Hid _ from refwith_any id lsn (some ⟨b, o, none⟩) c l m (cellOfKV k x))
          generalize hD : withL l m (cellOfKV k x) = D at *
          have HDs : Hid (∀ y ∈ D, y.key.length ≤ 16 ∧ y.val.length ≤ 32) := fun y hy => by
            rw [← hD] at hy
            rcases with_mem hy with h1 | rfl
            · exact HG.out.small y h1
            · exact hks
          have HDl : Hid (D.length ≤ 65) := by show _ ≤ _; rw [← hD]; have := with_len l m (cellOfKV k x); omega
          have hBc := HB2.out.alloc HB2.out.size (.cells #[.bool true, .string (txt k), .string (txt x)] 55)
          have HB3 := (show Hid _ from hBc)
          have hBc2 := (Below.refl w2.heap.size w2).alloc (Nat.le_refl _) (.cells #[.bool true, .string (txt k), .string (txt x)] 55)
          have HK3 := (show Hid _ from box_in' HK2.out hBc2)
          have HQ3 := (show Hid _ from box_in' HQ2.out hBc2)
          clear hD hBc hBc2
          simp only [refP, cellV, cellOfKV] at HWi
          go_wp2_with fail
          refine Calls.mono (HWi.out _ (HS.out.below HB3.out) (by omega) (by omega)) ?_
          rintro e w4 ⟨a4, ⟨c4, rfl⟩, hs4, hnb4, hb4⟩
          have hB4 := below_on HB3.out hb4
          have hBq := (Below.refl w4.heap.size w4).alloc (Nat.le_refl _) (.cells #[.int .i64 id, .int .u64 (lsn : Int), .slice a4 D.length c4] 39)
          have HB5 := (show Hid _ from below_on hB4 hBq)
          have HK5 := (show Hid _ from box_in' (box_in' HK3.out hb4) hBq)
          have HQ5 := (show Hid _ from box_in' (box_in' HQ3.out hb4) hBq)
          have HX5 : Hid ((w4.alloc (.cells #[.int .i64 id, .int .u64 (lsn : Int), .slice a4 D.length c4] 39)).heap[w4.heap.size]? = some (.cells #[.int .i64 id, .int .u64 (lsn : Int), .slice a4 D.length c4] 39)) := heap_alloc_new _ _
          have HS5 := (show Hid _ from hs4.below hBq)
          have HA4 : Hid (∀ y, a4 = some y → D ≠ [] → y.block ≠ w.heap.size + 1) := fun y hy _ => by have := hnb4 y hy; have := (cell3 HQ2.out).2.2.2.2.2.2; simp at *; omega
          have HN4 : Hid (∀ y, a4 = some y → w.heap.size ≤ y.block) := fun y hy => by have := hnb4 y hy; have := HB2.out.size; simp at *; omega
          clear hb4 hB4 hBq hs4 hnb4 p0 p1 p2 f0 f1 f2 hz q0 q1 q2 g0 g1 g2 hz2 HWi
          obtain ⟨p0, p1, p2, f0, f1, f2, hz⟩ := cell3 HK5.out
          obtain ⟨q0, q1, q2, g0, g1, g2, hz2⟩ := cell3 HQ5.out
          obtain ⟨x0, x1, x2, y0, y1, y2, hz3⟩ := cell3 HX5.out
          by_cases hm64 : 64 ≤ m
          · have HE : Hid (insL l k x = (l, 7)) := by show _ = _; rw [HIns.out, if_pos (.inl hm64)]
            have hm64' : decide ((m : Int) ≥ 64) = true := by simp; omega
            exact absurd hm64 (by omega)
          · have HFr := (show Hid _ from reffree_any id lsn a4 c4 D _ HS5.out HDs.out (by have := HDl.out; omega))
            simp only [refP] at HFr
            go_wp2_with fail
            refine Calls.mono HFr.out ?_
            rintro e w6 ⟨rfl, hb6⟩
            have HB6 := (show Hid _ from below_on HB5.out hb6)
            have HK6 := (show Hid _ from box_in' HK5.out hb6)
            have HQ6 := (show Hid _ from box_in' HQ5.out hb6)
            have HX6 := (show Hid _ from box_in' HX5.out hb6)
            have HS6 := (show Hid _ from HS5.out.below hb6)
            clear hb6 p0 p1 p2 f0 f1 f2 hz q0 q1 q2 g0 g1 g2 hz2 x0 x1 x2 y0 y1 y2 hz3 HFr
            obtain ⟨p0, p1, p2, f0, f1, f2, hz⟩ := cell3 HK6.out
            obtain ⟨q0, q1, q2, g0, g1, g2, hz2⟩ := cell3 HQ6.out
            obtain ⟨x0, x1, x2, y0, y1, y2, hz3⟩ := cell3 HX6.out
            by_cases hfr : freeL D < 0
            · have HE : Hid (insL l k x = (l, 7)) := by show _ = _; rw [HIns.out, if_pos (.inr hfr)]
              obtain ⟨r0, r1, r2, hS, hB⟩ := put_end (id := id) (lsn := lsn) (k := l.length) (xc := c) HB6.out HQ6.out (HS.out.below HB6.out) (fun x hx => HLT.out x hx)
              have HF := (show Hid _ from And.intro hS hB)
              clear hS hB
              go_wp2
              (try simp only [Exit.inBlock, Exit.then])
              refine bodyPost_ret (v := .tuple #[.agg (refP id lsn (some ⟨b, o, none⟩) l.length c), .int .i64 7]) ?_ rfl ⟨(some ⟨b, o, none⟩), ⟨c, ?_⟩, ?_, .inl ⟨rfl, by rw [HE.out]⟩, HF.out.2⟩
              · rw [results_cell_tmp rfl]
                simp only [refP]
                go_simp
              · rw [HE.out]; rfl
              · rw [HE.out]; exact HF.out.1
            · have HE : Hid (insL l k x = (D, 0)) := by show _ = _; rw [HIns.out, if_neg (by omega)]
              obtain ⟨r0, r1, r2, hS, hB⟩ := put_end (id := id) (lsn := lsn) (k := D.length) (xc := c4) HB6.out HQ6.out HS6.out HA4.out
              have HF := (show Hid _ from And.intro hS hB)
              clear hS hB
              go_wp2
              (try simp only [Exit.inBlock, Exit.then])
              refine bodyPost_ret (v := .tuple #[.agg (refP id lsn a4 D.length c4), .int .i64 0]) ?_ rfl ⟨a4, ⟨c4, ?_⟩, ?_, (.inr HN4.out), HF.out.2⟩
              · rw [results_cell_tmp rfl]
                simp only [refP]
                go_simp
              · rw [HE.out]; rfl
              · rw [HE.out]; exact HF.out.1
        · rw [hus] at c0
          go_wp2_with fail
          go_round
          case rel => exact ⟨m + 1, by omega, by simp, fun j hj h1 => by
            by_cases e : j = m
            · subst e; exact hus
            · exact HU.out j hj (by omega)⟩
          case measure => first | omega | (simp only [intOf]; omega)
      · have HFA : Hid (freeAt l = m) := free_first hm (fun j hj hjk => HU.out j hj hjk) (fun h => absurd h hlt)
        obtain rfl : m = l.length := by omega
        clear hlt
        rw [HFA.out] at HIns
        have HWi := (show Hid _ from refwith_any id lsn a c l l.length (cellOfKV k x))
        generalize hD : withL l l.length (cellOfKV k x) = D at *
        have HDs : Hid (∀ y ∈ D, y.key.length ≤ 16 ∧ y.val.length ≤ 32) := fun y hy => by
          rw [← hD] at hy
          rcases with_mem hy with h1 | rfl
          · exact HG.out.small y h1
          · exact hks
        have HDl : Hid (D.length ≤ 65) := by show _ ≤ _; rw [← hD]; have := with_len l l.length (cellOfKV k x); omega
        have hBc := HB2.out.alloc HB2.out.size (.cells #[.bool true, .string (txt k), .string (txt x)] 55)
        have HB3 := (show Hid _ from hBc)
        have hBc2 := (Below.refl w2.heap.size w2).alloc (Nat.le_refl _) (.cells #[.bool true, .string (txt k), .string (txt x)] 55)
        have HK3 := (show Hid _ from box_in' HK2.out hBc2)
        have HQ3 := (show Hid _ from box_in' HQ2.out hBc2)
        clear hD hBc hBc2
        simp only [refP, cellV, cellOfKV] at HWi
        go_wp2_with fail
        refine Calls.mono (HWi.out _ (HS.out.below HB3.out) (by omega) (by omega)) ?_
        rintro e w4 ⟨a4, ⟨c4, rfl⟩, hs4, hnb4, hb4⟩
        have hB4 := below_on HB3.out hb4
        have hBq := (Below.refl w4.heap.size w4).alloc (Nat.le_refl _) (.cells #[.int .i64 id, .int .u64 (lsn : Int), .slice a4 D.length c4] 39)
        have HB5 := (show Hid _ from below_on hB4 hBq)
        have HK5 := (show Hid _ from box_in' (box_in' HK3.out hb4) hBq)
        have HQ5 := (show Hid _ from box_in' (box_in' HQ3.out hb4) hBq)
        have HX5 : Hid ((w4.alloc (.cells #[.int .i64 id, .int .u64 (lsn : Int), .slice a4 D.length c4] 39)).heap[w4.heap.size]? = some (.cells #[.int .i64 id, .int .u64 (lsn : Int), .slice a4 D.length c4] 39)) := heap_alloc_new _ _
        have HS5 := (show Hid _ from hs4.below hBq)
        have HA4 : Hid (∀ y, a4 = some y → D ≠ [] → y.block ≠ w.heap.size + 1) := fun y hy _ => by have := hnb4 y hy; have := (cell3 HQ2.out).2.2.2.2.2.2; simp at *; omega
        have HN4 : Hid (∀ y, a4 = some y → w.heap.size ≤ y.block) := fun y hy => by have := hnb4 y hy; have := HB2.out.size; simp at *; omega
        clear hb4 hB4 hBq hs4 hnb4 p0 p1 p2 f0 f1 f2 hz q0 q1 q2 g0 g1 g2 hz2 HWi
        obtain ⟨p0, p1, p2, f0, f1, f2, hz⟩ := cell3 HK5.out
        obtain ⟨q0, q1, q2, g0, g1, g2, hz2⟩ := cell3 HQ5.out
        obtain ⟨x0, x1, x2, y0, y1, y2, hz3⟩ := cell3 HX5.out
        by_cases hm64 : 64 ≤ l.length
        · have HE : Hid (insL l k x = (l, 7)) := by show _ = _; rw [HIns.out, if_pos (.inl hm64)]
          have hm64' : decide ((l.length : Int) ≥ 64) = true := by simp; omega
          obtain ⟨r0, r1, r2, hS, hB⟩ := put_end (id := id) (lsn := lsn) (k := l.length) (xc := c) HB5.out HQ5.out (HS.out.below HB5.out) (fun x hx => HLT.out x hx)
          have HF := (show Hid _ from And.intro hS hB)
          clear hS hB
          go_wp2
          (try simp only [Exit.inBlock, Exit.then])
          refine bodyPost_ret (v := .tuple #[.agg (refP id lsn a l.length c), .int .i64 7]) ?_ rfl ⟨a, ⟨c, ?_⟩, ?_, .inl ⟨rfl, by rw [HE.out]⟩, HF.out.2⟩
          · rw [results_cell_tmp rfl]
            simp only [refP]
            go_simp
          · rw [HE.out]; rfl
          · rw [HE.out]; exact HF.out.1
        · have HFr := (show Hid _ from reffree_any id lsn a4 c4 D _ HS5.out HDs.out (by have := HDl.out; omega))
          simp only [refP] at HFr
          go_wp2_with fail
          refine Calls.mono HFr.out ?_
          rintro e w6 ⟨rfl, hb6⟩
          have HB6 := (show Hid _ from below_on HB5.out hb6)
          have HK6 := (show Hid _ from box_in' HK5.out hb6)
          have HQ6 := (show Hid _ from box_in' HQ5.out hb6)
          have HX6 := (show Hid _ from box_in' HX5.out hb6)
          have HS6 := (show Hid _ from HS5.out.below hb6)
          clear hb6 p0 p1 p2 f0 f1 f2 hz q0 q1 q2 g0 g1 g2 hz2 x0 x1 x2 y0 y1 y2 hz3 HFr
          obtain ⟨p0, p1, p2, f0, f1, f2, hz⟩ := cell3 HK6.out
          obtain ⟨q0, q1, q2, g0, g1, g2, hz2⟩ := cell3 HQ6.out
          obtain ⟨x0, x1, x2, y0, y1, y2, hz3⟩ := cell3 HX6.out
          by_cases hfr : freeL D < 0
          · have HE : Hid (insL l k x = (l, 7)) := by show _ = _; rw [HIns.out, if_pos (.inr hfr)]
            obtain ⟨r0, r1, r2, hS, hB⟩ := put_end (id := id) (lsn := lsn) (k := l.length) (xc := c) HB6.out HQ6.out (HS.out.below HB6.out) (fun x hx => HLT.out x hx)
            have HF := (show Hid _ from And.intro hS hB)
            clear hS hB
            go_wp2
            (try simp only [Exit.inBlock, Exit.then])
            refine bodyPost_ret (v := .tuple #[.agg (refP id lsn a l.length c), .int .i64 7]) ?_ rfl ⟨a, ⟨c, ?_⟩, ?_, .inl ⟨rfl, by rw [HE.out]⟩, HF.out.2⟩
            · rw [results_cell_tmp rfl]
              simp only [refP]
              go_simp
            · rw [HE.out]; rfl
            · rw [HE.out]; exact HF.out.1
          · have HE : Hid (insL l k x = (D, 0)) := by show _ = _; rw [HIns.out, if_neg (by omega)]
            obtain ⟨r0, r1, r2, hS, hB⟩ := put_end (id := id) (lsn := lsn) (k := D.length) (xc := c4) HB6.out HQ6.out HS6.out HA4.out
            have HF := (show Hid _ from And.intro hS hB)
            clear hS hB
            go_wp2
            (try simp only [Exit.inBlock, Exit.then])
            refine bodyPost_ret (v := .tuple #[.agg (refP id lsn a4 D.length c4), .int .i64 0]) ?_ rfl ⟨a4, ⟨c4, ?_⟩, ?_, (.inr HN4.out), HF.out.2⟩
            · rw [results_cell_tmp rfl]
              simp only [refP]
              go_simp
            · rw [HE.out]; rfl
            · rw [HE.out]; exact HF.out.1

end Go.Proofs.YtebchgoaelamcaaDoor
