/-
  Pairs of a page: sorted by their keys.
-/
import Derived.Test.YtebchgoaelamcaaDoorSr
import Derived.Test.YtebchgoaelamcaaDoorRx
namespace Go.Proofs.YtebchgoaelamcaaDoor
open Go.RowKit
set_option maxRecDepth 100000

theorem Tryd.info74 : (Tryd.prog.info? 74).map (fun i => (i.zero, i.size, i.bytes)) = some (some (.agg #[.string ⟨#[]⟩, .string ⟨#[]⟩]), 2, 32) := by kernel_rfl
theorem cells_two {W : World} {b : Nat} {a1 a2 : Value} {t : TypeId} (h : W.heap[b]? = some (.cells #[a1, a2] t)) : ∀ j u, [a1, a2][j]? = some u → W.cell? ((⟨b, 0, none⟩ : Addr).add j) = some u := by
  intro j u hu
  match j, hu with
  | 0, hu => simp at hu; subst hu; simp [Addr.add, World.cell?, h]
  | 1, hu => simp at hu; subst hu; simp [Addr.add, World.cell?, h]
theorem two_cells' (w : World) (a b : Value) (t : TypeId) (o : Obj) : ∀ j u, [a, b][j]? = some u → ((w.alloc o).alloc (.cells #[a, b] t)).cell? ((⟨w.heap.size + 1, 0, none⟩ : Addr).add j) = some u := by
  have hn := heap_alloc_new (w.alloc o) (.cells #[a, b] t)
  simp only [World.size_alloc] at hn
  exact cells_two hn
theorem prs_take (l : List Cl) (k : Nat) (hk : k < l.length) : prsL (l.take (k + 1)) = prsL (l.take k) ++ (prC l[k]).toList := by
  rw [List.take_add_one, List.getElem?_eq_getElem hk, prs_append]
  congr 1
theorem prs_le (l : List Cl) : (prsL l).length ≤ l.length := List.length_filterMap_le _ _

set_option maxRecDepth 20000 in
set_option maxHeartbeats 2000000 in
theorem pairs_any (B p : Nat) (id : Int) (lsn : Nat) (v : Value) (l : List Cl) (w : World) (h : PgOk w B p id lsn v l) (hl : l.length ≤ 64) :
    Calls Tryd.prog 24 #[.pointer (some ⟨p, 0, none⟩)] w fun e w' => ∃ a c, ∃ L : List Pq, e = .returned (.slice a L.length c) ∧ L.Perm (prsL l) ∧ SortP L ∧ w'.ownsRow w.heap.size 74 2 (.slice a L.length c) L.length (pcells L) ∧ Below w.heap.size w w' := by
  obtain ⟨i0, hi, hz0, hz1, hz2⟩ := info_parts Tryd.info74
  obtain ⟨a0, c0, rfl⟩ := ownsRow_shape h.own
  obtain ⟨hsl, _, _, _⟩ := slC_of_own h.own
  have HS : Hid (SlC w a0 l) := hsl
  obtain ⟨p0, p1, p2, f0, f1, f2, hz⟩ := h.cells
  clear h hsl p0 p1 f0 f1 f2 hz
  go_enter Tryd.func24, Tryd.ntmps24
  go_wp2_with fail
  go_loopw [3, 13] (fun s i wr => ∃ k : Nat, ∃ a c, k ≤ l.length ∧ i = .int .i64 k ∧ s = .slice a (prsL (l.take k)).length c ∧ wr.ownsRow w.heap.size 74 2 s (prsL (l.take k)).length (pcells (prsL (l.take k))) ∧ Below w.heap.size w wr) (fun _ i _ => l.length - (intOf i).toNat)
  case atStart => exact ⟨0, none, 0, Nat.zero_le _, rfl, rfl, World.ownsRow_nil _ _ _ _, Below.refl _ _⟩
  case round =>
    obtain ⟨k, a, c, hk, rfl, rfl, hor, hbr⟩ := hrel
    have hplen : (prsL (l.take k)).length ≤ 64 := by have := prs_le (l.take k); have h2 : (l.take k).length ≤ 64 := by rw [List.length_take]; omega
                                                     omega
    by_cases hlt : k < l.length
    · have HPT : Hid _ := prs_take l k hlt
      obtain ⟨P, hP⟩ : ∃ P, P = prsL (l.take k) := ⟨_, rfl⟩
      rw [← hP] at hor hplen HPT
      rw [← hP]
      have HP : Hid _ := hP
      have HOr : Hid (wr.ownsRow w.heap.size 74 2 (.slice a P.length c) P.length (pcells P)) := hor
      have HBr : Hid _ := hbr
      obtain ⟨b, o, rfl, hbl, c1, c2, c3⟩ := (HS.out.below hbr).at k hlt
      clear hP hor hbr
      cases hu : l[k].used
      · rw [prC_free hu] at HPT
        have HB1 : Hid (Below w.heap.size w (wr.alloc (.cells #[.bool false, .string (txt l[k].key), .string (txt l[k].val)] 55))) := HBr.out.alloc HBr.out.size _
        have HO1 : Hid _ := HOr.out.alloc (.cells #[.bool false, .string (txt l[k].key), .string (txt l[k].val)] 55)
        have HPL : Hid (prsL (l.take (k + 1)) = P) := by show _ = _; rw [HPT.out]; simp
        go_wp2_with fail
        go_roundw
        case rel => exact ⟨k + 1, a, c, by omega, by simp, by rw [HPL.out], by rw [HPL.out]; exact HO1.out, HB1.out⟩
        case measure => first | omega | (simp only [intOf]; omega)
      · rw [prC_used hu] at HPT
        have HO0 : Hid _ := (HOr.out.alloc (.cells #[.bool true, .string (txt l[k].key), .string (txt l[k].val)] 55)).alloc (.cells #[.string (txt l[k].key), .string (txt l[k].val)] 74)
        have HB0 : Hid (Below w.heap.size w ((wr.alloc (.cells #[.bool true, .string (txt l[k].key), .string (txt l[k].val)] 55)).alloc (.cells #[.string (txt l[k].key), .string (txt l[k].val)] 74))) := (HBr.out.alloc HBr.out.size _).alloc (by have := HBr.out.size; simp; omega) _
        have hsw := HBr.out.size
        go_wp2_with (at_builtin; refine wpList_append_own _ rfl _ _ 33 rfl w.heap.size 74 i0 _ 2 32 Tryd.underlying33 hi hz0 hz1 hz2 rfl (by decide) (.slice a P.length c) P.length (pcells P) rfl HO0.out ⟨wr.heap.size + 1, 0, none⟩ 1 1 [.string (txt l[k].key), .string (txt l[k].val)] rfl rfl (two_cells' _ _ _ _ _) (by intro u hu; simp at hu; rcases hu with rfl | rfl <;> rfl) (by unfold maxLen; omega) (by omega) (by simp; omega) ?_; intro v' w1 hown hgrow _; obtain ⟨a1, d1, rfl⟩ := ownsRow_shape hown)
        have HPL : Hid (prsL (l.take (k + 1)) = P ++ [(l[k].key, l[k].val)]) := by rw [HPT.out]; rfl
        have HB1 : Hid (Below w.heap.size w w1) := HB0.out.grown hgrow HB0.out.size (fun j hj => (World.ownsRow.lt HO0.out j hj).1)
        have HO1 : Hid (w1.ownsRow w.heap.size 74 2 (.slice a1 (P.length + 1) d1) (P.length + 1) (pcells P ++ [.string (txt l[k].key), .string (txt l[k].val)])) := hown
        clear hown hgrow
        go_wp2_with fail
        go_roundw
        case rel =>
          refine ⟨k + 1, a1, d1, by omega, by simp, by rw [HPL.out]; simp, ?_, HB1.out⟩
          rw [HPL.out, pcells_append, List.length_append]
          exact HO1.out
        case measure => first | omega | (simp only [intOf]; omega)
    · obtain rfl : k = l.length := by omega
      rw [List.take_length] at hor hplen ⊢
      have HSO : Hid _ := sort_own w.heap.size a c (prsL l) wr hor (by omega)
      have HBr : Hid _ := hbr
      have HOr : Hid _ := hor
      clear hor hbr
      go_wp2_with fail
      refine Calls.mono HSO.out ?_
      rintro e w1 ⟨rfl, L, hpm, hsd, ho, hg⟩
      have hlen := hpm.length_eq
      have HB1 : Hid (Below w.heap.size w w1) := HBr.out.grown hg HBr.out.size (fun j hj => (World.ownsRow.lt HOr.out j hj).1)
      rw [← hlen] at ho
      go_wp2
      go_ret
      exact ⟨a, c, L, by rw [hlen]; rfl, hpm, hsd, ho, HB1.out⟩

end Go.Proofs.YtebchgoaelamcaaDoor
