/-
  PageReads: the slots of any bytes: if they are told as a page's, the bytes are laid as a page's are.
-/
import Derived.Test.YtoahcihhpimmgaaNd
import Derived.Test.YtoahcihhpimmgaaYd
namespace Go.Proofs.Ytoahcihhpimmgaa
open Go.RowKit

theorem all_zero4 (m : List UInt8) (h4 : m.length = 4) (h : m.all (· == 0) = true) : m = leB 0 4 := by
  match m, h4 with
  | [a, b, c, d], _ =>
    simp at h
    obtain ⟨rfl, rfl, rfl, rfl⟩ := h
    decide
theorem trim_len (l : List Cl) (h : (trimL l).length = l.length) : trimL l = l := by
  obtain ⟨p, hp, -⟩ := trimL_prefix l
  have : p = [] := by
    have := congrArg List.length hp
    rw [List.length_append, h] at this
    exact List.eq_nil_of_length_eq_zero (by omega)
  rw [this, List.append_nil] at hp
  exact hp.symm
theorem all_zero (m : List UInt8) (h : m.all (· == 0) = true) : m = List.replicate m.length 0 := by
  refine List.eq_replicate_iff.2 ⟨rfl, fun x hx => ?_⟩
  have := List.all_eq_true.1 h x hx
  simpa using this

/-- What slotsOf tells of any bytes: where it says yes. -/
def Told46 (b : List UInt8) (ok : Bool) : Prop := ok = true → ∃ l, SoF b l.length l ∧ l.length ≤ 64 ∧ trimL l = l ∧ (b.drop (16 + 4 * l.length)).take (496 - 4 * l.length - sumC l) = List.replicate (496 - 4 * l.length - sumC l) 0 ∧ leV ((b.drop 14).take 2) = l.length

/-- What slotsOf answers. -/
def Ret46 (b : List UInt8) (w w' : World) (e : Ending) : Prop := ∃ v ok, e = .returned (.tuple #[v, .bool ok]) ∧ Below w.heap.size w w' ∧ Told46 b ok
theorem ret46_no {b : List UInt8} {w w' : World} {v : Value} (h : Below w.heap.size w w') : Ret46 b w w' (.returned (.tuple #[v, .bool false])) := ⟨v, false, rfl, h, fun h => by simp at h⟩

set_option maxRecDepth 20000 in
set_option maxHeartbeats 8000000 in
theorem slotsOf_any (g o C : Nat) (b : List UInt8) (w : World) (h : SlB w (some ⟨g, o, none⟩) b) (hb : b.length = 512) (hC : 512 ≤ C) :
    Calls Try.prog 46 #[.slice (some ⟨g, o, none⟩) 512 C] w fun e w' => Ret46 b w w' e := by
  obtain ⟨i0, hi, hz0, hz1, hz2⟩ := info_parts Try.info65
  have HS := (show Hid _ from h)
  obtain ⟨N, hN⟩ : ∃ N, leV ((b.drop 14).take 2) = N := ⟨_, rfl⟩
  have hNl : N < 65536 := by
    have := leV_lt ((b.drop 14).take 2)
    rw [hN, List.length_take, List.length_drop, hb] at this
    simpa using this
  have s14 := (show Hid _ from number_any g (o + 14) (C - 14) _ w (h.sub 14 2) (by simp; omega))
  rw [hN, List.length_take, List.length_drop, hb] at s14
  have HNc := (show Hid (leV ((b.drop 14).take 2) = N) from hN)
  have n1 : ¬ C = 14 := by omega
  have n2 : ¬ C ≤ 14 := by omega
  have n3 : 16 ≤ C := by omega
  have hwl : IntKind.i64.wrap (N : Int) = (N : Int) := by simp [IntKind.wrap, IntKind.bits, IntKind.signed]; omega
  have HBl := (show Hid (b.length = 512) from hb)
  clear h hb hN
  by_cases h64 : N ≤ 64
  · go_enter Try.func46, Try.ntmps46
    go_wp2_with fail
    refine Calls.mono s14.out ?_
    rintro e w1 ⟨rfl, hw⟩
    obtain rfl := hw.symm
    clear s14
    go_wp2_with (at_make; refine wpList_make_own _ rfl _ _ 31 rfl w.heap.size 65 i0 _ 3 Try.underlying31 hi hz0 hz1 _ _ _ N rfl rfl (by omega) (by rw [hz2]; omega) (by unfold maxLen; omega) (Nat.le_refl _) ?_)
    intro w2 hown hgr
    have HB2 : Hid (Below w.heap.size w w2) := (Touch.grown (Touch.refl w w.heap.size none) hgr).below (Nat.le_refl _) (by simp) (Nat.le_refl _)
    have HO2 : Hid (w2.ownsRow w.heap.size 65 3 (.slice (some ⟨w.heap.size, 0, none⟩) 0 N) 0 []) := hown
    clear hown hgr
    go_wp2_with fail
    obtain ⟨M, hM⟩ : ∃ M, M = 16 + 4 * N := ⟨_, rfl⟩
    refine Calls.mono (slotAt' _ N M _ rfl hM (by omega)) ?_
    rintro e w3 ⟨rfl, hw⟩
    obtain rfl := hw.symm
    go_wp2_with fail
    go_loopw [5, 7, 27] (fun s e i wr => ∃ l : List Cl, l.length ≤ N ∧ s = .slice (some ⟨w.heap.size, 0, none⟩) l.length N ∧ e = .int .i64 ((512 - sumC l : Nat) : Int) ∧ i = .int .i64 (l.length : Int) ∧ SoF b N l ∧ wr.ownsRow w.heap.size 65 3 (.slice (some ⟨w.heap.size, 0, none⟩) l.length N) l.length (cellsV l) ∧ Below w.heap.size w wr) (fun _ _ i _ => N - (intOf i).toNat)
    case atStart => exact ⟨[], Nat.zero_le _, rfl, by simp [sumC], rfl, SoF.start HBl.out h64, HO2.out, HB2.out⟩
    case round =>
      clear HO2 HB2
      obtain ⟨l, hk, rfl, rfl, rfl, hsf, hown, hB⟩ := hrel
      have HBr := (show Hid _ from hB)
      have HSF := (show Hid (SoF b N l) from hsf)
      obtain ⟨k, hkl⟩ : ∃ k, Hid (l.length = k) := ⟨_, (show Hid _ from rfl)⟩
      have HOr : Hid (wr.ownsRow w.heap.size 65 3 (.slice (some ⟨w.heap.size, 0, none⟩) k N) k (cellsV l)) := by
        rw [← hkl.out]; exact hown
      have hrm := hsf.room
      rw [hkl.out] at hk ⊢
      clear hB hown hsf
      obtain ⟨E, hE⟩ : ∃ E, 512 - sumC l = E := ⟨_, rfl⟩
      have HE := (show Hid (512 - sumC l = E) from hE)
      have hE1 : E ≤ 512 := by omega
      have hE2 : 16 + 4 * N ≤ E := by omega
      rw [hE]
      clear hE hrm
      by_cases hlt : k < N
      · obtain ⟨s, hs⟩ : ∃ s, s = 16 + 4 * k := ⟨_, rfl⟩
        obtain ⟨s2, hs2⟩ : ∃ s2, s2 = 16 + 4 * (k + 1) := ⟨_, rfl⟩
        have d0 : s2 - s = 4 := by omega
        have d1 : s ≤ s2 := by omega
        have d2 : s2 ≤ C := by omega
        have d3 : ¬ C = s := by omega
        have d4 : ¬ C ≤ s := by omega
        have d5 : ¬ C - s = 0 := by omega
        obtain ⟨S4, hS4⟩ : ∃ S4, (b.drop s).take 4 = S4 := ⟨_, rfl⟩
        have hS4l : S4.length = 4 := by rw [← hS4, List.length_take, List.length_drop, HBl.out]; omega
        have hsl : SlB wr (some ⟨g, o + s, none⟩) S4 := by
          have := (HS.out.below HBr.out).sub s 4
          rw [hS4] at this
          exact this
        obtain ⟨z, hz⟩ : ∃ z, S4.all (· == 0) = z := ⟨_, rfl⟩
        have HN : Hid (Calls Try.prog 43 #[.slice (some ⟨g, o + s, none⟩) 4 (C - s)] wr fun e w' => e = .returned (.bool z) ∧ w' = wr) := by
          have := noughts_any (some ⟨g, o + s, none⟩) (C - s) S4 wr hsl (by omega)
          rw [hS4l, hz] at this
          exact this
        have HSL := (show Hid (SlB wr (some ⟨g, o + s, none⟩) S4) from hsl)
        have HZ := (show Hid (S4.all (· == 0) = z) from hz)
        have H4 := (show Hid ((b.drop s).take 4 = S4) from hS4)
        have H4l := (show Hid (S4.length = 4) from hS4l)
        have H1 := (show Hid (s = 16 + 4 * k) from hs)
        have H2 := (show Hid (s2 = 16 + 4 * (k + 1)) from hs2)
        clear hsl hs hs2 hz hS4 hS4l
        go_wp2_with fail
        refine Calls.mono (slotAt' _ k s _ (by simp) H1.out (by omega)) ?_
        rintro e w4 ⟨rfl, hw⟩
        obtain rfl := hw.symm
        go_wp2_with fail
        refine Calls.mono (slotAt' _ (k + 1) s2 _ (by simp) H2.out (by omega)) ?_
        rintro e w5 ⟨rfl, hw⟩
        obtain rfl := hw.symm
        go_wp2_with fail
        refine Calls.mono HN.out ?_
        rintro e w6 ⟨rfl, hw⟩
        obtain rfl := hw.symm
        clear HN
        cases z with
        | true =>
          have HSF2 : Hid (SoF b N (l ++ [Cl.none])) := by
            refine HSF.out.free ?_
            rw [hkl.out, ← H1.out, H4.out]
            exact all_zero4 S4 H4l.out HZ.out
          have hck : cellsV (l ++ [Cl.none]) = cellsV l ++ [.bool false, .string ⟨#[]⟩, .string ⟨#[]⟩] := by
            rw [cellsV_append]
            simp [cellsV, Cl.none, txt]
          have HCK := (show Hid (cellsV (l ++ [Cl.none]) = _) from hck)
          clear hck
          have hg0 := HBr.out.size
          go_wp2_with (at_builtin; refine wpList_append_fits _ rfl _ _ 31 rfl w.heap.size 65 i0 3 Try.underlying31 hi hz1 w.heap.size k N (cellsV l) rfl (HOr.out.alloc _) ⟨wr.heap.size, 0, none⟩ 1 1 [.bool false, .string ⟨#[]⟩, .string ⟨#[]⟩] rfl rfl (cell_three_new _ _ _ _ _) (by intro u hu; simp at hu; rcases hu with rfl | rfl | rfl <;> rfl) (by omega) ?_)
          intro w7 hown7 hgr7
          have HB7 := (show Hid (Below w.heap.size w w7) from below_grown (HBr.out.alloc HBr.out.size _) hgr7)
          have HO7 : Hid (w7.ownsRow w.heap.size 65 3 (.slice (some ⟨w.heap.size, 0, none⟩) (k + 1) N) (k + 1) (cellsV (l ++ [Cl.none]))) := by
            rw [HCK.out]
            exact hown7
          clear hown7 hgr7
          go_wp2_with fail
          go_roundw
          case rel =>
            have hl1 : (l ++ [Cl.none]).length = k + 1 := by rw [List.length_append, hkl.out]; rfl
            have hsum : sumC (l ++ [Cl.none]) = sumC l := by simp [sumC_append, sumC, sizeC, Cl.none]
            exact ⟨l ++ [Cl.none], by omega, by rw [hl1], by rw [hsum, HE.out], by rw [hl1]; simp, HSF2.out, by rw [hl1]; exact HO7.out, HB7.out⟩
          case measure => first | omega | (simp only [intOf]; omega)
        | false =>
          obtain ⟨bg, hbg⟩ : ∃ bg, leV (S4.take 2) = bg := ⟨_, rfl⟩
          obtain ⟨sz, hsz⟩ : ∃ sz, leV (S4.drop 2) = sz := ⟨_, rfl⟩
          have hbgl : bg < 65536 := by have := leV_lt (S4.take 2); rw [hbg, List.length_take, H4l.out] at this; simpa using this
          have hszl : sz < 65536 := by have := leV_lt (S4.drop 2); rw [hsz, List.length_drop, H4l.out] at this; simpa using this
          have HN1 : Hid (∀ W, SlB W (some ⟨g, o + s, none⟩) S4 → Calls Try.prog 44 #[.slice (some ⟨g, o + s, none⟩) 2 (C - s)] W fun e w' => e = .returned (.int .u64 (bg : Int)) ∧ w' = W) := fun W hW => by
            have := number_any g (o + s) (C - s) (S4.take 2) W (by simpa using hW.sub 0 2) (by simp; omega)
            rw [hbg, List.length_take, H4l.out] at this
            exact this
          have HN2 : Hid (∀ W, SlB W (some ⟨g, o + s, none⟩) S4 → Calls Try.prog 44 #[.slice (some ⟨g, o + s + 2, none⟩) 2 (C - s - 2)] W fun e w' => e = .returned (.int .u64 (sz : Int)) ∧ w' = W) := fun W hW => by
            have e2 : (S4.drop 2).take 2 = S4.drop 2 := List.take_of_length_le (by rw [List.length_drop, H4l.out]; omega)
            have h2 := hW.sub 2 2
            rw [e2] at h2
            have := number_any g (o + s + 2) (C - s - 2) (S4.drop 2) W h2 (by rw [List.length_drop, H4l.out]; omega)
            rw [hsz, List.length_drop, H4l.out] at this
            exact this
          have HBG := (show Hid (leV (S4.take 2) = bg) from hbg)
          have HSZ := (show Hid (leV (S4.drop 2) = sz) from hsz)
          have f9 : 2 ≤ C - s := by omega
          have f10 : ¬ C - s = 2 := by omega
          have f11 : ¬ C - s ≤ 2 := by omega
          have hwb : IntKind.i64.wrap (bg : Int) = (bg : Int) := by simp [IntKind.wrap, IntKind.bits, IntKind.signed]; omega
          have hws : IntKind.i64.wrap (sz : Int) = (sz : Int) := by simp [IntKind.wrap, IntKind.bits, IntKind.signed]; omega
          clear hbg hsz
          go_wp2_with fail
          have f0 : (2 : Int) ≤ ((C - s : Nat) : Int) := by omega
          refine wp_region_held_drew (S := (fun W' => W' = wr.drew)) (by kernel_rfl) rfl (fun hHeld => ?_)
          refine wpAnyH_take (i := 0) (v := ?_) rfl (by kernel_rfl) (by kernel_rfl) (by kernel_rfl) (fun _ _ _ h => h) (Or.inl ⟨by rfl, ?_⟩) (by assumption) ?_
          rotate_left
          · (intro W hSw; (try dsimp only at hSw); go_simp; try with_reducible rfl)
          try simp only [Act.put, List.getElem_toArray, List.getElem_cons_zero, List.setIfInBounds_toArray, List.set_cons_zero, List.set_cons_succ]
          refine wpAnyH_take (i := 1) (v := ?_) rfl (by kernel_rfl) (by kernel_rfl) (by kernel_rfl) (fun _ _ _ h => h) (Or.inl ⟨by rfl, ?_⟩) (by assumption) ?_
          rotate_left
          · (intro W hSw; (try dsimp only at hSw); go_simp; try with_reducible rfl)
          try simp only [Act.put, List.getElem_toArray, List.getElem_cons_zero, List.getElem_cons_succ, List.setIfInBounds_toArray, List.set_cons_zero, List.set_cons_succ]
          refine wpAnyH_take (i := 4) (v := ?_) rfl (by kernel_rfl) (by kernel_rfl) (by kernel_rfl) (fun _ _ _ h => h) (Or.inl ⟨by rfl, ?_⟩) (by assumption) ?_
          rotate_left
          · (intro W hSw; (try dsimp only at hSw); go_simp; try with_reducible rfl)
          try simp only [Act.put, List.getElem_toArray, List.getElem_cons_zero, List.getElem_cons_succ, List.setIfInBounds_toArray, List.set_cons_zero, List.set_cons_succ]
          refine wpAnyH_take (i := 5) (v := ?_) rfl (by kernel_rfl) (by kernel_rfl) (by kernel_rfl) (fun _ _ _ h => h) (Or.inl ⟨by rfl, ?_⟩) (by assumption) ?_
          rotate_left
          · (intro W hSw; (try dsimp only at hSw); go_simp; try with_reducible rfl)
          try simp only [Act.put, List.getElem_toArray, List.getElem_cons_zero, List.getElem_cons_succ, List.setIfInBounds_toArray, List.set_cons_zero, List.set_cons_succ]
          refine wpAnyH_ready (rs := [2]) (by kernel_rfl) (by simp) ?_
          refine AllReadyH.cons rfl (fun K hK => ?_) AllReadyH.nil
          go_simp
          refine Calls.mono (HN1.out _ HSL.out.drew) ?_
          rintro e wn ⟨rfl, hw⟩
          obtain rfl := hw.symm
          try go_wp2_with fail
          refine hK.out _ _ (rfl) (fun hHeld => ?_)
          clear hK K
          try simp only [Act.put, List.getElem_toArray, List.getElem_cons_zero, List.getElem_cons_succ, List.setIfInBounds_toArray, List.set_cons_zero, List.set_cons_succ]
          refine wpAnyH_take (i := 3) (v := ?_) rfl (by kernel_rfl) (by kernel_rfl) (by kernel_rfl) (fun _ _ _ h => h) (Or.inl ⟨by rfl, ?_⟩) (by assumption) ?_
          rotate_left
          · (intro W hSw; (try dsimp only at hSw); go_simp; try with_reducible rfl)
          try simp only [Act.put, List.getElem_toArray, List.getElem_cons_zero, List.getElem_cons_succ, List.setIfInBounds_toArray, List.set_cons_zero, List.set_cons_succ]
          refine wpAnyH_ready (rs := [6]) (by kernel_rfl) (by simp) ?_
          refine AllReadyH.cons rfl (fun K hK => ?_) AllReadyH.nil
          go_simp
          refine Calls.mono (HN2.out _ HSL.out.drew) ?_
          rintro e wn ⟨rfl, hw⟩
          obtain rfl := hw.symm
          try go_wp2_with fail
          refine hK.out _ _ (rfl) (fun hHeld => ?_)
          clear hK K
          try simp only [Act.put, List.getElem_toArray, List.getElem_cons_zero, List.getElem_cons_succ, List.setIfInBounds_toArray, List.set_cons_zero, List.set_cons_succ]
          refine wpAnyH_take (i := 7) (v := ?_) rfl (by kernel_rfl) (by kernel_rfl) (by kernel_rfl) (fun _ _ _ h => h) (Or.inl ⟨by rfl, ?_⟩) (by assumption) ?_
          rotate_left
          · (intro W hSw; (try dsimp only at hSw); go_simp; try with_reducible rfl)
          try simp only [Act.put, List.getElem_toArray, List.getElem_cons_zero, List.getElem_cons_succ, List.setIfInBounds_toArray, List.set_cons_zero, List.set_cons_succ]
          refine wpAnyH_take (i := 8) (v := ?_) rfl (by kernel_rfl) (by kernel_rfl) (by kernel_rfl) (fun _ _ _ h => h) (Or.inl ⟨by rfl, ?_⟩) (by assumption) ?_
          rotate_left
          · (intro W hSw; (try dsimp only at hSw); go_simp; try with_reducible rfl)
          try simp only [Act.put, List.getElem_toArray, List.getElem_cons_zero, List.getElem_cons_succ, List.setIfInBounds_toArray, List.set_cons_zero, List.set_cons_succ]
          refine wpAnyH_take (i := 9) (v := ?_) rfl (by kernel_rfl) (by kernel_rfl) (by kernel_rfl) (fun _ _ _ h => h) (Or.inl ⟨by rfl, ?_⟩) (by assumption) ?_
          rotate_left
          · (intro W hSw; (try dsimp only at hSw); go_simp; try with_reducible rfl)
          try simp only [Act.put, List.getElem_toArray, List.getElem_cons_zero, List.getElem_cons_succ, List.setIfInBounds_toArray, List.set_cons_zero, List.set_cons_succ]
          refine wpAnyH_done (by kernel_rfl) ?_ _
          have HBd : Hid (Below w.heap.size w wr.drew) := HBr.out.drew
          by_cases c1 : bg < 16 + 4 * N
          · have g1 : decide ((bg : Int) < 16 + 4 * (N : Int)) = true := by simp; omega
            have g1' : (bg : Int) < 16 + 4 * (N : Int) := by omega
            go_wp2
            refine bodyPost_ret (v := .tuple #[.slice none 0 0, .bool false]) (by simp [results, Try.results46, go_sem]) rfl (ret46_no HBd.out)
          · have g1 : decide ((bg : Int) < 16 + 4 * (N : Int)) = false := by simp; omega
            have g1' : ¬ (bg : Int) < 16 + 4 * (N : Int) := by omega
            by_cases c2 : bg + sz = E
            · have g2 : ((bg : Int) + (sz : Int) != (E : Int)) = false := by simp; omega
              have g2' : (bg : Int) + (sz : Int) = (E : Int) := by omega
              have g3 : (bg : Int) ≤ (E : Int) := by omega
              have g4 : (E : Int) ≤ (C : Int) := by omega
              have g5 : 0 ≤ (bg : Int) := by omega
              have g6 : E - bg = sz := by omega
              have f4 : bg ≤ E := by omega
              have f5 : E ≤ C := by omega
              obtain ⟨Mm, hMm⟩ : ∃ Mm, (b.drop bg).take sz = Mm := ⟨_, rfl⟩
              have hMl : Mm.length = sz := by rw [← hMm, List.length_take, List.length_drop, HBl.out]; omega
              have HMm := (show Hid ((b.drop bg).take sz = Mm) from hMm)
              have HCO : Hid (∀ A, (¬ C = bg → A = some (⟨g, o + bg, none⟩ : Addr)) → Calls Try.prog 70 #[.slice A sz (C - bg)] wr.drew fun e w' => ∃ c ok, e = .returned (.tuple #[.agg (cellV c), .bool ok]) ∧ Below wr.drew.heap.size wr.drew w' ∧ (ok = true → ∃ k r, Mm = k :: r ∧ 1 + k.toNat ≤ sz ∧ c = ⟨true, r.take k.toNat, r.drop k.toNat⟩ ∧ mayK (r.take k.toNat) (r.drop k.toNat) = true)) := fun A hA => by
                by_cases hCb : C = bg
                · have : sz = 0 := by omega
                  rw [this]
                  exact (cellOf_none A (C - bg) wr.drew).mono fun e w' ⟨he, hb⟩ => ⟨Cl.none, false, he, hb, by simp⟩
                · rw [hA hCb]
                  have hsub := ((HS.out.below HBr.out).sub bg sz).drew
                  rw [hMm] at hsub
                  exact cellOf_any g (o + bg) (C - bg) sz Mm wr.drew hsub hMl (by omega) (by omega)
              clear hMm
              by_cases hCb : C = bg
              · obtain rfl : bg = 512 := by omega
                obtain rfl : C = 512 := hCb
                obtain rfl : E = 512 := by omega
                obtain rfl : sz = 0 := by omega
                clear HCO HMm
                go_wp2_with fail
                refine Calls.mono (cellOf_none _ _ _) ?_
                rintro e w7 ⟨rfl, hb7⟩
                simp only [cellV, Cl.none]
                have hb7' : Below wr.heap.size wr w7 := (Below.refl _ wr).drew.trans hb7
                have HB7 : Hid (Below w.heap.size w w7) := HBr.out.trans (hb7'.mono HBr.out.size)
                clear hb7 hb7'
                go_wp2
                refine bodyPost_ret (v := .tuple #[.slice none 0 0, .bool false]) (by simp [results, Try.results46, go_sem]) rfl (ret46_no (HB7.out.alloc HB7.out.size _))
              · have f6 : ¬ C = bg := hCb
                have f7 : ¬ C ≤ bg := by omega
                have f8 : ¬ C - bg = 0 := by omega
                have hcc := HCO.out (some ⟨g, o + bg, none⟩) (fun _ => rfl)
                have HCC := (show Hid _ from hcc)
                clear hcc HCO
                go_wp2_with fail
                refine Calls.mono HCC.out ?_
                rintro e w7 ⟨c, ok, rfl, hb7, hok⟩
                obtain ⟨cu, ck, cv⟩ := c
                simp only [cellV]
                have hb7' : Below wr.heap.size wr w7 := (Below.refl _ wr).drew.trans hb7
                have HB7 : Hid (Below w.heap.size w w7) := HBr.out.trans (hb7'.mono HBr.out.size)
                have HO7 : Hid (w7.ownsRow w.heap.size 65 3 (.slice (some ⟨w.heap.size, 0, none⟩) k N) k (cellsV l)) := own_on HOr.out hb7'
                have HOK := (show Hid _ from hok)
                have hg07 := HB7.out.size
                clear hb7 hb7' HCC hok
                cases ok with
                | false =>
                  go_wp2
                  refine bodyPost_ret (v := .tuple #[.slice none 0 0, .bool false]) (by simp [results, Try.results46, go_sem]) rfl (ret46_no (HB7.out.alloc HB7.out.size _))
                | true =>
                  obtain ⟨k0, r, hMr, hk0, hce, hmay⟩ := HOK.out rfl
                  simp only [Cl.mk.injEq] at hce
                  obtain ⟨rfl, hck, hcv⟩ := hce
                  have HKR := (show Hid (Mm = k0 :: r ∧ 1 + k0.toNat ≤ sz ∧ ck = r.take k0.toNat ∧ cv = r.drop k0.toNat ∧ mayK (r.take k0.toNat) (r.drop k0.toNat) = true) from ⟨hMr, hk0, hck, hcv, hmay⟩)
                  clear hMr hk0 hck hcv hmay HOK
                  have HSC : Hid (SlC (w7.alloc (.cells #[.bool true, .string (txt ck), .string (txt cv)] 65)) (some ⟨w.heap.size, 0, none⟩) l) := by
                    have h1 := HO7.out.alloc (.cells #[.bool true, .string (txt ck), .string (txt cv)] 65)
                    rw [← hkl.out] at h1
                    exact (slC_of_own h1).1
                  have HFI : Hid (Calls Try.prog 56 #[.slice (some ⟨w.heap.size, 0, none⟩) k N, .string (txt ck)] (w7.alloc (.cells #[.bool true, .string (txt ck), .string (txt cv)] 65)) fun e w' => e = .returned (.int .i64 (ixI (l.findIdx? (isKey ck)))) ∧ Below (w7.alloc (.cells #[.bool true, .string (txt ck), .string (txt cv)] 65)).heap.size (w7.alloc (.cells #[.bool true, .string (txt ck), .string (txt cv)] 65)) w') := by
                    have := find_any ck (some ⟨w.heap.size, 0, none⟩) N l _ HSC.out (by have := hkl.out; omega)
                    rw [hkl.out] at this
                    exact this
                  go_wp2_with fail
                  refine Calls.mono HFI.out ?_
                  rintro e w8 ⟨rfl, hb8⟩
                  have hb8w : Below w7.heap.size w7 w8 := ((Below.refl _ w7).alloc (Nat.le_refl _) (.cells #[.bool true, .string (txt ck), .string (txt cv)] 65)).trans (hb8.mono (by simp))
                  have hblk8 : w8.heap[w7.heap.size]? = some (.cells #[.bool true, .string (txt ck), .string (txt cv)] 65) := box_in hb8
                  have hz8 := lt_of_blk hblk8
                  obtain ⟨t0, t1, t2⟩ : w8.cell? ⟨w7.heap.size, 0, none⟩ = some (.bool true) ∧ w8.cell? ⟨w7.heap.size, 1, none⟩ = some (.string (txt ck)) ∧ w8.cell? ⟨w7.heap.size, 2, none⟩ = some (.string (txt cv)) := by simp [World.cell?, hblk8]
                  have HB8 : Hid (Below w.heap.size w w8) := HB7.out.trans (hb8w.mono HB7.out.size)
                  have HO8 : Hid (w8.ownsRow w.heap.size 65 3 (.slice (some ⟨w.heap.size, 0, none⟩) k N) k (cellsV l)) := own_on HO7.out hb8w
                  clear hb8 hb8w hblk8 HO7 HB7 HFI HSC
                  cases hfi : l.findIdx? (isKey ck) with
                  | some j =>
                    simp only [ixI]
                    have hj0 : (0 : Int) ≤ (j : Int) := by omega
                    go_wp2
                    refine bodyPost_ret (v := .tuple #[.slice none 0 0, .bool false]) (by simp [results, Try.results46, go_sem]) rfl (ret46_no HB8.out)
                  | none =>
                    simp only [ixI]
                    have HSF2 : Hid (SoF b N (l ++ [⟨true, ck, cv⟩])) := by
                      obtain ⟨hMr, hk0, hck, hcv, hmay⟩ := HKR.out
                      subst hck hcv
                      refine HSF.out.cell (bg := bg) (sz := sz) (k := k0) (r := r) HBl.out ?_ ?_ (by rw [hkl.out]; exact hlt) (by omega) (by rw [HE.out]; exact c2) (by rw [HMm.out, hMr]) hk0 hmay hfi
                      · rw [hkl.out, ← H1.out, H4.out]; exact HBG.out
                      · rw [hkl.out, ← H1.out, H4.out]; exact HSZ.out
                    have HCK : Hid (cellsV (l ++ [⟨true, ck, cv⟩]) = cellsV l ++ [.bool true, .string (txt ck), .string (txt cv)]) := by
                      show _ = _
                      rw [cellsV_append]
                      simp [cellsV]
                    have HSum : Hid (512 - sumC (l ++ [⟨true, ck, cv⟩]) = bg) := by
                      show _ = _
                      have hs2 : sumC (l ++ [⟨true, ck, cv⟩]) = sumC l + sz := by
                        obtain ⟨hMr, hk0, hck, hcv, hmay⟩ := HKR.out
                        rw [sumC_append]
                        have hrl : r.length + 1 = sz := by rw [← hMl, hMr]; simp
                        simp [sumC, sizeC, hck, hcv]
                        omega
                      have := HE.out
                      omega
                    have hg0 := HB8.out.size
                    clear hfi
                    go_wp2_with (at_builtin; refine wpList_append_fits _ rfl _ _ 31 rfl w.heap.size 65 i0 3 Try.underlying31 hi hz1 w.heap.size k N (cellsV l) rfl (HO8.out.alloc _) ⟨w8.heap.size, 0, none⟩ 1 1 [.bool true, .string (txt ck), .string (txt cv)] rfl rfl (cell_three_new _ _ _ _ _) (by intro u hu; simp at hu; rcases hu with rfl | rfl | rfl <;> rfl) (by omega) ?_)
                    intro w9 hown9 hgr9
                    have HB9 := (show Hid (Below w.heap.size w w9) from below_grown (HB8.out.alloc HB8.out.size _) hgr9)
                    have HO9 : Hid (w9.ownsRow w.heap.size 65 3 (.slice (some ⟨w.heap.size, 0, none⟩) (k + 1) N) (k + 1) (cellsV (l ++ [⟨true, ck, cv⟩]))) := by
                      rw [HCK.out]
                      exact hown9
                    clear hown9 hgr9
                    go_wp2_with fail
                    go_roundw
                    case rel =>
                      have hl1 : (l ++ [(⟨true, ck, cv⟩ : Cl)]).length = k + 1 := by rw [List.length_append, hkl.out]; rfl
                      exact ⟨l ++ [⟨true, ck, cv⟩], by omega, by rw [hl1], by rw [HSum.out], by rw [hl1]; simp, HSF2.out, by rw [hl1]; exact HO9.out, HB9.out⟩
                    case measure => first | omega | (simp only [intOf]; omega)
            · have g2 : ((bg : Int) + (sz : Int) != (E : Int)) = true := by simp; omega
              have g2' : ¬ (bg : Int) + (sz : Int) = (E : Int) := by omega
              go_wp2
              refine bodyPost_ret (v := .tuple #[.slice none 0 0, .bool false]) (by simp [results, Try.results46, go_sem]) rfl (ret46_no HBd.out)
      · obtain rfl : k = N := by omega
        have HSC : Hid (SlC wr (some ⟨w.heap.size, 0, none⟩) l) := by
          have h1 := HOr.out
          rw [← hkl.out] at h1
          have := (slC_of_own (l := l) h1).1
          exact this
        obtain ⟨T, hT⟩ : ∃ T, Hid ((trimL l).length = T) := ⟨_, (show Hid _ from rfl)⟩
        have HTR : Hid (Calls Try.prog 61 #[.slice (some ⟨w.heap.size, 0, none⟩) k k] wr fun e w' => e = .returned (.slice (some ⟨w.heap.size, 0, none⟩) T k) ∧ w' = wr) := by
          have := trimmed_any (some ⟨w.heap.size, 0, none⟩) k l wr HSC.out (by have := hkl.out; omega) (by have := hkl.out; omega)
          rw [hkl.out, hT.out] at this
          exact this
        obtain ⟨m, hm⟩ : ∃ m, m = 16 + 4 * k := ⟨_, rfl⟩
        have hmE : m ≤ E := by omega
        obtain ⟨gp, hgp⟩ : ∃ gp, (b.drop m).take (E - m) = gp := ⟨_, rfl⟩
        have hgpl : gp.length = E - m := by rw [← hgp, List.length_take, List.length_drop, HBl.out]; omega
        obtain ⟨z, hz⟩ : ∃ z, gp.all (· == 0) = z := ⟨_, rfl⟩
        have q1 : (m : Int) ≤ (E : Int) := by omega
        have q2 : (E : Int) ≤ (C : Int) := by omega
        have q3 : ¬ C = m := by omega
        have q4 : ¬ C ≤ m := by omega
        have q5 : m ≤ E := hmE
        have q6 : E ≤ C := by omega
        have q7 : ¬ C - m = 0 := by omega
        have HNO : Hid (Calls Try.prog 43 #[.slice (some ⟨g, o + m, none⟩) (E - m) (C - m)] wr fun e w' => e = .returned (.bool z) ∧ w' = wr) := by
          have hsub := (HS.out.below HBr.out).sub m (E - m)
          rw [hgp] at hsub
          have := noughts_any (some ⟨g, o + m, none⟩) (C - m) gp wr hsub (by omega)
          rw [hgpl, hz] at this
          exact this
        have HTold : Hid (T = k → z = true → Told46 b true) := fun h1 h2 _ => by
          have hlk := hkl.out
          have hlen2 : E - m = 496 - 4 * l.length - sumC l := by have := HE.out; omega
          refine ⟨l, by rw [hlk]; exact HSF.out, by omega, trim_len l (by rw [hT.out, hlk]; exact h1), ?_, by rw [HNc.out, hlk]⟩
          rw [← hlen2, hlk, ← hm, hgp]
          have := all_zero gp (by rw [hz]; exact h2)
          rw [hgpl] at this
          exact this
        have hm' : (16 : Int) + 4 * (k : Int) = (m : Int) := by omega
        rw [hm']
        clear hm hm' hgp hz hgpl
        go_wp2_with fail
        refine Calls.mono HTR.out ?_
        rintro e wx ⟨rfl, hw⟩
        obtain rfl := hw.symm
        by_cases hTk : T = k
        · have HTd := (show Hid (z = true → Told46 b true) from HTold.out hTk)
          clear HTold
          subst hTk
          go_wp2_with fail
          refine Calls.mono HNO.out ?_
          rintro e wx ⟨rfl, hw⟩
          obtain rfl := hw.symm
          go_wp2
          refine bodyPost_ret (v := .tuple #[.slice (some ⟨w.heap.size, 0, none⟩) T T, .bool z]) (by simp [results, Try.results46, go_sem]) rfl ⟨_, z, rfl, HBr.out, fun h => ?_⟩
          exact HTd.out h rfl
        · have hTk2 : ((T : Int) == (k : Int)) = false := by simp; omega
          go_wp2
          refine bodyPost_ret (v := .tuple #[.slice (some ⟨w.heap.size, 0, none⟩) k k, .bool false]) (by simp [results, Try.results46, go_sem]) rfl (ret46_no HBr.out)
  · go_enter Try.func46, Try.ntmps46
    go_wp2_with fail
    refine Calls.mono s14.out ?_
    rintro e w1 ⟨rfl, hw⟩
    obtain rfl := hw.symm
    clear s14
    go_wp2
    refine bodyPost_ret (v := .tuple #[.slice none 0 0, .bool false]) (by simp [results, Try.results46, go_sem]) rfl (ret46_no (Below.refl _ _))
end Go.Proofs.Ytoahcihhpimmgaa
