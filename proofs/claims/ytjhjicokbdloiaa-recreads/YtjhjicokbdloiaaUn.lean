/-
  The walk of Unframe.
-/
import Derived.Test.YtjhjicokbdloiaaDw
import Derived.Test.YtjhjicokbdloiaaFr
namespace Go.Proofs.Ytjhjicokbdloiaa
open Go.RowKit

/-- What some bytes are as a frame: the record, how many bytes the frame has, the error. -/
def unf (l : List UInt8) : Rc × Nat × Int :=
  if l.length < 2 then (Rc.zero, 0, 4) else
    if l.length < leV (l.take 2) + 6 then (Rc.zero, 0, 4) else
      if (openB (l.take (leV (l.take 2) + 6))).2 = 0 then
        (decR ((openB (l.take (leV (l.take 2) + 6))).1.drop 2), if decK ((openB (l.take (leV (l.take 2) + 6))).1.drop 2) then leV (l.take 2) + 6 else 0, decE ((openB (l.take (leV (l.take 2) + 6))).1.drop 2))
      else (Rc.zero, 0, (openB (l.take (leV (l.take 2) + 6))).2)

theorem openB_length (l : List UInt8) (h : (openB l).2 = 0) : (openB l).1.length + 4 = l.length := by
  unfold openB at *
  split at h
  · simp at h
  · rw [if_neg (by assumption)]
    split at h
    · rw [if_pos (by assumption)]
      simp
      omega
    · simp at h

theorem zero_cells (w : World) (o : Obj) (w' : World) (hb : Below (w.alloc o).heap.size (w.alloc o) w') : w'.heap[w.heap.size]? = some o := box_kept hb

set_option maxRecDepth 20000 in
set_option maxHeartbeats 1000000 in
theorem unframe_any (a : Option Addr) (c : Nat) (l : List UInt8) (w : World) (hsl : SlB w a l) (hl : l.length ≤ 1000000000) (hlc : l.length ≤ c) (hnil : a = none → c = 0) :
    Calls Try.prog 20 #[.slice a l.length c] w fun e w' => ∃ ta tc da dc, e = .returned (.tuple #[recV (unf l).1 ta tc da dc, .int .i64 ((unf l).2.1 : Nat), .int .i64 (unf l).2.2]) ∧
      w'.ownsRow w.heap.size 71 3 (.slice ta (unf l).1.txns.length tc) (unf l).1.txns.length (txsC (unf l).1.txns) ∧ w'.ownsRow w.heap.size 73 2 (.slice da (unf l).1.dirty.length dc) (unf l).1.dirty.length (disC (unf l).1.dirty) ∧ Below w.heap.size w w' := by
  have HB : Hid (Below w.heap.size w (w.alloc (.cells #[.int .i64 0, .int .u64 0, .int .i64 0, .int .u64 0, .int .u64 0, .int .i64 0, .int .i64 0, .string ⟨#[]⟩, .string ⟨#[]⟩, .string ⟨#[]⟩, .slice none 0 0, .slice none 0 0] 31))) := (Below.refl _ _).alloc (Nat.le_refl _) _
  by_cases h2 : l.length < 2
  · have HU : Hid (unf l = (Rc.zero, 0, 4)) := by show _ = _; unfold unf; rw [if_pos h2]
    have h2' : (l.length : Int) < 2 := by omega
    clear h2 hsl hlc hnil
    go_enter Try.func20, Try.ntmps20
    go_wp2
    refine bodyPost_ret (v := .tuple #[.agg #[.int .i64 0, .int .u64 0, .int .i64 0, .int .u64 0, .int .u64 0, .int .i64 0, .int .i64 0, .string ⟨#[]⟩, .string ⟨#[]⟩, .string ⟨#[]⟩, .slice none 0 0, .slice none 0 0], .int .i64 0, .int .i64 4]) (by simp [results, Try.results20, go_sem]) rfl ⟨none, 0, none, 0, ?_⟩
    rw [HU.out]
    exact ⟨rfl, World.ownsRow_nil _ _ _ _, World.ownsRow_nil _ _ _ _, HB.out⟩
  · obtain ⟨n2, Hn2⟩ : ∃ n, Hid (n = leV (l.take 2)) := ⟨_, rfl⟩
    have hn2 : n2 < 65536 := by rw [Hn2.out]; exact leV_two l
    have ht2 : (l.take 2).length = 2 := by simp; omega
    have hrN : rN 2 (l.take 2, 0) = n2 := by
      unfold rN takeN
      rw [if_neg (by simp), if_neg (show ¬ (l.take 2).length < 2 by omega), Hn2.out, List.take_take]
      rfl
    have HRd := (show Hid _ from read_any a c (l.take 2) _ ((hsl.below HB.out).take 2) (by omega) hnil)
    rw [ht2] at HRd
    have HSL : Hid (SlB w a l) := hsl
    have h2' : ¬ ((l.length : Int) < 2) := by omega
    have hc2 : (2 : Int) ≤ (c : Int) := by omega
    clear h2 hsl ht2
    go_enter Try.func20, Try.ntmps20
    go_wp2_with fail
    refine Calls.mono HRd.out ?_
    rintro e w1 ⟨p, a1, c1, rfl, hr1, hb1⟩
    have HR2 := (show Hid _ from r2_any _ p (l.take 2, 0) w1 ⟨a1, c1, hr1⟩)
    rw [hrN] at HR2
    have hB1 := below_on HB.out hb1
    have hp1 := lt_of_block hr1.blk
    have hbase := hr1.base
    simp only [World.size_alloc] at hbase
    have hn01 : w1.heap[w.heap.size]? = some (.cells #[.int .i64 0, .int .u64 0, .int .i64 0, .int .u64 0, .int .u64 0, .int .i64 0, .int .i64 0, .string ⟨#[]⟩, .string ⟨#[]⟩, .string ⟨#[]⟩, .slice none 0 0, .slice none 0 0] 31) := box_kept hb1
    have hz1 : w.heap.size < w1.heap.size := lt_of_block hn01
    clear HRd hr1 hrN
    go_wp2_with fail
    refine Calls.mono HR2.out ?_
    rintro e w2 ⟨rfl, _, hg2⟩
    have hb12 : Below (w.heap.size + 1) w1 w2 := (Below.refl _ _).grown hg2 (by omega) (fun k hk => by simp at hk; omega)
    have HB2 : Hid (Below w.heap.size w w2) := hB1.trans (hb12.mono (by omega))
    have hn02 : w2.heap[w.heap.size]? = some (.cells #[.int .i64 0, .int .u64 0, .int .i64 0, .int .u64 0, .int .u64 0, .int .i64 0, .int .i64 0, .string ⟨#[]⟩, .string ⟨#[]⟩, .string ⟨#[]⟩, .slice none 0 0, .slice none 0 0] 31) := by rw [hb12.block _ (by omega)]; exact hn01
    clear HR2 hg2 hb12 hn01 hB1 hb1
    go_wp2_with fail
    refine (frameSize_any n2 _ (by omega)).mono ?_
    rintro e w3 ⟨rfl, hw3⟩
    obtain rfl := hw3.symm
    clear hw3
    obtain ⟨⟨m0, m1, m2, m3, m4, m5, m6, m7, m8, m9, m10, m11⟩, hf⟩ := rw_cells hn02
    have hz2 : w.heap.size < w2.heap.size := lt_of_block hn02
    by_cases h6 : l.length < n2 + 6
    · have HU : Hid (unf l = (Rc.zero, 0, 4)) := by show _ = _; unfold unf; rw [if_neg (by omega), if_pos (by rw [← Hn2.out]; exact h6)]
      have h6' : (l.length : Int) < (n2 + 6 : Nat) := by omega
      have HF : Hid (Below w.heap.size w (put12 w2 w.heap.size (.int .i64 0) (.int .u64 0) (.int .i64 0) (.int .u64 0) (.int .u64 0) (.int .i64 0) (.int .i64 0) (.string ⟨#[]⟩) (.string ⟨#[]⟩) (.string ⟨#[]⟩) (.slice none 0 0) (.slice none 0 0))) := set12_below _ _ _ _ _ _ _ _ _ _ _ _ HB2.out (Nat.le_refl _)
      clear h6
      go_wp2
      refine bodyPost_ret (v := .tuple #[.agg #[.int .i64 0, .int .u64 0, .int .i64 0, .int .u64 0, .int .u64 0, .int .i64 0, .int .i64 0, .string ⟨#[]⟩, .string ⟨#[]⟩, .string ⟨#[]⟩, .slice none 0 0, .slice none 0 0], .int .i64 0, .int .i64 4]) (by simp [results, Try.results20, go_sem, m0, m1, m2, m3, m4, m5, m6, m7, m8, m9, m10, m11]) rfl ⟨none, 0, none, 0, ?_⟩
      rw [HU.out]
      exact ⟨rfl, World.ownsRow_nil _ _ _ _, World.ownsRow_nil _ _ _ _, HF.out⟩
    · have hX : (l.take (n2 + 6)).length = n2 + 6 := by simp; omega
      have HOp := (show Hid _ from open_any a c (l.take (n2 + 6)) w2 ((HSL.out.below HB2.out).take (n2 + 6)) (by omega) (by omega))
      have HU0 : Hid (unf l = if (openB (l.take (n2 + 6))).2 = 0 then (decR ((openB (l.take (n2 + 6))).1.drop 2), if decK ((openB (l.take (n2 + 6))).1.drop 2) then n2 + 6 else 0, decE ((openB (l.take (n2 + 6))).1.drop 2)) else (Rc.zero, 0, (openB (l.take (n2 + 6))).2)) := by
        show _ = _
        unfold unf
        rw [if_neg (by omega), ← Hn2.out, if_neg h6]
      have hol := openB_length (l.take (n2 + 6))
      rw [hX] at HOp hol
      have h6' : ¬ ((l.length : Int) < (n2 + 6 : Nat)) := by omega
      have hc6 : ((n2 + 6 : Nat) : Int) ≤ (c : Int) := by omega
      have h06 : (0 : Int) ≤ ((n2 + 6 : Nat) : Int) := by omega
      generalize openB (l.take (n2 + 6)) = ob at *
      obtain ⟨x, er⟩ := ob
      simp only at HOp HU0 hol
      clear h6 hX
      go_wp2_with fail
      refine Calls.mono HOp.out ?_
      rintro e w4 ⟨r4, rfl, hown4, hb4⟩
      have HB4 : Hid (Below w.heap.size w w4) := below_on HB2.out hb4
      have hn04 : w4.heap[w.heap.size]? = some (.cells #[.int .i64 0, .int .u64 0, .int .i64 0, .int .u64 0, .int .u64 0, .int .i64 0, .int .i64 0, .string ⟨#[]⟩, .string ⟨#[]⟩, .string ⟨#[]⟩, .slice none 0 0, .slice none 0 0] 31) := by rw [hb4.block _ hz2]; exact hn02
      have hz24 : w2.heap.size ≤ w4.heap.size := hb4.size
      clear m0 m1 m2 m3 m4 m5 m6 m7 m8 m9 m10 m11 hf HOp hn02
      obtain ⟨⟨m0, m1, m2, m3, m4, m5, m6, m7, m8, m9, m10, m11⟩, hf⟩ := rw_cells hn04
      have hz4 : w.heap.size < w4.heap.size := by omega
      by_cases her : er = 0
      · obtain ⟨ax, cx, rfl⟩ := ownsRow_shape hown4
        have hxl : x.length = n2 + 2 := by have := hol her; omega
        obtain ⟨g, rfl, hcx1, hcx2⟩ : ∃ g, ax = some ⟨g, 0, none⟩ ∧ x.length ≤ cx ∧ cx ≤ maxLen := by
          rcases hown4.2 with ⟨h1, h0⟩ | ⟨g, cap, cur, h1, _, _, h3, h4, _⟩
          · omega
          · simp at h1
            obtain ⟨rfl, rfl⟩ := h1
            exact ⟨g, rfl, h3, h4⟩
        obtain ⟨hslx, _, _⟩ := slB_of_own hown4
        have hg4 : g < w4.heap.size := (own_ge hown4 g rfl).2
        have hU : Hid (unf l = (decR (x.drop 2), if decK (x.drop 2) then n2 + 6 else 0, decE (x.drop 2))) := by show _ = _; rw [HU0.out, if_pos her]
        have hdl : (x.drop 2).length = n2 := by simp; omega
        have HDec : Hid (∀ a' c', SlB w4 a' (x.drop 2) → (a' = none → c' = 0) → Calls Try.prog 18 #[.slice a' n2 c'] w4 fun e w' => ∃ ta tc da dc, e = .returned (.tuple #[recV (decR (x.drop 2)) ta tc da dc, .int .i64 (decE (x.drop 2))]) ∧
            w'.ownsRow w4.heap.size 71 3 (.slice ta (decR (x.drop 2)).txns.length tc) (decR (x.drop 2)).txns.length (txsC (decR (x.drop 2)).txns) ∧ w'.ownsRow w4.heap.size 73 2 (.slice da (decR (x.drop 2)).dirty.length dc) (decR (x.drop 2)).dirty.length (disC (decR (x.drop 2)).dirty) ∧ Below w4.heap.size w4 w') := by
          intro a' c' h1 h2
          have := decode_any a' c' (x.drop 2) w4 h1 (by omega) h2
          rwa [hdl] at this
        have HS2 : Hid (SlB w4 (some ⟨g, 2, none⟩) (x.drop 2)) := by
          have := hslx.shift' 2
          show SlB _ _ _
          simpa using this
        have hE0 : Hid (x.length = 2 → x.drop 2 = []) := fun h => by apply List.drop_eq_nil_of_le; omega
        obtain ⟨y, Hy⟩ : ∃ y, Hid (y = x.drop 2) := ⟨_, rfl⟩
        rw [← Hy.out] at HDec HS2 hU hE0 hdl
        rw [hxl]
        rw [hxl] at hcx1 hE0
        have HK : Hid (decR y = (if decK y then decR y else Rc.zero) ∧ decE y = (if decK y then 0 else 5)) := by
          show _ ∧ _
          unfold decR decE
          cases decK y <;> exact ⟨rfl, rfl⟩
        unfold maxLen at hcx2
        subst her
        clear hown4 hslx hxl HU0 hol hdl
        obtain ⟨R, HRr⟩ : ∃ z, Hid (z = decR y) := ⟨_, rfl⟩
        rw [← HRr.out] at HDec hU HK
        by_cases hcx : cx = 2
        · have hn20 : n2 = 0 := by omega
          have HCall := (show Hid _ from HDec.out (some ⟨g, 0, none⟩) 0 (by rw [hE0.out (by omega)]; exact SlB.empty) (by simp))
          subst hcx
          subst hn20
          go_wp2_with fail
          refine Calls.mono HCall.out ?_
          rintro e w5 ⟨ta, tc, da, dc, rfl, ho1, ho2, hb5⟩
          have HB5 : Hid (Below w.heap.size w w5) := below_on HB4.out hb5
          have hn05 : w5.heap[w.heap.size]? = some (.cells #[.int .i64 0, .int .u64 0, .int .i64 0, .int .u64 0, .int .u64 0, .int .i64 0, .int .i64 0, .string ⟨#[]⟩, .string ⟨#[]⟩, .string ⟨#[]⟩, .slice none 0 0, .slice none 0 0] 31) := by
            rw [hb5.block _ hz4]
            exact hn04
          have hz5 : w.heap.size < w5.heap.size := by have := hb5.size; omega
          have HO1 := (show Hid _ from ho1)
          have HO2 := (show Hid _ from ho2)
          clear m0 m1 m2 m3 m4 m5 m6 m7 m8 m9 m10 m11 hf hn04 HCall HDec hb5 ho1 ho2
          obtain ⟨⟨m0, m1, m2, m3, m4, m5, m6, m7, m8, m9, m10, m11⟩, hf⟩ := rw_cells hn05
          cases hk : decK y
          · have hD : decE y = 5 := by rw [HK.out.2, hk]; rfl
            have hRz : Hid (R = Rc.zero) := by show _ = _; rw [HK.out.1, hk]; rfl
            have HF0 := set12_below (.int .i64 0) (.int .u64 0) (.int .i64 0) (.int .u64 0) (.int .u64 0) (.int .i64 0) (.int .i64 0) (.string ⟨#[]⟩) (.string ⟨#[]⟩) (.string ⟨#[]⟩) (.slice none 0 0) (.slice none 0 0) HB5.out (Nat.le_refl _)
            have HF := (show Hid _ from HF0.alloc HF0.size (.cells (recC R ta tc da dc) 31))
            clear HF0
            have hU2 : Hid (unf l = (Rc.zero, 0, 5)) := by show _ = _; rw [hU.out, hk, hD, hRz.out]; rfl
            clear hk
            go_wp2
            refine bodyPost_ret (v := .tuple #[.agg #[.int .i64 0, .int .u64 0, .int .i64 0, .int .u64 0, .int .u64 0, .int .i64 0, .int .i64 0, .string ⟨#[]⟩, .string ⟨#[]⟩, .string ⟨#[]⟩, .slice none 0 0, .slice none 0 0], .int .i64 0, .int .i64 5]) (by simp [results, Try.results20, go_sem, m0, m1, m2, m3, m4, m5, m6, m7, m8, m9, m10, m11, hz5]) rfl ⟨none, 0, none, 0, ?_⟩
            rw [hU2.out]
            exact ⟨rfl, World.ownsRow_nil _ _ _ _, World.ownsRow_nil _ _ _ _, HF.out⟩
          · have hD : decE y = 0 := by rw [HK.out.2, hk]; rfl
            have HF0 := set12_below (.int .i64 R.kind) (.int .u64 (R.lsn : Int)) (.int .i64 R.txn) (.int .u64 (R.prev : Int)) (.int .u64 (R.undo : Int)) (.int .i64 R.page) (.int .i64 R.ak) (.string (txt R.key)) (.string (txt R.old)) (.string (txt R.new)) (.slice ta R.txns.length tc) (.slice da R.dirty.length dc) HB5.out (Nat.le_refl _)
            have HF := (show Hid _ from HF0.alloc HF0.size (.cells (recC R ta tc da dc) 31))
            clear HF0
            have HG1 := (show Hid _ from (ownsRow_base (set12_own (n := w.heap.size) (.int .i64 R.kind) (.int .u64 (R.lsn : Int)) (.int .i64 R.txn) (.int .u64 (R.prev : Int)) (.int .u64 (R.undo : Int)) (.int .i64 R.page) (.int .i64 R.ak) (.string (txt R.key)) (.string (txt R.old)) (.string (txt R.new)) (.slice ta R.txns.length tc) (.slice da R.dirty.length dc) HO1.out (by omega)) (show w.heap.size ≤ w4.heap.size by omega)).alloc (.cells (recC R ta tc da dc) 31))
            have HG2 := (show Hid _ from (ownsRow_base (set12_own (n := w.heap.size) (.int .i64 R.kind) (.int .u64 (R.lsn : Int)) (.int .i64 R.txn) (.int .u64 (R.prev : Int)) (.int .u64 (R.undo : Int)) (.int .i64 R.page) (.int .i64 R.ak) (.string (txt R.key)) (.string (txt R.old)) (.string (txt R.new)) (.slice ta R.txns.length tc) (.slice da R.dirty.length dc) HO2.out (by omega)) (show w.heap.size ≤ w4.heap.size by omega)).alloc (.cells (recC R ta tc da dc) 31))
            have hU2 : Hid (unf l = (R, 0 + 6, 0)) := by show _ = _; rw [hU.out, hk, hD]; rfl
            clear hk
            go_wp2
            refine bodyPost_ret (v := .tuple #[recV R ta tc da dc, .int .i64 ((0 + 6 : Nat) : Int), .int .i64 0]) (by simp [results, Try.results20, go_sem, m0, m1, m2, m3, m4, m5, m6, m7, m8, m9, m10, m11, hz5]) rfl ⟨ta, tc, da, dc, ?_⟩
            rw [hU2.out]
            exact ⟨rfl, HG1.out, HG2.out, HF.out⟩
        · have HCall := (show Hid _ from HDec.out (some ⟨g, 2, none⟩) (cx - 2) HS2.out (by simp))
          go_wp2_with fail
          refine Calls.mono HCall.out ?_
          rintro e w5 ⟨ta, tc, da, dc, rfl, ho1, ho2, hb5⟩
          have HB5 : Hid (Below w.heap.size w w5) := below_on HB4.out hb5
          have hn05 : w5.heap[w.heap.size]? = some (.cells #[.int .i64 0, .int .u64 0, .int .i64 0, .int .u64 0, .int .u64 0, .int .i64 0, .int .i64 0, .string ⟨#[]⟩, .string ⟨#[]⟩, .string ⟨#[]⟩, .slice none 0 0, .slice none 0 0] 31) := by
            rw [hb5.block _ hz4]
            exact hn04
          have hz5 : w.heap.size < w5.heap.size := by have := hb5.size; omega
          have HO1 := (show Hid _ from ho1)
          have HO2 := (show Hid _ from ho2)
          clear m0 m1 m2 m3 m4 m5 m6 m7 m8 m9 m10 m11 hf hn04 HCall HDec hb5 ho1 ho2
          obtain ⟨⟨m0, m1, m2, m3, m4, m5, m6, m7, m8, m9, m10, m11⟩, hf⟩ := rw_cells hn05
          cases hk : decK y
          · have hD : decE y = 5 := by rw [HK.out.2, hk]; rfl
            have hRz : Hid (R = Rc.zero) := by show _ = _; rw [HK.out.1, hk]; rfl
            have HF0 := set12_below (.int .i64 0) (.int .u64 0) (.int .i64 0) (.int .u64 0) (.int .u64 0) (.int .i64 0) (.int .i64 0) (.string ⟨#[]⟩) (.string ⟨#[]⟩) (.string ⟨#[]⟩) (.slice none 0 0) (.slice none 0 0) HB5.out (Nat.le_refl _)
            have HF := (show Hid _ from HF0.alloc HF0.size (.cells (recC R ta tc da dc) 31))
            clear HF0
            have hU2 : Hid (unf l = (Rc.zero, 0, 5)) := by show _ = _; rw [hU.out, hk, hD, hRz.out]; rfl
            clear hk
            go_wp2
            refine bodyPost_ret (v := .tuple #[.agg #[.int .i64 0, .int .u64 0, .int .i64 0, .int .u64 0, .int .u64 0, .int .i64 0, .int .i64 0, .string ⟨#[]⟩, .string ⟨#[]⟩, .string ⟨#[]⟩, .slice none 0 0, .slice none 0 0], .int .i64 0, .int .i64 5]) (by simp [results, Try.results20, go_sem, m0, m1, m2, m3, m4, m5, m6, m7, m8, m9, m10, m11, hz5]) rfl ⟨none, 0, none, 0, ?_⟩
            rw [hU2.out]
            exact ⟨rfl, World.ownsRow_nil _ _ _ _, World.ownsRow_nil _ _ _ _, HF.out⟩
          · have hD : decE y = 0 := by rw [HK.out.2, hk]; rfl
            have HF0 := set12_below (.int .i64 R.kind) (.int .u64 (R.lsn : Int)) (.int .i64 R.txn) (.int .u64 (R.prev : Int)) (.int .u64 (R.undo : Int)) (.int .i64 R.page) (.int .i64 R.ak) (.string (txt R.key)) (.string (txt R.old)) (.string (txt R.new)) (.slice ta R.txns.length tc) (.slice da R.dirty.length dc) HB5.out (Nat.le_refl _)
            have HF := (show Hid _ from HF0.alloc HF0.size (.cells (recC R ta tc da dc) 31))
            clear HF0
            have HG1 := (show Hid _ from (ownsRow_base (set12_own (n := w.heap.size) (.int .i64 R.kind) (.int .u64 (R.lsn : Int)) (.int .i64 R.txn) (.int .u64 (R.prev : Int)) (.int .u64 (R.undo : Int)) (.int .i64 R.page) (.int .i64 R.ak) (.string (txt R.key)) (.string (txt R.old)) (.string (txt R.new)) (.slice ta R.txns.length tc) (.slice da R.dirty.length dc) HO1.out (by omega)) (show w.heap.size ≤ w4.heap.size by omega)).alloc (.cells (recC R ta tc da dc) 31))
            have HG2 := (show Hid _ from (ownsRow_base (set12_own (n := w.heap.size) (.int .i64 R.kind) (.int .u64 (R.lsn : Int)) (.int .i64 R.txn) (.int .u64 (R.prev : Int)) (.int .u64 (R.undo : Int)) (.int .i64 R.page) (.int .i64 R.ak) (.string (txt R.key)) (.string (txt R.old)) (.string (txt R.new)) (.slice ta R.txns.length tc) (.slice da R.dirty.length dc) HO2.out (by omega)) (show w.heap.size ≤ w4.heap.size by omega)).alloc (.cells (recC R ta tc da dc) 31))
            have hU2 : Hid (unf l = (R, n2 + 6, 0)) := by show _ = _; rw [hU.out, hk, hD]; rfl
            clear hk
            go_wp2
            refine bodyPost_ret (v := .tuple #[recV R ta tc da dc, .int .i64 ((n2 + 6 : Nat) : Int), .int .i64 0]) (by simp [results, Try.results20, go_sem, m0, m1, m2, m3, m4, m5, m6, m7, m8, m9, m10, m11, hz5]) rfl ⟨ta, tc, da, dc, ?_⟩
            rw [hU2.out]
            exact ⟨rfl, HG1.out, HG2.out, HF.out⟩
      · have hU : Hid (unf l = (Rc.zero, 0, er)) := by show _ = _; rw [HU0.out, if_neg her]
        have her' : (er != 0) = true := by simp [her]
        obtain ⟨ax, cx, rfl⟩ := ownsRow_shape hown4
        clear hown4 her hol HU0
        have HF : Hid (Below w.heap.size w (put12 w4 w.heap.size (.int .i64 0) (.int .u64 0) (.int .i64 0) (.int .u64 0) (.int .u64 0) (.int .i64 0) (.int .i64 0) (.string ⟨#[]⟩) (.string ⟨#[]⟩) (.string ⟨#[]⟩) (.slice none 0 0) (.slice none 0 0))) := set12_below _ _ _ _ _ _ _ _ _ _ _ _ HB4.out (Nat.le_refl _)
        go_wp2
        refine bodyPost_ret (v := .tuple #[.agg #[.int .i64 0, .int .u64 0, .int .i64 0, .int .u64 0, .int .u64 0, .int .i64 0, .int .i64 0, .string ⟨#[]⟩, .string ⟨#[]⟩, .string ⟨#[]⟩, .slice none 0 0, .slice none 0 0], .int .i64 0, .int .i64 er]) (by simp [results, Try.results20, go_sem, m0, m1, m2, m3, m4, m5, m6, m7, m8, m9, m10, m11]) rfl ⟨none, 0, none, 0, ?_⟩
        rw [hU.out]
        exact ⟨rfl, World.ownsRow_nil _ _ _ _, World.ownsRow_nil _ _ _ _, HF.out⟩

end Go.Proofs.Ytjhjicokbdloiaa
