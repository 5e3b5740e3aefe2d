/-
  The Writer's walks, with what they keep besides: every block but the Writer's own, and rows of bytes.
-/
import Derived.Test.YticadfaclnimgaaRows
import Derived.Test.YticadfaclnimgaaWr
namespace Go.Proofs.Yticadfaclnimgaa
open Go.RowKit

/-- Every block but p, and but rows of bytes, is as it was. -/
structure KeptX (p : Nat) (w w' : World) : Prop where
  size : w.heap.size ≤ w'.heap.size
  keep : ∀ b o, w.heap[b]? = some o → b ≠ p → (∀ cs fz, o ≠ .cells cs 5 fz) → w'.heap[b]? = some o

theorem KeptX.refl (p : Nat) (w : World) : KeptX p w w := ⟨Nat.le_refl _, fun _ _ h _ _ => h⟩
theorem KeptX.trans {p : Nat} {w w1 w2 : World} (h : KeptX p w w1) (k : KeptX p w1 w2) : KeptX p w w2 :=
  ⟨Nat.le_trans h.size k.size, fun b o h0 h1 h2 => k.keep b o (h.keep b o h0 h1 h2) h1 h2⟩
theorem KeptX.alloc {p : Nat} {w w1 : World} (h : KeptX p w w1) (o : Obj) : KeptX p w (w1.alloc o) :=
  ⟨by have := h.size; simp; omega, fun b o' h0 h1 h2 => by
    have := h.keep b o' h0 h1 h2
    rw [Below.heap_alloc _ _ _ (lt_of_block this)]
    exact this⟩
theorem KeptX.drew {p : Nat} {w w1 : World} (h : KeptX p w w1) : KeptX p w w1.drew := ⟨h.size, h.keep⟩
theorem KeptX.set {p q : Nat} {w w1 : World} (h : KeptX p w w1) (u : Value) : KeptX p w (w1.setCell ⟨p, q, none⟩ u) :=
  ⟨by have := h.size; simpa [World.setCell] using this, fun b o h0 h1 h2 => by
    rw [Below.heap_setCell _ _ _ _ (by simpa using h1)]
    exact h.keep b o h0 h1 h2⟩
theorem KeptX.grown {p B n : Nat} {w w1 w2 : World} {v : Value} {xs : List Value} (h : KeptX p w w1) (hg : w1.grownBy w2 v.ownBlock) (hown : w1.ownsRow B 5 1 v n xs) : KeptX p w w2 :=
  ⟨Nat.le_trans h.size hg.size, fun b o h0 h1 h2 => by
    have hb := h.keep b o h0 h1 h2
    rw [hg.block b (lt_of_block hb) (fun e => ?_)]
    · exact hb
    · rcases hown.2 with ⟨rfl, _⟩ | ⟨g, cap, cur, rfl, _, hh, _⟩
      · simp [Value.ownBlock] at e
      · simp [Value.ownBlock] at e
        subst e
        rw [hb] at hh
        simp only [Option.some.injEq] at hh
        exact h2 _ _ hh⟩
theorem KeptX.below {p : Nat} {w w1 w2 : World} (h : KeptX p w w1) (hb : Below w1.heap.size w1 w2) : KeptX p w w2 :=
  ⟨Nat.le_trans h.size hb.size, fun b o h0 h1 h2 => by
    have := h.keep b o h0 h1 h2
    rw [hb.block b (lt_of_block this)]
    exact this⟩

set_option maxHeartbeats 400000 in
theorem wnumber_x (B p : Nat) (v : Value) (l : List UInt8) (n : Int) (size : Nat) (w : World) (hw : WOk w B p v l) (hn0 : 0 ≤ n) (hs : size ≤ 8) (hl : l.length ≤ 1000000000) :
    Calls Try.prog 100 #[.pointer (some ⟨p, 0, none⟩), .int .u64 n, .int .i64 size] w fun e w' => e = .returned (.tuple #[]) ∧ (∃ v', WOk w' B p v' (l ++ leB n.toNat size)) ∧ Below B w w' ∧ KeptX p w w' := by
  obtain ⟨i0, hi, hz0, hz1, hz2⟩ := info_parts Try.info5
  go_enter Try.func100, Try.ntmps100
  go_wp2
  go_loopw [10] (fun i wr => ∃ k : Nat, k ≤ size ∧ i = .int .i64 k ∧ (∃ v', WOk wr B p v' (l ++ leB n.toNat k)) ∧ Below B w wr ∧ KeptX p w wr) (fun i _ => size - (intOf i).toNat)
  case atStart => exact ⟨0, Nat.zero_le _, rfl, ⟨v, by simpa [leB] using hw⟩, Below.refl _ _, KeptX.refl _ _⟩
  case round =>
    obtain ⟨k, hk, rfl, ⟨v1, hok⟩, hbel, hkx⟩ := hrel
    have HKX : Hid (KeptX p w wr) := hkx
    clear hkx
    by_cases hlt : k < size
    · have hlen : (l ++ leB n.toNat k).length ≤ l.length + 8 := by simp [leB_length]; omega
      have hL : Hid (l ++ leB n.toNat (k + 1) = (l ++ leB n.toNat k) ++ [UInt8.ofNat (n.toNat / 256 ^ k)]) := by simp [Hid, leB]
      generalize l ++ leB n.toNat k = L at *
      have hc := cell_of_one hok.blk
      have hf := free_of_one hok.blk
      have hpl := lt_of_block hok.blk
      obtain ⟨ax, cx, rfl⟩ := ownsRow_shape hok.own
      have hwr : IntKind.i64.wrap (8 * (k : Int)) = 8 * (k : Int) := by simp [IntKind.wrap, IntKind.bits, IntKind.signed]; omega
      have hk0 : 0 ≤ 8 * (k : Int) := by omega
      have hk1 : 8 * (k : Int) ≤ 64 := by omega
      go_wp2
      go_region_law (refine step_append_own rfl (.tmp 18) (.tmp 24) 99 rfl B 5 i0 (.int .u8 0) 1 1 Try.underlying99 hi hz0 hz1 hz2 rfl (by decide) _ _ _ rfl (hok.own.alloc _).drew ⟨wr.heap.size, 0, none⟩ 1 1 [_] rfl rfl (cell_one_new _ _ _) (by intro u hu; simp at hu; subst hu; rfl) (by unfold maxLen; omega) (by omega) (by have := lt_of_block hok.blk; have := hok.base; simp; omega) ?_; intro v' w1 hown' hgrow; obtain ⟨ay, cy, rfl⟩ := ownsRow_shape hown'; have hbl := hok.grown_blk ((Below.refl _ _).alloc (Nat.le_refl _) _).drew hgrow; have hc1 := cell_of_one hbl; have hf1 := free_of_one hbl)
      all_goals
        have R := hok.put ((Below.refl _ _).alloc (Nat.le_refl _) _).drew hgrow hown' (M := [UInt8.ofNat (n.toNat / 256 ^ k)]) (by rw [byte_at n k hn0]; rfl) rfl
        have R2 := hok.put_below (u := .slice ay (L.length + 1) cy) hbel ((Below.refl _ _).alloc (Nat.le_refl _) _).drew hgrow
        have R3 : Hid (KeptX p w (w1.setCell ⟨p, 0, none⟩ (.slice ay (L.length + 1) cy))) := ((HKX.out.alloc _).drew.grown hgrow ((hok.own.alloc _).drew)).set _
        clear hown' hgrow hbl hc1 hf1 hc hf
        go_wp2
        go_roundw
        case rel => exact ⟨k + 1, by omega, by go_num, ⟨_, by rw [hL.out]; exact R⟩, R2, R3.out⟩
        case measure => simp [intOf]; omega
    · go_wp2
      go_end0
      obtain rfl : k = size := by omega
      exact ⟨rfl, ⟨v1, hok⟩, hbel, HKX.out⟩

theorem wbyte_x (B p : Nat) (v : Value) (l : List UInt8) (n : Int) (w : World) (hw : WOk w B p v l) (hn0 : 0 ≤ n) (hn1 : n ≤ 255) (hl : l.length ≤ 1000000000) :
    Calls Try.prog 88 #[.pointer (some ⟨p, 0, none⟩), .int .u8 n] w fun e w' => e = .returned (.tuple #[]) ∧ (∃ v', WOk w' B p v' (l ++ leB n.toNat 1)) ∧ Below B w w' ∧ KeptX p w w' := by
  go_enter Try.func88, Try.ntmps88
  go_wp2_with (go_at_call 100; go_must (refine (wnumber_x B p v l _ 1 _ hw (by omega) (by omega) hl).mono ?_); rintro e w' ⟨rfl, hq⟩)
  go_end0
  exact ⟨rfl, hq⟩

theorem wtwo_x (B p : Nat) (v : Value) (l : List UInt8) (n : Int) (w : World) (hw : WOk w B p v l) (hn0 : 0 ≤ n) (hn1 : n ≤ 65535) (hl : l.length ≤ 1000000000) :
    Calls Try.prog 101 #[.pointer (some ⟨p, 0, none⟩), .int .u16 n] w fun e w' => e = .returned (.tuple #[]) ∧ (∃ v', WOk w' B p v' (l ++ leB n.toNat 2)) ∧ Below B w w' ∧ KeptX p w w' := by
  go_enter Try.func101, Try.ntmps101
  go_wp2_with (go_at_call 100; go_must (refine (wnumber_x B p v l _ 2 _ hw (by omega) (by omega) hl).mono ?_); rintro e w' ⟨rfl, hq⟩)
  go_end0
  exact ⟨rfl, hq⟩

theorem wfour_x (B p : Nat) (v : Value) (l : List UInt8) (n : Int) (w : World) (hw : WOk w B p v l) (hn0 : 0 ≤ n) (hn1 : n ≤ 4294967295) (hl : l.length ≤ 1000000000) :
    Calls Try.prog 90 #[.pointer (some ⟨p, 0, none⟩), .int .u32 n] w fun e w' => e = .returned (.tuple #[]) ∧ (∃ v', WOk w' B p v' (l ++ leB n.toNat 4)) ∧ Below B w w' ∧ KeptX p w w' := by
  go_enter Try.func90, Try.ntmps90
  go_wp2_with (go_at_call 100; go_must (refine (wnumber_x B p v l _ 4 _ hw (by omega) (by omega) hl).mono ?_); rintro e w' ⟨rfl, hq⟩)
  go_end0
  exact ⟨rfl, hq⟩

theorem weight_x (B p : Nat) (v : Value) (l : List UInt8) (n : Int) (w : World) (hw : WOk w B p v l) (hn0 : 0 ≤ n) (hl : l.length ≤ 1000000000) :
    Calls Try.prog 89 #[.pointer (some ⟨p, 0, none⟩), .int .u64 n] w fun e w' => e = .returned (.tuple #[]) ∧ (∃ v', WOk w' B p v' (l ++ leB n.toNat 8)) ∧ Below B w w' ∧ KeptX p w w' := by
  go_enter Try.func89, Try.ntmps89
  go_wp2_with (go_at_call 100; go_must (refine (wnumber_x B p v l _ 8 _ hw (by omega) (by omega) hl).mono ?_); rintro e w' ⟨rfl, hq⟩)
  go_end0
  exact ⟨rfl, hq⟩

set_option maxHeartbeats 400000 in
theorem wtext_x (B p : Nat) (v : Value) (l : List UInt8) (s : ByteArray) (w : World) (hw : WOk w B p v l) (hs : s.size ≤ maxLen) (hl : l.length ≤ 900000000) :
    Calls Try.prog 102 #[.pointer (some ⟨p, 0, none⟩), .string s] w fun e w' => e = .returned (.tuple #[]) ∧ (∃ v', WOk w' B p v' (l ++ textB s)) ∧ Below B w w' ∧ KeptX p w w' := by
  unfold maxLen at hs
  obtain ⟨i0, hi, hz0, hz1, hz2⟩ := info_parts Try.info5
  go_enter Try.func102, Try.ntmps102
  by_cases hlong : 65535 < s.size
  · have hmin : min 65535 s.size = 65535 := by omega
    have hT : Hid (textB s = leB 65535 2 ++ (s.extract 0 65535).data.toList) := by
      have : (s.data.toList.take 65535).length = 65535 := by simp; omega
      unfold Hid textB
      rw [this, extract_list]
    have hsz : (s.extract 0 65535).size = 65535 := by simp; omega
    go_wp2_with fail
    refine (wtwo_x B p v l _ _ hw (by omega) (by omega) (by omega)).mono ?_
    rintro e w1 ⟨rfl, ⟨v1, hok⟩, hbel, hkx⟩
    have HKX : Hid (KeptX p w w1) := hkx
    clear hkx
    have hlen : (l ++ leB (65535 : Int).toNat 2).length = l.length + 2 := by simp [leB_length]
    have hfin : Hid (l ++ textB s = (l ++ leB (65535 : Int).toNat 2) ++ (s.extract 0 65535).data.toList) := by unfold Hid; rw [hT.out, List.append_assoc]; rfl
    generalize l ++ leB (65535 : Int).toNat 2 = L at *
    have hlen' : L.length ≤ 900000002 := by omega
    clear hlen
    obtain ⟨ax, cx, rfl⟩ := ownsRow_shape hok.own
    have hc1 := cell_of_one hok.blk
    go_wp2_with (at_builtin; go_must (refine Lib.wpList_append_own_string _ rfl (.tmp 21) (.tmp 22) 99 9 rfl B 5 i0 Try.underlying99 Try.underlying9 hi hz0 hz1 hz2 _ _ _ rfl hok.own (s.extract 0 65535) rfl (by unfold maxLen; omega) (by omega) (by have := lt_of_block hok.blk; have := hok.base; omega) ?_); intro v' w2 hown' hgrow _; rw [hsz] at hown'; obtain ⟨ay, cy, rfl⟩ := ownsRow_shape hown'; have hbl := hok.grown_blk (Below.refl _ _) hgrow; have hc2 := cell_of_one hbl; have hf2 := free_of_one hbl)
    go_end0
    exact ⟨rfl, ⟨_, by rw [hfin.out]; exact hok.put (Below.refl _ _) hgrow hown' rfl (by simp; omega)⟩, hok.put_below hbel (Below.refl _ _) hgrow, (HKX.out.grown hgrow hok.own).set _⟩
  · have hT : Hid (textB s = leB s.size 2 ++ s.data.toList) := by
      have : s.data.toList.take 65535 = s.data.toList := List.take_of_length_le (by simp; omega)
      unfold Hid textB
      rw [this]
      simp
    go_wp2_with fail
    refine (wtwo_x B p v l _ _ hw (by omega) (by omega) (by omega)).mono ?_
    rintro e w1 ⟨rfl, ⟨v1, hok⟩, hbel, hkx⟩
    have HKX : Hid (KeptX p w w1) := hkx
    clear hkx
    have hlen : (l ++ leB (s.size : Int).toNat 2).length = l.length + 2 := by simp [leB_length]
    have hfin : Hid (l ++ textB s = (l ++ leB (s.size : Int).toNat 2) ++ s.data.toList) := by unfold Hid; rw [hT.out, List.append_assoc]; rfl
    generalize l ++ leB (s.size : Int).toNat 2 = L at *
    have hlen' : L.length ≤ 900000002 := by omega
    clear hlen
    obtain ⟨ax, cx, rfl⟩ := ownsRow_shape hok.own
    have hc1 := cell_of_one hok.blk
    go_wp2_with (at_builtin; go_must (refine Lib.wpList_append_own_string _ rfl (.tmp 21) (.tmp 22) 99 9 rfl B 5 i0 Try.underlying99 Try.underlying9 hi hz0 hz1 hz2 _ _ _ rfl hok.own s rfl (by unfold maxLen; omega) (by omega) (by have := lt_of_block hok.blk; have := hok.base; omega) ?_); intro v' w2 hown' hgrow _; obtain ⟨ay, cy, rfl⟩ := ownsRow_shape hown'; have hbl := hok.grown_blk (Below.refl _ _) hgrow; have hc2 := cell_of_one hbl; have hf2 := free_of_one hbl)
    go_end0
    exact ⟨rfl, ⟨_, by rw [hfin.out]; exact hok.put (Below.refl _ _) hgrow hown' rfl (by simp)⟩, hok.put_below hbel (Below.refl _ _) hgrow, (HKX.out.grown hgrow hok.own).set _⟩

end Go.Proofs.Yticadfaclnimgaa
