/-
  The Writer's walks.
-/
import Derived.Test.YticadfaclnimgaaRows
import Derived.Test.YticadfaclnimgaaBase
namespace Go.Proofs.Yticadfaclnimgaa
open Go.RowKit

theorem Try.info5 : (Try.prog.info? 5).map (fun i => (i.zero, i.size, i.bytes)) = some (some (.int .u8 0), 1, 1) := by kernel_rfl

/-- A Writer that lies in block p and has laid l; all that it owns lies from block B on. -/
structure WOk (w : World) (B p : Nat) (v : Value) (l : List UInt8) : Prop where
  base : B ≤ p
  blk : w.heap[p]? = some (.cells #[v] 142 (0, 0))
  own : w.ownsRow B 5 1 v l.length (bcells l)

theorem WOk.ne {w : World} {B p : Nat} {v : Value} {l : List UInt8} (h : WOk w B p v l) : v.ownBlock ≠ some p := by
  intro hp
  rcases h.own.2 with ⟨rfl, _⟩ | ⟨g, cap, cur, rfl, _, hh, _⟩
  · simp [Value.ownBlock] at hp
  · simp [Value.ownBlock] at hp
    subst hp
    rw [h.blk] at hh
    simp at hh

theorem WOk.below {w w' : World} {B D p : Nat} {v : Value} {l : List UInt8} (h : WOk w B p v l) (hb : Below D w w') (hD : w.heap.size ≤ D) : WOk w' B p v l :=
  ⟨h.base, by rw [hb.block p (by have := lt_of_block h.blk; omega)]; exact h.blk, ownsRow_below h.own hb (fun k hk => by have := ownsRow_lt h.own k hk; omega)⟩

/-- Behind an append that was stored back. -/
theorem WOk.put {w W2 w1 : World} {B p : Nat} {v v' : Value} {L M : List UInt8} {n : Nat} {xs : List Value} (h : WOk w B p v L) (hb : Below w.heap.size w W2) (hg : W2.grownBy w1 v.ownBlock) (ho : w1.ownsRow B 5 1 v' n xs) (hx : xs = bcells L ++ bcells M) (hn : n = L.length + M.length) : WOk (w1.setCell ⟨p, 0, none⟩ v') B p v' (L ++ M) := by
  have hlt := lt_of_block h.blk
  have hbp : w1.heap[p]? = some (.cells #[v] 142 (0, 0)) := by
    rw [hg.block p (by have := hb.size; omega) (fun e => h.ne e.symm), hb.block p hlt]
    exact h.blk
  subst hx hn
  have hne : v'.ownBlock ≠ some p := by
    intro hp
    rcases ho.2 with ⟨rfl, _⟩ | ⟨g, cap, cur, rfl, _, hh, _⟩
    · simp [Value.ownBlock] at hp
    · simp [Value.ownBlock] at hp
      subst hp
      rw [hbp] at hh
      simp at hh
  refine ⟨h.base, one_setCell hbp, ?_⟩
  have := ownsRow_setCell_other ho (a := ⟨p, 0, none⟩) hne v'
  rw [List.length_append, bcells_append]
  exact this

theorem WOk.grown_blk {w W2 w1 : World} {B p : Nat} {v : Value} {L : List UInt8} (h : WOk w B p v L) (hb : Below w.heap.size w W2) (hg : W2.grownBy w1 v.ownBlock) : w1.heap[p]? = some (.cells #[v] 142 (0, 0)) := by
  have hlt := lt_of_block h.blk
  rw [hg.block p (by have := hb.size; omega) (fun e => h.ne e.symm), hb.block p hlt]
  exact h.blk

theorem WOk.put_below {w0 w W2 w1 : World} {B p : Nat} {v u : Value} {L : List UInt8} (h : WOk w B p v L) (h0 : Below B w0 w) (hb : Below w.heap.size w W2) (hg : W2.grownBy w1 v.ownBlock) : Below B w0 (w1.setCell ⟨p, 0, none⟩ u) := by
  have hlt := lt_of_block h.blk
  have hp := h.base
  refine Below.setCell (Below.grown (h0.trans (hb.mono (by omega))) hg (by have := hb.size; omega) (fun k hk => (h.own.lt k hk).1)) hp _

set_option maxHeartbeats 400000 in
theorem wnumber_any (B p : Nat) (v : Value) (l : List UInt8) (n : Int) (size : Nat) (w : World) (hw : WOk w B p v l) (hn0 : 0 ≤ n) (hs : size ≤ 8) (hl : l.length ≤ 1000000000) :
    Calls Try.prog 100 #[.pointer (some ⟨p, 0, none⟩), .int .u64 n, .int .i64 size] w fun e w' => e = .returned (.tuple #[]) ∧ (∃ v', WOk w' B p v' (l ++ leB n.toNat size)) ∧ Below B w w' := by
  obtain ⟨i0, hi, hz0, hz1, hz2⟩ := info_parts Try.info5
  go_enter Try.func100, Try.ntmps100
  go_wp2
  go_loopw [10] (fun i wr => ∃ k : Nat, k ≤ size ∧ i = .int .i64 k ∧ (∃ v', WOk wr B p v' (l ++ leB n.toNat k)) ∧ Below B w wr) (fun i _ => size - (intOf i).toNat)
  case atStart => exact ⟨0, Nat.zero_le _, rfl, ⟨v, by simpa [leB] using hw⟩, Below.refl _ _⟩
  case round =>
    obtain ⟨k, hk, rfl, ⟨v1, hok⟩, hbel⟩ := hrel
    by_cases hlt : k < size
    · have hlen : (l ++ leB n.toNat k).length ≤ l.length + 8 := by simp [leB_length]; omega
      have hL : Hid (l ++ leB n.toNat (k + 1) = (l ++ leB n.toNat k) ++ [UInt8.ofNat (n.toNat / 256 ^ k)]) := by simp [Hid, leB]
      generalize l ++ leB n.toNat k = L at *
      have hc := cell_of_one hok.blk
      have hf := free_of_one hok.blk
      have hpl := lt_of_block hok.blk
      obtain ⟨ax, cx, rfl⟩ := ownsRow_shape hok.own
      have hwr : IntKind.i64.wrap (8 * (k : Int)) = 8 * (k : Int) := by simp [IntKind.wrap, IntKind.bits, IntKind.signed]; omega
      have hk0 : 0 ≤ 8 * (k : Int) := by omega
      have hk1 : 8 * (k : Int) ≤ 64 := by omega
      go_wp2
      go_region_law (refine step_append_own rfl (.tmp 18) (.tmp 24) 99 rfl B 5 i0 (.int .u8 0) 1 1 Try.underlying99 hi hz0 hz1 hz2 rfl (by decide) _ _ _ rfl (hok.own.alloc _).drew ⟨wr.heap.size, 0, none⟩ 1 1 [_] rfl rfl (cell_one_new _ _ _) (by intro u hu; simp at hu; subst hu; rfl) (by unfold maxLen; omega) (by omega) (by have := lt_of_block hok.blk; have := hok.base; simp; omega) ?_; intro v' w1 hown' hgrow; obtain ⟨ay, cy, rfl⟩ := ownsRow_shape hown'; have hbl := hok.grown_blk ((Below.refl _ _).alloc (Nat.le_refl _) _).drew hgrow; have hc1 := cell_of_one hbl; have hf1 := free_of_one hbl)
      all_goals
        have R := hok.put ((Below.refl _ _).alloc (Nat.le_refl _) _).drew hgrow hown' (M := [UInt8.ofNat (n.toNat / 256 ^ k)]) (by rw [byte_at n k hn0]; rfl) rfl
        have R2 := hok.put_below (u := .slice ay (L.length + 1) cy) hbel ((Below.refl _ _).alloc (Nat.le_refl _) _).drew hgrow
        clear hown' hgrow hbl hc1 hf1 hc hf
        go_wp2
        go_roundw
        case rel => exact ⟨k + 1, by omega, by go_num, ⟨_, by rw [hL.out]; exact R⟩, R2⟩
        case measure => simp [intOf]; omega
    · go_wp2
      go_end0
      obtain rfl : k = size := by omega
      exact ⟨rfl, ⟨v1, hok⟩, hbel⟩

theorem wbyte_any (B p : Nat) (v : Value) (l : List UInt8) (n : Int) (w : World) (hw : WOk w B p v l) (hn0 : 0 ≤ n) (hn1 : n ≤ 255) (hl : l.length ≤ 1000000000) :
    Calls Try.prog 88 #[.pointer (some ⟨p, 0, none⟩), .int .u8 n] w fun e w' => e = .returned (.tuple #[]) ∧ (∃ v', WOk w' B p v' (l ++ leB n.toNat 1)) ∧ Below B w w' := by
  go_enter Try.func88, Try.ntmps88
  go_wp2_with (go_at_call 100; go_must (refine (wnumber_any B p v l _ 1 _ hw (by omega) (by omega) hl).mono ?_); rintro e w' ⟨rfl, hq⟩)
  go_end0
  exact ⟨rfl, hq⟩

theorem wtwo_any (B p : Nat) (v : Value) (l : List UInt8) (n : Int) (w : World) (hw : WOk w B p v l) (hn0 : 0 ≤ n) (hn1 : n ≤ 65535) (hl : l.length ≤ 1000000000) :
    Calls Try.prog 101 #[.pointer (some ⟨p, 0, none⟩), .int .u16 n] w fun e w' => e = .returned (.tuple #[]) ∧ (∃ v', WOk w' B p v' (l ++ leB n.toNat 2)) ∧ Below B w w' := by
  go_enter Try.func101, Try.ntmps101
  go_wp2_with (go_at_call 100; go_must (refine (wnumber_any B p v l _ 2 _ hw (by omega) (by omega) hl).mono ?_); rintro e w' ⟨rfl, hq⟩)
  go_end0
  exact ⟨rfl, hq⟩

theorem wfour_any (B p : Nat) (v : Value) (l : List UInt8) (n : Int) (w : World) (hw : WOk w B p v l) (hn0 : 0 ≤ n) (hn1 : n ≤ 4294967295) (hl : l.length ≤ 1000000000) :
    Calls Try.prog 90 #[.pointer (some ⟨p, 0, none⟩), .int .u32 n] w fun e w' => e = .returned (.tuple #[]) ∧ (∃ v', WOk w' B p v' (l ++ leB n.toNat 4)) ∧ Below B w w' := by
  go_enter Try.func90, Try.ntmps90
  go_wp2_with (go_at_call 100; go_must (refine (wnumber_any B p v l _ 4 _ hw (by omega) (by omega) hl).mono ?_); rintro e w' ⟨rfl, hq⟩)
  go_end0
  exact ⟨rfl, hq⟩

theorem weight_any (B p : Nat) (v : Value) (l : List UInt8) (n : Int) (w : World) (hw : WOk w B p v l) (hn0 : 0 ≤ n) (hl : l.length ≤ 1000000000) :
    Calls Try.prog 89 #[.pointer (some ⟨p, 0, none⟩), .int .u64 n] w fun e w' => e = .returned (.tuple #[]) ∧ (∃ v', WOk w' B p v' (l ++ leB n.toNat 8)) ∧ Below B w w' := by
  go_enter Try.func89, Try.ntmps89
  go_wp2_with (go_at_call 100; go_must (refine (wnumber_any B p v l _ 8 _ hw (by omega) (by omega) hl).mono ?_); rintro e w' ⟨rfl, hq⟩)
  go_end0
  exact ⟨rfl, hq⟩

set_option maxHeartbeats 400000 in
theorem wtext_any (B p : Nat) (v : Value) (l : List UInt8) (s : ByteArray) (w : World) (hw : WOk w B p v l) (hs : s.size ≤ maxLen) (hl : l.length ≤ 900000000) :
    Calls Try.prog 102 #[.pointer (some ⟨p, 0, none⟩), .string s] w fun e w' => e = .returned (.tuple #[]) ∧ (∃ v', WOk w' B p v' (l ++ textB s)) ∧ Below B w w' := by
  unfold maxLen at hs
  obtain ⟨i0, hi, hz0, hz1, hz2⟩ := info_parts Try.info5
  go_enter Try.func102, Try.ntmps102
  by_cases hlong : 65535 < s.size
  · have hmin : min 65535 s.size = 65535 := by omega
    have hT : Hid (textB s = leB 65535 2 ++ (s.extract 0 65535).data.toList) := by
      have : (s.data.toList.take 65535).length = 65535 := by simp; omega
      unfold Hid textB
      rw [this, extract_list]
    have hsz : (s.extract 0 65535).size = 65535 := by simp; omega
    go_wp2_with fail
    refine (wtwo_any B p v l _ _ hw (by omega) (by omega) (by omega)).mono ?_
    rintro e w1 ⟨rfl, ⟨v1, hok⟩, hbel⟩
    have hlen : (l ++ leB (65535 : Int).toNat 2).length = l.length + 2 := by simp [leB_length]
    have hfin : Hid (l ++ textB s = (l ++ leB (65535 : Int).toNat 2) ++ (s.extract 0 65535).data.toList) := by unfold Hid; rw [hT.out, List.append_assoc]; rfl
    generalize l ++ leB (65535 : Int).toNat 2 = L at *
    have hlen' : L.length ≤ 900000002 := by omega
    clear hlen
    obtain ⟨ax, cx, rfl⟩ := ownsRow_shape hok.own
    have hc1 := cell_of_one hok.blk
    go_wp2_with (at_builtin; go_must (refine Lib.wpList_append_own_string _ rfl (.tmp 21) (.tmp 22) 99 9 rfl B 5 i0 Try.underlying99 Try.underlying9 hi hz0 hz1 hz2 _ _ _ rfl hok.own (s.extract 0 65535) rfl (by unfold maxLen; omega) (by omega) (by have := lt_of_block hok.blk; have := hok.base; omega) ?_); intro v' w2 hown' hgrow _; rw [hsz] at hown'; obtain ⟨ay, cy, rfl⟩ := ownsRow_shape hown'; have hbl := hok.grown_blk (Below.refl _ _) hgrow; have hc2 := cell_of_one hbl; have hf2 := free_of_one hbl)
    go_end0
    exact ⟨rfl, ⟨_, by rw [hfin.out]; exact hok.put (Below.refl _ _) hgrow hown' rfl (by simp; omega)⟩, hok.put_below hbel (Below.refl _ _) hgrow⟩
  · have hT : Hid (textB s = leB s.size 2 ++ s.data.toList) := by
      have : s.data.toList.take 65535 = s.data.toList := List.take_of_length_le (by simp; omega)
      unfold Hid textB
      rw [this]
      simp
    go_wp2_with fail
    refine (wtwo_any B p v l _ _ hw (by omega) (by omega) (by omega)).mono ?_
    rintro e w1 ⟨rfl, ⟨v1, hok⟩, hbel⟩
    have hlen : (l ++ leB (s.size : Int).toNat 2).length = l.length + 2 := by simp [leB_length]
    have hfin : Hid (l ++ textB s = (l ++ leB (s.size : Int).toNat 2) ++ s.data.toList) := by unfold Hid; rw [hT.out, List.append_assoc]; rfl
    generalize l ++ leB (s.size : Int).toNat 2 = L at *
    have hlen' : L.length ≤ 900000002 := by omega
    clear hlen
    obtain ⟨ax, cx, rfl⟩ := ownsRow_shape hok.own
    have hc1 := cell_of_one hok.blk
    go_wp2_with (at_builtin; go_must (refine Lib.wpList_append_own_string _ rfl (.tmp 21) (.tmp 22) 99 9 rfl B 5 i0 Try.underlying99 Try.underlying9 hi hz0 hz1 hz2 _ _ _ rfl hok.own s rfl (by unfold maxLen; omega) (by omega) (by have := lt_of_block hok.blk; have := hok.base; omega) ?_); intro v' w2 hown' hgrow _; obtain ⟨ay, cy, rfl⟩ := ownsRow_shape hown'; have hbl := hok.grown_blk (Below.refl _ _) hgrow; have hc2 := cell_of_one hbl; have hf2 := free_of_one hbl)
    go_end0
    exact ⟨rfl, ⟨_, by rw [hfin.out]; exact hok.put (Below.refl _ _) hgrow hown' rfl (by simp)⟩, hok.put_below hbel (Below.refl _ _) hgrow⟩

theorem copied_any (a : Option Addr) (c : Nat) (l : List UInt8) (w : World) (hv : SlB w a l) (hl : l.length ≤ 140737488355328) (hnil : a = none → c = 0) :
    Calls Try.prog 103 #[.slice a l.length c] w fun e w' => ∃ r, e = .returned r ∧ w'.ownsRow w.heap.size 5 1 r l.length (bcells l) ∧ Below w.heap.size w w' := by
  obtain ⟨i0, hi, hz0, hz1, hz2⟩ := info_parts Try.info5
  cases a with
  | none =>
    have := hv.nonil rfl
    subst this
    obtain rfl := hnil rfl
    go_enter Try.func103, Try.ntmps103
    go_wp2_with (at_builtin; refine wpList_append_own_none rfl _ _ 99 rfl w.heap.size 5 i0 1 Try.underlying99 hi (.slice none 0 0) 0 [] rfl (World.ownsRow_nil _ _ _ _) rfl ?_)
    go_ret
    exact ⟨_, rfl, World.ownsRow_nil _ _ _ _, Below.refl _ _⟩
  | some x =>
    have hcs := hv.cells x rfl
    go_enter Try.func103, Try.ntmps103
    go_wp2_with (at_builtin; refine wpList_append_own _ rfl _ _ 99 rfl w.heap.size 5 i0 (.int .u8 0) 1 1 Try.underlying99 hi hz0 hz1 hz2 rfl (by decide) (.slice none 0 0) 0 [] rfl (World.ownsRow_nil _ _ _ _) x l.length c (bcells l) rfl (by simp [bcells]) hcs (by intro u hu; simp [bcells] at hu; obtain ⟨b, _, rfl⟩ := hu; rfl) (by unfold maxLen; omega) (by omega) (Nat.le_refl _) ?_; intro v' w1 hown hgrow _)
    go_ret
    exact ⟨_, rfl, by simpa using hown, (Below.refl _ _).grown hgrow (Nat.le_refl _) (fun k hk => by simp [Value.ownBlock] at hk)⟩

theorem wdone_any (B p : Nat) (v : Value) (l : List UInt8) (w : World) (hw : WOk w B p v l) (hl : l.length ≤ 1000000000) :
    Calls Try.prog 93 #[.pointer (some ⟨p, 0, none⟩)] w fun e w' => ∃ r, e = .returned r ∧ w'.ownsRow w.heap.size 5 1 r l.length (bcells l) ∧ Below w.heap.size w w' := by
  go_enter Try.func93, Try.ntmps93
  have hc := cell_of_one hw.blk
  obtain ⟨ax, cx, rfl⟩ := ownsRow_shape hw.own
  obtain ⟨hsl, _, _⟩ := slB_of_own hw.own
  have hnil : ax = none → cx = 0 := by
    rintro rfl
    rcases hw.own.2 with ⟨h, _⟩ | ⟨_, _, _, h, _⟩ <;> simp at h
    exact h.2
  go_wp2_with (go_at_call 103; go_must (refine (copied_any ax cx l _ hsl (by omega) hnil).mono ?_); rintro e w' ⟨r, rfl, hq⟩)
  go_ret
  exact ⟨r, rfl, hq⟩

theorem new_any (w : World) :
    Calls Try.prog 87 #[] w fun e w' => e = .returned (.pointer (some ⟨w.heap.size, 0, none⟩)) ∧ w' = w.alloc (.cells #[.slice none 0 0] 142) := by
  go_enter Try.func87, Try.ntmps87
  go_wp2
  go_ret
  exact ⟨rfl, rfl⟩
end Go.Proofs.Yticadfaclnimgaa
