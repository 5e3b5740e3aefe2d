/-
  The walk of taken.
-/
import Derived.Test.YtdknodmdndkneaaTs
namespace Go.Proofs.Ytdknodmdndkneaa
open Go.RowKit

theorem ROk.draw {w : World} {B p : Nat} {a : Option Addr} {c : Nat} {l : List UInt8} {err : Int} (h : ROk w B p a c l err) : ROk w.drew B p a c l err := h.below ((Below.refl _ _).drew) (Nat.le_refl _)

theorem ROk.two {w : World} {B p : Nat} {a : Option Addr} {c : Nat} {l : List UInt8} {err : Int} (h : ROk w B p a c l err) (o o' : Obj) : ROk ((w.alloc o).alloc o').drew B p a c l err :=
  (h.below (((Below.refl _ _).alloc (Nat.le_refl _) o).alloc (by simp) o') (Nat.le_refl _)).draw

theorem two_below {w w' : World} {B p : Nat} {a : Option Addr} {c : Nat} {l : List UInt8} {err : Int} (h : ROk w B p a c l err) (o o' : Obj) (hg : ((w.alloc o).alloc o').drew.grownBy w' (some p)) : Below B w w' := by
  have hp := lt_of_block h.blk
  have hb := h.base
  exact ((((Below.refl B w).alloc (by omega) o).alloc (by simp; omega) o').drew).trans ((h.two o o').toBelow hg)

theorem data_toList (s : ByteArray) : s.data.toList = s.toList := by
  have h : ∀ l : List UInt8, (ByteArray.mk l.toArray).toList = l := fun l => by simp
  exact (h s.data.toList).symm.trans (congrArg ByteArray.toList (by simp))

set_option maxHeartbeats 400000 in
theorem taken_0 (B p : Nat) (a : Option Addr) (c : Nat) (l : List UInt8) (err : Int) (K N : Int) (s : ByteArray) (w : World) (hR : ROk w B p a c l err) (hk : kindOf K = 0) :
    Calls Try.prog 27 #[.pointer (some ⟨p, 0, none⟩), .agg #[.int .i64 K, .int .u64 N, .string s]] w fun e w' => e = .returned (.bool (((takeN 1 l err).2.2 : Int) == IntKind.u8.wrap N)) ∧ (∃ a' c', ROk w' B p a' c' (takeN 1 l err).1 (takeN 1 l err).2.1) ∧ Below B w w' := by
  have hkd := kind_any K N s (w.alloc (.cells #[.int .i64 K, .int .u64 N, .string s] 28))
  rw [hk] at hkd
  clear hk
  have hpl := lt_of_block hR.blk
  have Hbel : Hid (∀ w', ((w.alloc (.cells #[.int .i64 K, .int .u64 N, .string s] 28)).alloc (.cells #[.int .i64 K, .int .u64 N, .string s] 28)).drew.grownBy w' (some p) → Below B w w') := fun w' h => two_below hR _ _ h
  have hcall := rbyte_any B p a c l err _ (hR.two (.cells #[.int .i64 K, .int .u64 N, .string s] 28) (.cells #[.int .i64 K, .int .u64 N, .string s] 28))
  generalize takeN 1 l err = R at *
  obtain ⟨R1, R2, R3⟩ := R
  simp only at hcall ⊢
  go_enter Try.func27, Try.ntmps27
  go_wp2_with (go_at_call 29; go_must (refine hkd.mono ?_); rintro e w1 ⟨rfl, rfl⟩)
  go_region_with (go_at_call 16; refine hcall.mono ?_; rintro e w5 ⟨rfl, hq, hg⟩; have hcb : w5.cell? ⟨w.heap.size, 1, none⟩ = some (.int .u64 N) := hg.cell (by simp) (by simp; omega))
  all_goals
    go_wp2
    go_ret
    exact ⟨rfl, hq, Hbel.out _ hg⟩

set_option maxHeartbeats 400000 in
theorem taken_1 (B p : Nat) (a : Option Addr) (c : Nat) (l : List UInt8) (err : Int) (K N : Int) (s : ByteArray) (w : World) (hR : ROk w B p a c l err) (hk : kindOf K = 1) :
    Calls Try.prog 27 #[.pointer (some ⟨p, 0, none⟩), .agg #[.int .i64 K, .int .u64 N, .string s]] w fun e w' => e = .returned (.bool (((takeN 2 l err).2.2 : Int) == IntKind.u16.wrap N)) ∧ (∃ a' c', ROk w' B p a' c' (takeN 2 l err).1 (takeN 2 l err).2.1) ∧ Below B w w' := by
  have hkd := kind_any K N s (w.alloc (.cells #[.int .i64 K, .int .u64 N, .string s] 28))
  rw [hk] at hkd
  clear hk
  have hpl := lt_of_block hR.blk
  have Hbel : Hid (∀ w', ((w.alloc (.cells #[.int .i64 K, .int .u64 N, .string s] 28)).alloc (.cells #[.int .i64 K, .int .u64 N, .string s] 28)).drew.grownBy w' (some p) → Below B w w') := fun w' h => two_below hR _ _ h
  have hcall := rtwo_any B p a c l err _ (hR.two (.cells #[.int .i64 K, .int .u64 N, .string s] 28) (.cells #[.int .i64 K, .int .u64 N, .string s] 28))
  generalize takeN 2 l err = R at *
  obtain ⟨R1, R2, R3⟩ := R
  simp only at hcall ⊢
  go_enter Try.func27, Try.ntmps27
  go_wp2_with (go_at_call 29; go_must (refine hkd.mono ?_); rintro e w1 ⟨rfl, rfl⟩)
  go_region_with (go_at_call 17; refine hcall.mono ?_; rintro e w5 ⟨rfl, hq, hg⟩; have hcb : w5.cell? ⟨w.heap.size, 1, none⟩ = some (.int .u64 N) := hg.cell (by simp) (by simp; omega))
  all_goals
    go_wp2
    go_ret
    exact ⟨rfl, hq, Hbel.out _ hg⟩

set_option maxHeartbeats 400000 in
theorem taken_2 (B p : Nat) (a : Option Addr) (c : Nat) (l : List UInt8) (err : Int) (K N : Int) (s : ByteArray) (w : World) (hR : ROk w B p a c l err) (hk : kindOf K = 2) :
    Calls Try.prog 27 #[.pointer (some ⟨p, 0, none⟩), .agg #[.int .i64 K, .int .u64 N, .string s]] w fun e w' => e = .returned (.bool (((takeN 4 l err).2.2 : Int) == IntKind.u32.wrap N)) ∧ (∃ a' c', ROk w' B p a' c' (takeN 4 l err).1 (takeN 4 l err).2.1) ∧ Below B w w' := by
  have hkd := kind_any K N s (w.alloc (.cells #[.int .i64 K, .int .u64 N, .string s] 28))
  rw [hk] at hkd
  clear hk
  have hpl := lt_of_block hR.blk
  have Hbel : Hid (∀ w', ((w.alloc (.cells #[.int .i64 K, .int .u64 N, .string s] 28)).alloc (.cells #[.int .i64 K, .int .u64 N, .string s] 28)).drew.grownBy w' (some p) → Below B w w') := fun w' h => two_below hR _ _ h
  have hcall := rfour_any B p a c l err _ (hR.two (.cells #[.int .i64 K, .int .u64 N, .string s] 28) (.cells #[.int .i64 K, .int .u64 N, .string s] 28))
  generalize takeN 4 l err = R at *
  obtain ⟨R1, R2, R3⟩ := R
  simp only at hcall ⊢
  go_enter Try.func27, Try.ntmps27
  go_wp2_with (go_at_call 29; go_must (refine hkd.mono ?_); rintro e w1 ⟨rfl, rfl⟩)
  go_region_with (go_at_call 18; refine hcall.mono ?_; rintro e w5 ⟨rfl, hq, hg⟩; have hcb : w5.cell? ⟨w.heap.size, 1, none⟩ = some (.int .u64 N) := hg.cell (by simp) (by simp; omega))
  all_goals
    go_wp2
    go_ret
    exact ⟨rfl, hq, Hbel.out _ hg⟩

set_option maxHeartbeats 400000 in
theorem taken_3 (B p : Nat) (a : Option Addr) (c : Nat) (l : List UInt8) (err : Int) (K N : Int) (s : ByteArray) (w : World) (hR : ROk w B p a c l err) (hk : kindOf K = 3) :
    Calls Try.prog 27 #[.pointer (some ⟨p, 0, none⟩), .agg #[.int .i64 K, .int .u64 N, .string s]] w fun e w' => e = .returned (.bool (((takeN 8 l err).2.2 : Int) == N)) ∧ (∃ a' c', ROk w' B p a' c' (takeN 8 l err).1 (takeN 8 l err).2.1) ∧ Below B w w' := by
  have hkd := kind_any K N s (w.alloc (.cells #[.int .i64 K, .int .u64 N, .string s] 28))
  rw [hk] at hkd
  clear hk
  have hpl := lt_of_block hR.blk
  have Hbel : Hid (∀ w', ((w.alloc (.cells #[.int .i64 K, .int .u64 N, .string s] 28)).alloc (.cells #[.int .i64 K, .int .u64 N, .string s] 28)).drew.grownBy w' (some p) → Below B w w') := fun w' h => two_below hR _ _ h
  have hcall := reight_any B p a c l err _ (hR.two (.cells #[.int .i64 K, .int .u64 N, .string s] 28) (.cells #[.int .i64 K, .int .u64 N, .string s] 28))
  generalize takeN 8 l err = R at *
  obtain ⟨R1, R2, R3⟩ := R
  simp only at hcall ⊢
  go_enter Try.func27, Try.ntmps27
  go_wp2_with (go_at_call 29; go_must (refine hkd.mono ?_); rintro e w1 ⟨rfl, rfl⟩)
  go_region_with (go_at_call 19; refine hcall.mono ?_; rintro e w5 ⟨rfl, hq, hg⟩; have hcb : w5.cell? ⟨w.heap.size, 1, none⟩ = some (.int .u64 N) := hg.cell (by simp) (by simp; omega))
  all_goals
    go_wp2
    go_ret
    exact ⟨rfl, hq, Hbel.out _ hg⟩

set_option maxHeartbeats 400000 in
theorem taken_4 (B p : Nat) (a : Option Addr) (c : Nat) (l : List UInt8) (err : Int) (K N : Int) (s : ByteArray) (w : World) (hR : ROk w B p a c l err) (hk : kindOf K = 4) :
    Calls Try.prog 27 #[.pointer (some ⟨p, 0, none⟩), .agg #[.int .i64 K, .int .u64 N, .string s]] w fun e w' => (∃ b, e = .returned (.bool b) ∧ ((takeT 65535 l err).2.2 = s.data.toList → b = true)) ∧ (∃ a' c', ROk w' B p a' c' (takeT 65535 l err).1 (takeT 65535 l err).2.1) ∧ Below B w w' := by
  have hkd := kind_any K N s (w.alloc (.cells #[.int .i64 K, .int .u64 N, .string s] 28))
  rw [hk] at hkd
  clear hk
  have hpl := lt_of_block hR.blk
  have Hbel : Hid (∀ w', ((w.alloc (.cells #[.int .i64 K, .int .u64 N, .string s] 28)).alloc (.cells #[.int .i64 K, .int .u64 N, .string s] 28)).drew.grownBy w' (some p) → Below B w w') := fun w' h => two_below hR _ _ h
  have hcall := rtext_any B p a c l 65535 err _ (hR.two (.cells #[.int .i64 K, .int .u64 N, .string s] 28) (.cells #[.int .i64 K, .int .u64 N, .string s] 28))
  generalize takeT 65535 l err = R at *
  obtain ⟨R1, R2, R3⟩ := R
  simp only at hcall ⊢
  go_enter Try.func27, Try.ntmps27
  go_wp2_with (go_at_call 29; go_must (refine hkd.mono ?_); rintro e w1 ⟨rfl, rfl⟩)
  go_region_with (go_at_call 21; refine hcall.mono ?_; rintro e w5 ⟨rfl, hq, hg⟩; have hcb : w5.cell? ⟨w.heap.size, 2, none⟩ = some (.string s) := hg.cell (by simp) (by simp; omega))
  all_goals
    go_wp2
    go_ret
    refine ⟨⟨_, rfl, fun h => ?_⟩, hq, Hbel.out _ hg⟩
    subst h
    simp [data_toList]

end Go.Proofs.Ytdknodmdndkneaa
