/-
  New of a pool.
-/
import Derived.Test.YtcloinonhpaojaaQi
import Derived.Stop.Asserts
import Derived.Laws.Tables
namespace Go.Proofs.Ytcloinonhpaojaa
open Go.RowKit

theorem as_some (v : Value) (w : World) : (Instr.typeAssert (.iface 33 v) 86 86 true).run Try.prog w = .ok (.tuple #[.iface 33 v, .bool true]) w := run_typeAssert_hasB Try.underlying86 (by kernel_rfl) v 86 w
theorem as_none (w : World) : (Instr.typeAssert .nilIface 86 86 true).run Try.prog w = .ok (.tuple #[.nilIface, .bool false]) w := by kernel_rfl

theorem given_yes (v : Value) (w : World) : Calls Try.prog 56 #[.iface 33 v] w fun e w' => e = .returned (.bool true) ∧ w' = w := by
  have h := as_some
  go_enter Try.func56, Try.ntmps56
  go_wp2
  go_ret
  exact ⟨rfl, rfl⟩
theorem given_no (w : World) : Calls Try.prog 56 #[.nilIface] w fun e w' => e = .returned (.bool false) ∧ w' = w := by
  have h := as_none
  go_enter Try.func56, Try.ntmps56
  go_wp2
  go_ret
  exact ⟨rfl, rfl⟩

/-- A new pool's cells. -/
def newC (st : Value) (a : Option Addr) (n c : Nat) : Array Value :=
  #[st, .slice a n c, .int .i64 0, .pointer none, .bool false, .int .u64 0, .pointer none, .bool false, .int .u64 0, .pointer none, .bool false, .int .u64 0, .pointer none, .bool false, .int .u64 0, .pointer none, .bool false, .int .u64 0, .pointer none, .bool false, .int .u64 0, .pointer none, .bool false, .int .u64 0, .pointer none, .bool false, .int .u64 0, .pointer none, .bool false, .int .u64 0, .pointer none, .bool false, .int .u64 0, .pointer none, .bool false, .int .u64 0, .pointer none, .bool false, .int .u64 0, .pointer none, .bool false, .int .u64 0, .pointer none, .bool false, .int .u64 0, .pointer none, .bool false, .int .u64 0, .pointer none, .bool false, .int .u64 0]
theorem newC_po (st : Value) (a : Option Addr) (m c : Nat) : PoM (newC st a m c) st ⟨⟨List.replicate m ⟨-1, false, 0⟩, 0⟩, a, c, fun _ => none, fun _ => false, fun _ => 0⟩ := by
  have key : ∀ i, i < 16 → (newC st a m c)[3 + i * 3]? = some (.pointer none) ∧ (newC st a m c)[3 + i * 3 + 1]? = some (.bool false) ∧ (newC st a m c)[3 + i * 3 + 2]? = some (.int .u64 0) := by
    intro i hi
    match i, hi with
    | 0, _ | 1, _ | 2, _ | 3, _ | 4, _ | 5, _ | 6, _ | 7, _ | 8, _ | 9, _ | 10, _ | 11, _ | 12, _ | 13, _ | 14, _ | 15, _ => exact ⟨rfl, rfl, rfl⟩
    | n + 16, h => exact absurd h (by omega)
  exact ⟨rfl, rfl, by simp [newC], rfl, fun i hi => (key i hi).1, fun i hi => (key i hi).2.1, fun i hi => (key i hi).2.2⟩

theorem new_np (m : Nat) : NP ⟨List.replicate m ⟨-1, false, 0⟩, 0⟩ := fun j hj => by simp

theorem newp_none (n : Int) (w : World) : Calls Try.prog 24 #[.int .i64 n, .nilIface] w fun e w' => e = .returned (.tuple #[.pointer none, .int .i64 1]) ∧ Below w.heap.size w w' := by
  have HA := toHid (Ck.new_any n w)
  generalize hR : Ck.newR n = R at HA
  obtain ⟨r, x⟩ := R
  have HG := toHid given_no
  have hb := Below.refl w.heap.size w
  clear hR
  by_cases hx : x = 0
  · subst hx
    go_enter Try.func24, Try.ntmps24
    go_wp2_with fail
    refine Calls.mono HA.out ?_
    rintro e w1 ⟨a, c, rfl, -, hb, -⟩
    have HB := toHid (hb.alloc hb.size (.cells #[.slice a r.fr.length c, .int .i64 r.hand] 36))
    clear HA hb
    go_wp2_with fail
    refine Calls.mono (HG.out _) ?_
    rintro e w2 ⟨rfl, hw⟩
    obtain rfl := hw.symm
    go_wp2
    exact bodyPost_ret (v := .tuple #[.pointer none, .int .i64 1]) (by simp [results, Try.results24, go_sem]) rfl ⟨rfl, HB.out⟩
  · have hne : (x != 0) = true := by simpa using hx
    go_enter Try.func24, Try.ntmps24
    go_wp2_with fail
    refine Calls.mono HA.out ?_
    rintro e w1 ⟨a, c, rfl, -, hb, -⟩
    have HB := toHid (hb.alloc hb.size (.cells #[.slice a r.fr.length c, .int .i64 r.hand] 36))
    clear HA hb
    go_wp2
    exact bodyPost_ret (v := .tuple #[.pointer none, .int .i64 1]) (by simp [results, Try.results24, go_sem]) rfl ⟨rfl, HB.out⟩
theorem newp_no (n : Int) (v : Value) (w : World) (hn : ¬ (1 ≤ n ∧ n ≤ 16)) : Calls Try.prog 24 #[.int .i64 n, .iface 33 v] w fun e w' => e = .returned (.tuple #[.pointer none, .int .i64 1]) ∧ Below w.heap.size w w' := by
  have HA := toHid (Ck.new_any n w)
  rw [Ck.newR_no hn] at HA
  go_enter Try.func24, Try.ntmps24
  go_wp2_with fail
  refine Calls.mono HA.out ?_
  rintro e w1 ⟨a, c, rfl, -, hb, -⟩
  have HB := toHid (hb.alloc hb.size (.cells #[.slice a (0 : Nat) c, .int .i64 0] 36))
  clear HA hb
  go_wp2
  exact bodyPost_ret (v := .tuple #[.pointer none, .int .i64 1]) (by simp [results, Try.results24, go_sem]) rfl ⟨rfl, HB.out⟩

set_option maxRecDepth 20000 in
set_option maxHeartbeats 1000000 in
theorem newp_yes (m d : Nat) (w : World) (h1 : 1 ≤ m) (h2 : m ≤ 16) : Calls Try.prog 24 #[.int .i64 (m : Int), stV d] w fun e w' => ∃ p a c, e = .returned (.tuple #[.pointer (some ⟨p, 0, none⟩), .int .i64 0]) ∧ w.heap.size ≤ p ∧ PoIn w' p (stV d) ⟨⟨List.replicate m ⟨-1, false, 0⟩, 0⟩, a, c, fun _ => none, fun _ => false, fun _ => 0⟩ ∧ (∀ x, a = some x → x.block ≠ p ∧ w.heap.size ≤ x.block) ∧ Below w.heap.size w w' := by
  have HA := toHid (Ck.new_any (m : Int) w)
  rw [Ck.newR_yes h1 h2] at HA
  have HG := toHid given_yes
  have hB : ∀ (a : Option Addr) (c : Nat) (W : World), (Instr.build 91 #[(0, stV d), (1, .agg #[.slice a m c, .int .i64 0])]).run Try.prog W = .ok (.agg (newC (stV d) a m c)) W := fun a c W => run_build W 91 _ _ (by kernel_rfl)
  go_enter Try.func24, Try.ntmps24
  go_wp2_with fail
  refine Calls.mono HA.out ?_
  rintro e w1 ⟨a, c, rfl, hs, hb, hnew⟩
  have HB := toHid (hb.alloc hb.size (.cells #[.slice a m c, .int .i64 0] 36))
  have HS := toHid (hs.below ((Below.refl _ _).alloc (Nat.le_refl _) (.cells #[.slice a m c, .int .i64 0] 36)))
  have hz := blk_lt (heap_alloc_new w1 (.cells #[.slice a m c, .int .i64 0] 36))
  clear HA hb hs
  go_wp2_with fail
  refine Calls.mono (HG.out _ _) ?_
  rintro e w2 ⟨rfl, hw⟩
  obtain rfl := hw.symm
  go_wp2
  refine bodyPost_ret (v := .tuple #[.pointer (some ⟨w1.heap.size + 1, 0, none⟩), .int .i64 0]) (by simp [results, Try.results24, go_sem]) rfl ?_
  have hs2 : w1.heap.size + 1 = (w1.alloc (.cells #[.slice a m c, .int .i64 0] 36)).heap.size := by simp
  have hz1 : w.heap.size ≤ w1.heap.size + 1 := by have := HB.out.size; simpa using this
  refine ⟨w1.heap.size + 1, a, c, rfl, hz1, ⟨⟨newC (stV d) a m c, ?_, newC_po _ _ _ _⟩, Ck.new_may h1 h2, new_np m, HS.out.below ((Below.refl _ _).alloc (Nat.le_refl _) _)⟩, fun x hx => ⟨?_, hnew x hx⟩, HB.out.alloc HB.out.size _⟩
  · rw [hs2]
    exact heap_alloc_new _ _
  · obtain ⟨b, o, e, hb, -⟩ := HS.out.at 0 (by simp; omega)
    rw [hx] at e
    simp at e
    subst e
    simp at hb
    simp only
    omega
end Go.Proofs.Ytcloinonhpaojaa
