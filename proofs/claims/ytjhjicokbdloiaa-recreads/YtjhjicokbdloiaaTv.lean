/-
  The walk of takeTables.
-/
import Derived.Test.YtjhjicokbdloiaaTt
import Derived.Test.YtjhjicokbdloiaaMx
namespace Go.Proofs.Ytjhjicokbdloiaa
open Go.RowKit

set_option maxRecDepth 20000 in
set_option maxHeartbeats 2000000 in
theorem takeTables_any (B p q : Nat) (s : St) (r : Rc) (ta : Option Addr) (tc : Nat) (da : Option Addr) (dc : Nat) (w0 w : World) (h : TW w0 w B p q s r ta tc da dc) (hr1 : r.txns = []) (hr2 : r.dirty = []) :
    Calls Try.prog 71 #[.pointer (some ⟨p, 0, none⟩), .pointer (some ⟨q, 0, none⟩)] w fun e w' => e = .returned (.tuple #[]) ∧ ∃ ta' tc' da' dc', TW w0 w' B p q (tabS s) (tabR s r) ta' tc' da' dc' := by
  obtain ⟨i1, hi1, hz10, hz11, hz12⟩ := info_parts Try.info71
  obtain ⟨i2, hi2, hz20, hz21, hz22⟩ := info_parts Try.info73
  have hpq := h.rw.lt
  have Hr : Hid (r.txns = [] ∧ r.dirty = []) := ⟨hr1, hr2⟩
  have b1 := rN_bd 1 s
  simp only [Nat.reducePow] at b1
  go_enter Try.func71, Try.ntmps71
  go_wp2_with fail
  refine (rb_any B p s _ h.rw.rs).mono ?_
  rintro e w1 ⟨rfl, hs1, hg1⟩
  have h1 := h.read hs1 hg1
  clear hs1 hg1 h
  obtain ⟨n1, Hn1⟩ : ∃ n, Hid (n = rN 1 s) := ⟨_, rfl⟩
  obtain ⟨s1, Hs1⟩ : ∃ x, Hid (x = sN 1 s) := ⟨_, rfl⟩
  rw [← Hn1.out] at b1 ⊢
  rw [← Hs1.out] at h1
  go_wp2_with fail
  go_loopw [9] (fun i W => ∃ k : Nat, k ≤ n1 ∧ i = .int .i64 k ∧ ∃ ta tc, TW w0 W B p q (txsS k s1) { r with txns := txsR k s1 } ta tc da dc) (fun i _ => n1 - (intOf i).toNat)
  case atStart => exact ⟨0, Nat.zero_le _, rfl, ta, tc, by show TW w0 w1 B p q s1 { r with txns := [] } ta tc da dc; rw [← hr1]; exact h1⟩
  case round =>
    obtain ⟨k, hk, rfl, ta, tc, hT⟩ := hrel
    clear h1
    by_cases hlt : k < n1
    · have hkl : (txsR k s1).length = k := txsR_length k s1
      obtain ⟨S, HS⟩ : ∃ x, Hid (x = txsS k s1) := ⟨_, rfl⟩
      obtain ⟨L, HL⟩ : ∃ x, Hid (x = txsR k s1) := ⟨_, rfl⟩
      rw [← HL.out] at hkl hT
      rw [← HS.out] at hT
      have hLn : L.length < 256 := by omega
      clear hkl
      have c1 := rN_bd 4 S
      have c2 := rN_bd 1 (sN 4 S)
      simp only [Nat.reducePow] at c1 c2
      go_wp2_with fail
      refine (r4_any B p S _ hT.rw.rs).mono ?_
      rintro e x1 ⟨rfl, hs1, hg1⟩
      have hT1 := hT.read hs1 hg1
      have hA := hT1.alloc (.cells #[.int .i64 (rN 4 S : Nat), .int .i64 0, .int .u64 0] 71)
      have ha0 := heap_alloc_new x1 (.cells #[.int .i64 (rN 4 S : Nat), .int .i64 0, .int .u64 0] 71)
      have hown1 := own_ge hT1.own1
      have hown2 := own_ge hT1.own2
      have hqx := hT1.rw.q
      clear hs1 hg1 hT1 hT
      go_wp2_with fail
      refine (rb_any B p (sN 4 S) _ hA.rw.rs).mono ?_
      rintro e x2 ⟨rfl, hs2, hg2⟩
      have hT2 := hA.read hs2 hg2
      have ha2 : x2.heap[x1.heap.size]? = some (.cells #[.int .i64 (rN 4 S : Nat), .int .i64 0, .int .u64 0] 71) := by
        rw [hg2.block _ (by simp) (by simp; omega)]
        exact ha0
      have hT3 := hT2.high (b := x1.heap.size) (i := 1) hqx (fun k hk => Nat.ne_of_lt (hown1 k hk).2) (fun k hk => Nat.ne_of_lt (hown2 k hk).2) (.int .i64 (rN 1 (sN 4 S) : Nat))
      have ha3 := cells_set (i := 1) (x := .int .i64 (rN 1 (sN 4 S) : Nat)) ha2
      have hc2 : x2.cell? ⟨x1.heap.size, 1, none⟩ = some (.int .i64 0) := by simp [World.cell?, ha2]
      have hf2 : x2.frozen? ⟨x1.heap.size, 1, none⟩ = false := by simp [World.frozen?, ha2]
      clear hs2 hg2 hT2 hA ha0 ha2
      go_wp2_with fail
      refine (r8_any B p (sN 1 (sN 4 S)) _ hT3.rw.rs).mono ?_
      rintro e x3 ⟨rfl, hs3, hg3⟩
      have hT4 := hT3.read hs3 hg3
      have ha4 : x3.heap[x1.heap.size]? = some (.cells #[.int .i64 (rN 4 S : Nat), .int .i64 (rN 1 (sN 4 S) : Nat), .int .u64 0] 71) := by
        rw [hg3.block _ (lt_of_block ha3) (by simp; omega)]
        exact ha3
      have hT5 := hT4.high (b := x1.heap.size) (i := 2) hqx (fun k hk => Nat.ne_of_lt (hown1 k hk).2) (fun k hk => Nat.ne_of_lt (hown2 k hk).2) (.int .u64 (rN 8 (sN 1 (sN 4 S)) : Nat))
      have ha5 := cells_set (i := 2) (x := .int .u64 (rN 8 (sN 1 (sN 4 S)) : Nat)) ha4
      have hc4 : x3.cell? ⟨x1.heap.size, 2, none⟩ = some (.int .u64 0) := by simp [World.cell?, ha4]
      have hf4 : x3.frozen? ⟨x1.heap.size, 2, none⟩ = false := by simp [World.frozen?, ha4]
      clear hs3 hg3 hT4 hT3 ha3 ha4 hc2 hf2 hown1 hown2
      go_wp2_with fail
      obtain ⟨X, HX⟩ : ∃ X, X = x3.setCell ⟨x1.heap.size, 2, none⟩ (.int .u64 (rN 8 (sN 1 (sN 4 S)) : Nat)) := ⟨_, rfl⟩
      rw [← HX] at hT5 ha5 ⊢
      clear HX hc4 hf4
      obtain ⟨g0, g1, g2⟩ : X.cell? ⟨x1.heap.size, 0, none⟩ = some (.int .i64 (rN 4 S : Nat)) ∧ X.cell? ⟨x1.heap.size, 1, none⟩ = some (.int .i64 (rN 1 (sN 4 S) : Nat)) ∧ X.cell? ⟨x1.heap.size, 2, none⟩ = some (.int .u64 (rN 8 (sN 1 (sN 4 S)) : Nat)) := by simp [World.cell?, ha5]
      obtain ⟨⟨_, _, _, _, _, _, _, _, _, _, q10, _⟩, hf⟩ := rw_cells hT5.rw.blk
      have htq := lt_of_block ha5
      have hqX := hT5.rw.q
      have hT6 := (hT5.alloc (.cells #[.int .i64 (rN 4 S : Nat), .int .i64 (rN 1 (sN 4 S) : Nat), .int .u64 (rN 8 (sN 1 (sN 4 S)) : Nat)] 71)).drew
      have hown6 : World.ownsRow _ (q + 1) 71 3 (.slice ta L.length tc) L.length (txsC L) := hT6.own1
      have Hsz : Hid (q + 1 ≤ X.heap.size + 1) := by show _ ≤ _; omega
      clear hT5 ha5
      have HT6 := (show Hid _ from hT6)
      clear hT6
      go_region_law (refine step_append_own rfl (.tmp 26) (.tmp 28) 28 rfl (q + 1) 71 i1 (.agg #[.int .i64 0, .int .i64 0, .int .u64 0]) 3 24 Try.underlying28 hi1 hz10 hz11 hz12 rfl (by decide) (.slice ta L.length tc) L.length (txsC L) rfl hown6 ⟨X.heap.size, 0, none⟩ 1 1 [_, _, _] rfl rfl (three_new _ _ _ _ _) (by intro u hu; simp at hu; rcases hu with rfl | rfl | rfl <;> rfl) (by unfold maxLen; omega) (by omega) (by simpa using Hsz.out) ?_; intro v' y1 hown' hgrow; obtain ⟨ay, cy, rfl⟩ := ownsRow_shape hown'; obtain ⟨⟨p0, p1, p2, p3, p4, p5, p6, p7, p8, p9, p10, p11⟩, hfy⟩ := rw_cells (HT6.out.rw.grown (fun k hk => (own_ge HT6.out.own1 k hk).1) hgrow).blk)
      all_goals
        have hT7 : TW w0 (y1.setCell ⟨q, 10, none⟩ (.slice ay (L.length + 1) cy)) B p q (txS S) { r with txns := L ++ [txR S] } ay cy da dc := HT6.out.txn (t := txR S) hgrow hown'
        have HT7 := (show Hid _ from hT7)
        clear hT7 hown' hgrow hown6 p0 p1 p2 p3 p4 p5 p6 p7 p8 p9 p10 p11 hfy
        go_wp2
        go_roundw
        case rel => exact ⟨k + 1, by omega, by go_num, ay, cy, by show TW w0 _ B p q (txS (txsS k s1)) { r with txns := txsR k s1 ++ [txR (txsS k s1)] } ay cy da dc; rw [← HS.out, ← HL.out]; exact HT7.out⟩
        case measure => simp [intOf]; omega
    · obtain rfl : k = n1 := by omega
      obtain ⟨s2, Hs2⟩ : ∃ x, Hid (x = txsS k s1) := ⟨_, rfl⟩
      obtain ⟨r2, Hr2⟩ : ∃ x : Rc, Hid (x = ({ r with txns := txsR k s1 } : Rc)) := ⟨_, rfl⟩
      rw [← Hs2.out, ← Hr2.out] at hT
      have hd2 : Hid (r2.dirty = []) := by show _ = _; rw [Hr2.out]; exact hr2
      clear hr1 hr2
      have b2 := rN_bd 1 s2
      simp only [Nat.reducePow] at b2
      go_wp2_with fail
      refine (rb_any B p s2 _ hT.rw.rs).mono ?_
      rintro e w2 ⟨rfl, hs2, hg2⟩
      have h2 := hT.read hs2 hg2
      clear hs2 hg2 hT
      obtain ⟨n2, Hn2⟩ : ∃ n, Hid (n = rN 1 s2) := ⟨_, rfl⟩
      obtain ⟨s3, Hs3⟩ : ∃ x, Hid (x = sN 1 s2) := ⟨_, rfl⟩
      rw [← Hn2.out] at b2 ⊢
      rw [← Hs3.out] at h2
      go_wp2_with fail
      go_loopw [36] (fun i W => ∃ j : Nat, j ≤ n2 ∧ i = .int .i64 j ∧ ∃ da dc, TW w0 W B p q (disS j s3) { r2 with dirty := disR j s3 } ta tc da dc) (fun i _ => n2 - (intOf i).toNat)
      case atStart => exact ⟨0, Nat.zero_le _, rfl, da, dc, by show TW w0 w2 B p q s3 { r2 with dirty := [] } ta tc da dc; rw [← hd2.out]; exact h2⟩
      case round =>
        obtain ⟨j, hj, rfl, da, dc, hT⟩ := hrel
        clear h2
        by_cases hlt2 : j < n2
        · have hkl : (disR j s3).length = j := disR_length j s3
          obtain ⟨S, HS⟩ : ∃ x, Hid (x = disS j s3) := ⟨_, rfl⟩
          obtain ⟨L, HL⟩ : ∃ x, Hid (x = disR j s3) := ⟨_, rfl⟩
          rw [← HL.out] at hkl hT
          rw [← HS.out] at hT
          have hLn : L.length < 256 := by omega
          clear hkl
          have c1 := rN_bd 2 S
          simp only [Nat.reducePow] at c1
          go_wp2_with fail
          refine (r2_any B p S _ hT.rw.rs).mono ?_
          rintro e x1 ⟨rfl, hs1, hg1⟩
          have hT1 := hT.read hs1 hg1
          have hA := hT1.alloc (.cells #[.int .i64 (rN 2 S : Nat), .int .u64 0] 73)
          have ha0 := heap_alloc_new x1 (.cells #[.int .i64 (rN 2 S : Nat), .int .u64 0] 73)
          have hown1 := own_ge hT1.own1
          have hown2 := own_ge hT1.own2
          have hqx := hT1.rw.q
          clear hs1 hg1 hT1 hT
          go_wp2_with fail
          refine (r8_any B p (sN 2 S) _ hA.rw.rs).mono ?_
          rintro e x3 ⟨rfl, hs3, hg3⟩
          have hT4 := hA.read hs3 hg3
          have ha4 : x3.heap[x1.heap.size]? = some (.cells #[.int .i64 (rN 2 S : Nat), .int .u64 0] 73) := by
            rw [hg3.block _ (by simp) (by simp; omega)]
            exact ha0
          have hT5 := hT4.high (b := x1.heap.size) (i := 1) hqx (fun k hk => Nat.ne_of_lt (hown1 k hk).2) (fun k hk => Nat.ne_of_lt (hown2 k hk).2) (.int .u64 (rN 8 (sN 2 S) : Nat))
          have ha5 := cells_set (i := 1) (x := .int .u64 (rN 8 (sN 2 S) : Nat)) ha4
          have hc4 : x3.cell? ⟨x1.heap.size, 1, none⟩ = some (.int .u64 0) := by simp [World.cell?, ha4]
          have hf4 : x3.frozen? ⟨x1.heap.size, 1, none⟩ = false := by simp [World.frozen?, ha4]
          clear hs3 hg3 hT4 hA ha0 ha4 hown1 hown2
          go_wp2_with fail
          obtain ⟨X, HX⟩ : ∃ X, X = x3.setCell ⟨x1.heap.size, 1, none⟩ (.int .u64 (rN 8 (sN 2 S) : Nat)) := ⟨_, rfl⟩
          rw [← HX] at hT5 ha5 ⊢
          clear HX hc4 hf4
          obtain ⟨g0, g1⟩ : X.cell? ⟨x1.heap.size, 0, none⟩ = some (.int .i64 (rN 2 S : Nat)) ∧ X.cell? ⟨x1.heap.size, 1, none⟩ = some (.int .u64 (rN 8 (sN 2 S) : Nat)) := by simp [World.cell?, ha5]
          obtain ⟨⟨_, _, _, _, _, _, _, _, _, _, _, q11⟩, hf⟩ := rw_cells hT5.rw.blk
          have htq := lt_of_block ha5
          have hqX := hT5.rw.q
          have hT6 := (hT5.alloc (.cells #[.int .i64 (rN 2 S : Nat), .int .u64 (rN 8 (sN 2 S) : Nat)] 73)).drew
          have hown6 : World.ownsRow _ (q + 1) 73 2 (.slice da L.length dc) L.length (disC L) := hT6.own2
          have Hsz : Hid (q + 1 ≤ X.heap.size + 1) := by show _ ≤ _; omega
          clear hT5 ha5
          have HT6 := (show Hid _ from hT6)
          clear hT6
          go_region_law (refine step_append_own rfl (.tmp 49) (.tmp 51) 29 rfl (q + 1) 73 i2 (.agg #[.int .i64 0, .int .u64 0]) 2 16 Try.underlying29 hi2 hz20 hz21 hz22 rfl (by decide) (.slice da L.length dc) L.length (disC L) rfl hown6 ⟨X.heap.size, 0, none⟩ 1 1 [_, _] rfl rfl (two_new _ _ _ _) (by intro u hu; simp at hu; rcases hu with rfl | rfl <;> rfl) (by unfold maxLen; omega) (by omega) (by simpa using Hsz.out) ?_; intro v' y1 hown' hgrow; obtain ⟨ay, cy, rfl⟩ := ownsRow_shape hown'; obtain ⟨⟨p0, p1, p2, p3, p4, p5, p6, p7, p8, p9, p10, p11⟩, hfy⟩ := rw_cells (HT6.out.rw.grown (fun k hk => (own_ge HT6.out.own2 k hk).1) hgrow).blk)
          all_goals
            have hT7 : TW w0 (y1.setCell ⟨q, 11, none⟩ (.slice ay (L.length + 1) cy)) B p q (diS S) { r2 with dirty := L ++ [diR S] } ta tc ay cy := HT6.out.dir (t := diR S) hgrow hown'
            have HT7 := (show Hid _ from hT7)
            clear hT7 hown' hgrow hown6 p0 p1 p2 p3 p4 p5 p6 p7 p8 p9 p10 p11 hfy
            go_wp2
            go_roundw
            case rel => exact ⟨j + 1, by omega, by go_num, ay, cy, by show TW w0 _ B p q (diS (disS j s3)) { r2 with dirty := disR j s3 ++ [diR (disS j s3)] } ta tc ay cy; rw [← HS.out, ← HL.out]; exact HT7.out⟩
            case measure => simp [intOf]; omega
        · obtain rfl : j = n2 := by omega
          go_wp2
          go_end0
          refine ⟨rfl, ta, tc, da, dc, ?_⟩
          have e1 : tabS s = disS j s3 := by
            unfold tabS
            rw [← Hn1.out, ← Hs1.out, ← Hs2.out, ← Hn2.out, ← Hs3.out]
          have e2 : tabR s r = { r2 with dirty := disR j s3 } := by
            unfold tabR
            rw [← Hn1.out, ← Hs1.out, ← Hs2.out, ← Hn2.out, ← Hs3.out, Hr2.out]
            simp only [Hr.out.1, Hr.out.2, List.nil_append]
          rw [e1, e2]
          exact hT

end Go.Proofs.Ytjhjicokbdloiaa
