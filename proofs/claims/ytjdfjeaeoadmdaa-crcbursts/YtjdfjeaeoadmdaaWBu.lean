/-
  The walk of CrcBursts.
-/
import Derived.Test.YtjdfjeaeoadmdaaBu
namespace Go.Proofs.Ytjdfjeaeoadmdaa
open Go.RowKit

theorem from_at (x : Int) (m : Nat) (hm : m ≤ 1000000000) : ∃ f : Nat, wrap64 ((IntKind.u64.wrap x).tmod (8 * ((m : Int) + 4) - 31)) = (f : Int) ∧ f + 32 ≤ 8 * (m + 4) := by
  have hx : 0 ≤ IntKind.u64.wrap x := by simp [IntKind.wrap, IntKind.bits, IntKind.signed]; omega
  have h1 := Int.tmod_nonneg (8 * ((m : Int) + 4) - 31) hx
  have h2 := Int.tmod_lt_of_pos (IntKind.u64.wrap x) (show 0 < 8 * ((m : Int) + 4) - 31 by omega)
  generalize (IntKind.u64.wrap x).tmod (8 * ((m : Int) + 4) - 31) = y at *
  refine ⟨y.toNat, ?_, by omega⟩
  unfold wrap64
  omega

/-- A bit of a byte turned, as the law turns it. -/
theorem turn_byte (b : UInt8) (r : Nat) (hr : r < 8) : bits .xor .u8 (b.toNat : Int) (2 ^ r) = ((b ^^^ UInt8.ofNat (2 ^ r)).toNat : Int) := by
  have hb := b.toNat_lt
  have hp : 2 ^ r < 256 := Nat.lt_of_lt_of_le (Nat.pow_lt_pow_right (by decide) hr) (by decide)
  have := u8_xor_nat b.toNat (2 ^ r) hb hp
  rw [show (((2 : Nat) ^ r : Nat) : Int) = (2 : Int) ^ r by simp] at this
  rw [this, UInt8.toNat_xor, UInt8.toNat_ofNat', Nat.mod_eq_of_lt hp]

theorem pow_small : ∀ r, r < 8 → (2 : Int) ^ r % 256 = 2 ^ r := by decide
theorem pow_byte : ∀ r, r < 8 → (UInt8.ofNat (2 ^ r)).toNat = 2 ^ r := by decide

theorem RowB.drew {w : World} {g : Nat} {l : List UInt8} (h : RowB w g l) : RowB w.drew g l := ⟨h.cell, h.free⟩

set_option maxHeartbeats 1000000 in
theorem burst_walk (a : Option Addr) (c : Nat) (l : List UInt8) (at0 : Int) (n : Nat) (w : World) (hsl : SlB w a l) (hl : l.length ≤ 140737488355328) (hnil : a = none → c = 0) (hn : n < 4294967296) :
    Calls Try.prog 8 #[.slice a l.length c, .int .i64 at0, .int .u32 (n : Int)] w fun e w' => e = .returned (.bool true) ∧ Below w.heap.size w w' := by
  by_cases hn0 : n = 0
  · subst hn0
    go_enter Try.func8, Try.ntmps8
    go_wp2_with (go_at_call 9; go_must (refine (lives_any _).mono ?_); rintro e w' ⟨rfl, hb⟩)
    go_ret
    exact ⟨rfl, hb⟩
  · have hni : ¬ ((n : Int) = 0) := by omega
    by_cases hlong : 5000 < l.length
    · go_enter Try.func8, Try.ntmps8
      go_wp2_with (go_at_call 9; go_must (refine (lives_any _).mono ?_); rintro e w' ⟨rfl, hb⟩)
      go_ret
      exact ⟨rfl, hb⟩
    · have hnb : ((n : Int) == 0) = false := by simpa using hni
      have hlb : decide ((5000 : Int) < (l.length : Int)) = false := by simp; omega
      have hseal := seal_any a c l w hsl (by omega) hnil
      go_enter Try.func8, Try.ntmps8
      go_wp2_with fail
      refine hseal.mono ?_
      rintro e w2 ⟨r2, rfl, hown2, hb2⟩
      obtain ⟨g, cx, rfl, hg1, hg2, hcx1, hcx2⟩ := own_some hown2 (by omega)
      have hrow2 := rowB_of_own hown2 (sealB_length l).symm
      unfold maxLen at hcx2
      have hs2 := hb2.size
      clear hseal hsl hown2
      go_wp2_with fail
      obtain ⟨f, hf, hf32⟩ := from_at at0 l.length (by omega)
      rw [hf]
      clear hf hni hnb hlb
      have HL : Hid ((sealB l).length = l.length + 4) := sealB_length l
      go_loopw [9] (fun i ws => ∃ (k : Nat) (lk : List UInt8), k ≤ 32 ∧ i = .int .i64 k ∧ lk.length = l.length + 4 ∧ leN lk = leN (sealB l) ^^^ (2 ^ f * (n % 2 ^ k)) ∧ RowB ws g lk ∧ Below w.heap.size w ws) (fun i _ => 32 - (intOf i).toNat)
      case atStart => exact ⟨0, sealB l, by omega, rfl, HL.out, by simp [Nat.mod_one], hrow2, hb2⟩
      case round =>
        obtain ⟨k, lk, hk, rfl, hlk, hleN, hrow, hB⟩ := hrel
        clear hrow2 hb2
        have hsz := hB.size
        by_cases hlt : k < 32
        · have hk0 : (0 : Int) ≤ (k : Int) := by omega
          by_cases hbit : n / 2 ^ k % 2 = 1
          · have hbi : bits .and .u32 ((n : Int) / 2 ^ k) 1 = 1 := by
              have := u32_and_nat (n / 2 ^ k) 1 (Nat.lt_of_le_of_lt (Nat.div_le_self _ _) hn) (by omega)
              rw [nat_mask1, hbit] at this
              simpa using this
            go_wp2
            clear hbi
            obtain ⟨K, hK⟩ : ∃ K : Nat, (f : Int) + (k : Int) = (K : Int) := ⟨f + k, by omega⟩
            rw [hK]
            have HK : Hid (f + k = K) := by show _ = _; omega
            obtain ⟨q, hq, hql⟩ : ∃ q : Nat, (K : Int) / 8 = (q : Int) ∧ q < lk.length := ⟨K / 8, by omega, by have := HK.out; omega⟩
            obtain ⟨r, hr, hr8⟩ : ∃ r : Nat, (K : Int) % 8 = (r : Int) ∧ r < 8 := ⟨K % 8, by omega, by omega⟩
            have HQ : Hid (K = 8 * q + r) := by show _ = _; omega
            have hqi : (q : Int) < (l.length : Int) + 4 := by omega
            have hq0 : (0 : Int) ≤ (q : Int) := by omega
            have hr0 : (0 : Int) ≤ (r : Int) := by omega
            have hr1 : (r : Int) < 8 := by omega
            have hcell := hrow.cell q hql
            have hfree := hrow.free q hql
            have hg := World.block_lt_of_cell? _ _ hcell
            obtain ⟨v, Hv, hturn⟩ : ∃ v : UInt8, Hid (v = lk[q]'hql ^^^ UInt8.ofNat (2 ^ r)) ∧ bits .xor .u8 ((lk[q]'hql).toNat : Int) (2 ^ r) = (v.toNat : Int) := ⟨_, rfl, turn_byte (lk[q]'hql) r hr8⟩
            have hp8 : (2 : Int) ^ r % 256 = 2 ^ r := pow_small r hr8
            have HLEN : Hid (leN (lk.set q v) = leN (sealB l) ^^^ (2 ^ f * (n % 2 ^ (k + 1)))) := by
              show _ = _
              rw [Hv.out, leN_set lk q _ hql, hleN, ← bit_more _ f n k hbit, HK.out, HQ.out, Nat.pow_add, pow_byte r hr8]
            clear hleN
            have hkk : 0 ≤ (K : Int) := by omega
            have hkb : (K : Int) ≤ 100000 := by have := HK.out; omega
            clear hK
            go_region
            all_goals
              have hrow1 := (hrow.set q v).drew
              have hB1 : Below w.heap.size w ((wr.setCell ⟨g, q, none⟩ (.int .u8 (v.toNat : Int))).drew) := (hB.setCell (by simpa using hg1) _).drew
              clear hcell hfree hturn hp8 hrow
              go_wp2
              go_roundw
              case rel => exact ⟨k + 1, lk.set q v, by omega, by go_num, by simpa using hlk, HLEN.out, hrow1, hB1⟩
              case measure => simp [intOf]; omega
          · have hbi : bits .and .u32 ((n : Int) / 2 ^ k) 1 = 0 := by
              have := u32_and_nat (n / 2 ^ k) 1 (Nat.lt_of_le_of_lt (Nat.div_le_self _ _) hn) (by omega)
              rw [nat_mask1, show n / 2 ^ k % 2 = 0 by omega] at this
              simpa using this
            have HN : Hid (leN lk = leN (sealB l) ^^^ (2 ^ f * (n % 2 ^ (k + 1)))) := by show _ = _; rw [hleN, bit_same n k hbit]
            clear hleN
            go_wp2
            go_roundw
            case rel => exact ⟨k + 1, lk, by omega, by go_num, hlk, HN.out, hrow, hB⟩
            case measure => simp [intOf]; omega
        · have hk32 : k = 32 := by omega
          have hnm : n % 2 ^ k = n := by rw [hk32]; exact Nat.mod_eq_of_lt (by omega)
          rw [hnm] at hleN
          have hop := burst_shut l lk f n hn hn0 (by rw [HL.out, hlk]) (by rw [HL.out]; omega) hleN
          have hopen := open_any _ cx lk wr hrow.slB (by omega) (by omega)
          rw [hop, hlk] at hopen
          clear hop hleN hnm hk32 hrow
          go_wp2_with fail
          refine hopen.mono ?_
          rintro e w5 ⟨r5, rfl, hown5, hb5⟩
          obtain ⟨ay, cy, rfl⟩ := ownsRow_shape hown5
          have hB5 := hB.trans (hb5.mono hsz)
          have hsz5 := hB5.size
          clear hopen hown5
          go_wp2_with (go_at_call 9; go_must (refine (lives_any _).mono ?_); rintro e w' ⟨rfl, hb⟩)
          go_ret
          exact ⟨rfl, hB5.trans (hb.mono hsz5)⟩
end Go.Proofs.Ytjdfjeaeoadmdaa
