/-
  The walks of More, Sum and lives.
-/
import Derived.Test.YtebchgoaelamcaaDoorNib
import Derived.Lib.SlBytesConst
namespace Go.Proofs.YtebchgoaelamcaaDoor
open Go.RowKit
set_option maxRecDepth 100000

theorem SlB.atc {w : World} {g o : Nat} {sp : Option Nat} {l : List UInt8} (h : SlB w (some ⟨g, o, sp⟩) l) (j : Nat) (hj : j < l.length) : sp = none ∧ w.cell? ⟨g, o + j, none⟩ = some (.int .u8 ((l[j]'hj).toNat : Nat)) := by
  have h0 := h.cells _ rfl 0 (.int .u8 ((l[0]'(by omega)).toNat : Nat)) (by simp [bcells, List.getElem?_eq_getElem (show 0 < l.length by omega)])
  have hs := World.cell?_spot h0
  obtain rfl : sp = none := by simpa [Addr.add] using hs
  refine ⟨rfl, ?_⟩
  have := h.cells _ rfl j (.int .u8 ((l[j]'hj).toNat : Nat)) (by simp [bcells, List.getElem?_eq_getElem hj])
  rw [← this]
  congr 1
  unfold Addr.add
  split <;> simp_all

/-- Four bits by the table, as the program takes them. -/
theorem nib_look (r : Nat) (h : r < 4294967296) : ∃ m t : Nat, bits .and .u32 (r : Int) 15 = (m : Int) ∧ m < 16 ∧ tab[m]? = some (.int .u32 (t : Int)) ∧ bits .xor .u32 ((r : Int) / 16) (t : Int) = ((zrun 4 r : Nat) : Int) := by
  refine ⟨r % 16, zrun 4 (r % 16), ?_, by omega, ?_, ?_⟩
  · have := u32_and_nat r 15 h (by omega)
    rw [nat_mask4] at this
    exact this
  · rw [← tab_eq, tabc_at 16 _ (by omega)]
    simp [show r % 16 < 16 by omega]
  · have := u32_xor_nat (r / 16) (zrun 4 (r % 16)) (by omega) (zrun_lt _ _ (by omega))
    rw [zrun_table 4 r, Nat.xor_comm]
    simpa using this

theorem not_u32 (s : Nat) (h : s < 4294967296) : bits .xor .u32 IntKind.u32.max (s : Int) = ((4294967295 - s : Nat) : Int) := by
  have := u32_xor_nat 4294967295 s (by omega) h
  rw [Nat.xor_comm, ← not32 s h] at this
  exact this

theorem crun_snoc (n : Nat) (l : List UInt8) (b : UInt8) : crun n (l ++ [b]) = zrun 4 (zrun 4 (crun n l ^^^ b.toNat)) := by
  rw [crun_append, ← zrun_add]
  rfl

theorem more_any (s : Nat) (a : Option Addr) (c : Nat) (l : List UInt8) (w : World) (hsl : SlB w a l) (hs : s < 4294967296) (hl : l.length ≤ maxLen) :
    Calls Tryd.prog 67 #[.int .u32 (s : Int), .slice a l.length c] w fun e w' => e = .returned (.int .u32 ((more s l : Nat) : Int)) ∧ Below w.heap.size w w' := by
  unfold maxLen at hl
  go_enter Tryd.func67, Tryd.ntmps67
  go_wp2_with fail
  refine (nibbles_any _).mono ?_
  rintro e w1 ⟨rfl, hb1⟩
  unfold tab
  go_wp2_with fail
  rw [not_u32 s hs]
  generalize hw2 : w1.alloc (.cells _ 128) = w2
  generalize Value.agg _ = t9
  have hb2 : Below w.heap.size w w2 := by rw [← hw2]; exact hb1.alloc hb1.size _
  have htab : ∀ m t : Nat, tab[m]? = some (.int .u32 (t : Int)) → w2.cell? ⟨w1.heap.size, m, none⟩ = some (.int .u32 (t : Int)) := by
    intro m t hm
    rw [← hw2]
    have hh : (w1.alloc (.cells tab 128)).heap[w1.heap.size]? = some (.cells tab 128) := heap_alloc_new w1 _
    have : (w1.alloc (.cells tab 128)).cell? ⟨w1.heap.size, m, none⟩ = some (.int .u32 (t : Int)) := by
      simp only [World.cell?, hh]
      rw [hm]
      rfl
    exact this
  have hg1 : w1.heap.size < w2.heap.size := by rw [← hw2]; simp
  have h2 : SlB w2 a l := hsl.below hb2
  generalize w1.heap.size = g1 at *
  clear hw2 hsl hb1
  have HB : Hid (Below w.heap.size w w2) := hb2
  clear hb2
  go_loop [6, 14] (fun r i => ∃ k : Nat, k ≤ l.length ∧ r = .int .u32 ((crun (4294967295 - s) (l.take k) : Nat) : Int) ∧ i = .int .i64 k) (fun _ i => l.length - (intOf i).toNat)
  case atStart => exact ⟨0, by omega, rfl, rfl⟩
  case round =>
    obtain ⟨k, hk, rfl, rfl⟩ := hrel
    by_cases hlt : k < l.length
    · cases a with
      | none => have := h2.nonil rfl; subst this; simp at hlt
      | some x =>
        obtain ⟨g, o, sp⟩ := x
        obtain ⟨rfl, hcell⟩ := h2.atc k hlt
        have hg := World.block_lt_of_cell? _ _ hcell
        have hr := crun_lt (4294967295 - s) (l.take k) (by omega)
        obtain ⟨r', Hr⟩ : ∃ r', Hid (r' = crun (4294967295 - s) (l.take (k + 1))) := ⟨_, rfl⟩
        have Hs : Hid (r' = zrun 4 (zrun 4 (crun (4294967295 - s) (l.take k) ^^^ l[k].toNat))) := by
          show _ = _
          rw [Hr.out, List.take_succ_eq_append_getElem hlt, crun_snoc]
        have hb := l[k].toNat_lt
        have hx := u32_xor_nat (crun (4294967295 - s) (l.take k)) l[k].toNat hr (by omega)
        have hq : crun (4294967295 - s) (l.take k) ^^^ l[k].toNat < 4294967296 := Nat.xor_lt_two_pow (n := 32) hr (by omega)
        generalize crun (4294967295 - s) (l.take k) ^^^ l[k].toNat = q at *
        generalize crun (4294967295 - s) (l.take k) = r at *
        generalize l[k].toNat = b at *
        go_wp2
        go_loop [6, 22] (fun r i => ∃ j : Nat, j ≤ 2 ∧ r = .int .u32 ((zrun (4 * j) q : Nat) : Int) ∧ i = .int .i64 j) (fun _ i => 2 - (intOf i).toNat)
        case atStart => exact ⟨0, by omega, rfl, rfl⟩
        case round =>
          obtain ⟨j, hj, rfl, rfl⟩ := hrel
          by_cases hjl : j < 2
          · have hz := zrun_lt (4 * j) q hq
            obtain ⟨m, t, hm, hm16, hmt, hmx⟩ := nib_look _ hz
            have hcm := htab m t hmt
            have Hz : Hid (zrun 4 (zrun (4 * j) q) = zrun (4 * (j + 1)) q) := by show _ = _; rw [← zrun_add]; rfl
            generalize zrun 4 (zrun (4 * j) q) = z' at *
            generalize zrun (4 * j) q = z at *
            clear hcell hmt htab hx
            go_wp2
            go_round
            case rel => exact ⟨j + 1, by omega, by rw [Hz.out], by go_num⟩
            case measure => simp [intOf]; omega
          · have e : zrun (4 * j) q = r' := by rw [Hs.out, show j = 2 by omega, ← zrun_add]
            rw [e]
            go_wp2
            go_round
            case rel => exact ⟨k + 1, by omega, by rw [Hr.out], by go_num⟩
            case measure => simp [intOf]; omega
    · have e : l.take k = l := List.take_of_length_le (by omega)
      rw [e]
      go_wp2
      go_ret
      refine ⟨?_, HB.out⟩
      rw [not_u32 _ (crun_lt _ _ (by omega))]
      rfl
theorem sum_any (a : Option Addr) (c : Nat) (l : List UInt8) (w : World) (hsl : SlB w a l) (hl : l.length ≤ maxLen) :
    Calls Tryd.prog 42 #[.slice a l.length c] w fun e w' => e = .returned (.int .u32 ((more 0 l : Nat) : Int)) ∧ Below w.heap.size w w' := by
  have hc := more_any 0 a c l w hsl (by omega) hl
  go_enter Tryd.func42, Tryd.ntmps42
  go_wp2_with fail
  refine hc.mono ?_
  rintro e w1 ⟨rfl, hb1⟩
  go_wp2
  go_ret
  exact ⟨rfl, hb1⟩

end Go.Proofs.YtebchgoaelamcaaDoor
