/-
  filled, long, lives.
-/
import Derived.Test.YtbigclhfgcaccaaBf
namespace Go.Proofs.Ytbigclhfgcaccaa
open Go.RowKit

theorem set_rep (n k : Nat) (f : UInt8) (h : k < n) : (List.replicate k f ++ List.replicate (n - k) 0).set k f = List.replicate (k + 1) f ++ List.replicate (n - (k + 1)) 0 := by
  rw [List.set_append_right _ _ (by simp)]
  simp only [List.length_replicate, Nat.sub_self]
  rw [show n - k = (n - (k + 1)) + 1 by omega, List.replicate_succ, List.set_cons_zero, List.replicate_succ' (n := k)]
  simp

set_option maxHeartbeats 1000000 in
theorem filled_any (n : Nat) (f : UInt8) (w : World) (hn : n ≤ 1000000) :
    Calls Try.prog 17 #[.int .i64 (n : Int), .int .u8 (f.toNat : Int)] w fun e w' => e = .returned (.slice (some ⟨w.heap.size, 0, none⟩) n n) ∧ Buf w' w.heap.size (List.replicate n f) ∧ w'.heap.size = w.heap.size + 1 ∧ Below w.heap.size w w' := by
  have hm := make_run n hn w
  obtain ⟨W, hW⟩ : ∃ W, W = w.alloc (.cells (bcells (List.replicate n 0)).toArray 5) := ⟨_, rfl⟩
  have hB : Buf W w.heap.size (List.replicate n 0) := by rw [hW]; exact Buf.new w _
  have hb : Below w.heap.size w W := by rw [hW]; exact (Below.refl _ w).alloc (Nat.le_refl _) _
  have hsz : W.heap.size = w.heap.size + 1 := by rw [hW]; simp
  rw [← hW] at hm
  clear hW
  go_enter Try.func17, Try.ntmps17
  go_wp2_with fail
  go_loopw [6] (fun i wr => ∃ k : Nat, k ≤ n ∧ i = .int .i64 k ∧ Buf wr w.heap.size (List.replicate k f ++ List.replicate (n - k) 0) ∧ wr.heap.size = w.heap.size + 1 ∧ Below w.heap.size w wr) (fun i _ => n - (intOf i).toNat)
  case atStart => exact ⟨0, Nat.zero_le _, rfl, by simpa using hB, hsz, hb⟩
  case round =>
    clear hB hb hsz hm
    obtain ⟨k, hk, rfl, hB, hsz, hb⟩ := hrel
    by_cases hlt : k < n
    · obtain ⟨x, c0⟩ : ∃ x : Int, wr.cell? ⟨w.heap.size, k, none⟩ = some (.int .u8 x) := ⟨_, (hB.cell k (by simp; omega)).1⟩
      have f0 := (hB.cell k (by simp; omega)).2
      have HB := (show Hid _ from hB.set k f)
      have hS := set_rep n k f hlt
      have HS : Hid _ := hS
      have HT : Hid _ := hb.setCell (p := ⟨w.heap.size, k, none⟩) (Nat.le_refl _) (.int .u8 (f.toNat : Int))
      clear hB hS hb
      go_wp2_with fail
      go_roundw
      case rel => exact ⟨k + 1, by omega, by simp, by rw [← HS.out]; exact HB.out, by simpa using hsz, HT.out⟩
      case measure => first | omega | (simp only [intOf]; omega)
    · obtain rfl : k = n := by omega
      rw [Nat.sub_self, List.replicate_zero, List.append_nil] at hB
      go_wp2_with fail
      go_ret
      exact ⟨rfl, hB, hsz, hb⟩

/-- A step of a statement. -/
structure Op where
  kind : Int
  hand : Int
  place : Int
  n : Int
  fill : UInt8
abbrev opV (o : Op) : Array Value := #[.int .i64 o.kind, .int .i64 o.hand, .int .i64 o.place, .int .i64 o.n, .int .u8 (o.fill.toNat : Int)]
structure GoodO (o : Op) : Prop where
  kind : I64 o.kind
  hand : I64 o.hand
  place : I64 o.place
  n : I64 o.n

def long (n : Int) : Int := if 40 < n ∨ n < -3000 then -1 else if n < 0 then -n else 64 * n
theorem long_le (n : Int) : long n ≤ 3000 := by unfold long; split; omega; split <;> omega

theorem long_any (o : Op) (w : World) : Calls Try.prog 22 #[.agg (opV o)] w fun e w' => e = .returned (.int .i64 (long o.n)) ∧ Below w.heap.size w w' := by
  have hB := (Below.refl w.heap.size w).alloc (Nat.le_refl _) (.cells (opV o) 49)
  unfold long
  obtain ⟨kd, hd, pl, n, f⟩ := o
  dsimp only [opV] at *
  by_cases h1 : 40 < n
  · rw [if_pos (by omega)]
    go_enter Try.func22, Try.ntmps22
    go_wp2_with fail
    go_ret
    exact ⟨rfl, hB⟩
  · by_cases h2 : n < -3000
    · rw [if_pos (by omega)]
      go_enter Try.func22, Try.ntmps22
      go_wp2_with fail
      go_ret
      exact ⟨rfl, hB⟩
    · rw [if_neg (by omega)]
      by_cases h3 : n < 0
      · rw [if_pos h3]
        go_enter Try.func22, Try.ntmps22
        go_wp2_with fail
        go_ret
        exact ⟨rfl, hB⟩
      · rw [if_neg h3]
        go_enter Try.func22, Try.ntmps22
        go_wp2_with fail
        go_ret
        exact ⟨rfl, hB⟩

/-- What a device holds, told as one value. -/
theorem Buf.slB0 {w : World} {G : Nat} {L : List UInt8} (h : Buf w G L) : SlB w (some ⟨G, 0, none⟩) L := h.slB 0

/-- The chapter's example. -/
def live0 : Dv := ⟨List.replicate 128 0, List.replicate 8 none⟩
def live1 : Dv := ⟨List.replicate 128 0, (List.replicate 8 none).set 0 (some (64, List.replicate 64 7))⟩
theorem live_s : startE live0 0 64 (List.replicate 64 7) = 0 := by kernel_rfl
theorem live_d : startD live0 0 64 (List.replicate 64 7) = live1 := by unfold startD; rw [if_pos live_s]; kernel_rfl
theorem live_f : finE live1 0 = 0 := by kernel_rfl
theorem live_b : ((finD live1 0 1024).b.drop 64).take 64 = List.replicate 64 7 := by kernel_rfl
theorem live_z : (live1.b.drop 64).take 64 = List.replicate 64 0 := by kernel_rfl
theorem live_l : (finD live1 0 1024).b.length = 128 := by kernel_rfl

set_option maxHeartbeats 2000000 in
theorem lives_any (w : World) : Calls Try.prog 11 #[] w fun e w' => e = .returned (.bool true) ∧ Below w.heap.size w w' := by
  go_enter Try.func11, Try.ntmps11
  go_wp2_with fail
  refine (new_yes 128 w (by omega) (by omega)).mono ?_
  rintro e w1 ⟨rfl, hw1⟩
  have hD := Dev.new 128 w [] (fun k hk => by simp at hk) (by omega) (by omega)
  have hb1 : Below w.heap.size w w1 := by rw [hw1]; exact ((Below.refl _ w).alloc (Nat.le_refl _) _).alloc (by simp) _
  rw [← hw1] at hD
  clear hw1
  go_wp2_with fail
  refine (filled_any 64 7 w1 (by omega)).mono ?_
  rintro e w2 ⟨rfl, hB2, hz2, hb2⟩
  have hD2 := hD.below hb2
  clear hD
  have HS := start_any (w.heap.size + 1) w.heap.size 0 64 (some ⟨w1.heap.size, 0, none⟩) 64 (List.replicate 64 7) live0 [] w2 hD2 (fun k hk => by simp at hk) (by omega) hB2.slB0 (by simp)
  rw [live_s, live_d] at HS
  have hb12 := hb1.trans (hb2.mono hb1.size)
  clear hB2 hz2 hb2 hD2
  go_wp2_with fail
  refine HS.mono ?_
  rintro e w3 ⟨rfl, hD3, ht3⟩
  have hb3 := hb12.trans (ht3.below (by omega) (Nat.le_refl _) hb12.size)
  clear HS hb12 ht3
  have HR := read_any _ _ 64 64 live1 _ w3 hD3 (by simp [live1])
  rw [live_z] at HR
  go_wp2_with fail
  refine HR.mono ?_
  rintro e w4 ⟨rfl, hB4, hz4, hb4⟩
  have hD4 := hD3.below hb4
  have hb4' := hb3.trans (hb4.mono hb3.size)
  have c4 : w4.cell? ⟨w3.heap.size, 0, none⟩ = some (.int .u8 0) := (hB4.cell 0 (by simp)).1
  clear HR hD3 hB4
  have HF := finish_any _ _ 0 live1 _ w4 hD4
  rw [live_f] at HF
  go_wp2_with fail
  refine HF.mono ?_
  rintro e w5 ⟨rfl, hD5, ht5⟩
  have hb5 := hb4'.trans (ht5.below (by omega) (Nat.le_refl _) hb4'.size)
  clear HF hb4' ht5 hb4 c4 hD4 hz4
  have HR := read_any _ _ 64 64 (finD live1 0 1024) _ w5 hD5 (by
    rw [live_l]; omega)
  rw [live_b] at HR
  clear hD5
  go_wp2_with fail
  refine HR.mono ?_
  rintro e w6 ⟨rfl, hB6, hz6, hb6⟩
  have hb6' := hb5.trans (hb6.mono hb5.size)
  have c6 : w6.cell? ⟨w5.heap.size, 63, none⟩ = some (.int .u8 7) := (hB6.cell 63 (by simp)).1
  clear HR hB6
  go_wp2_with fail
  go_ret
  exact ⟨rfl, hb6'⟩

end Go.Proofs.Ytbigclhfgcaccaa
