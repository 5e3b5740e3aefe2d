/-
  The walks of the document's More, Sum, Four and Seal.
-/
import Derived.Test.YticadfaclnimgaaMo
namespace Go.Proofs.Yticadfaclnimgaa
open Go.RowKit

theorem crun_snoc8 (n : Nat) (l : List UInt8) (b : UInt8) : crun n (l ++ [b]) = zrun 8 (crun n l ^^^ b.toNat) := by
  rw [crun_append]
  rfl

theorem refmore_any (s : Nat) (b : ByteArray) (w : World) (hs : s < 4294967296) (hl : b.size ≤ maxLen) :
    Calls Try.prog 64 #[.int .u32 (s : Int), .string b] w fun e w' => e = .returned (.int .u32 ((more s b.data.toList : Nat) : Int)) ∧ w' = w := by
  unfold maxLen at hl
  have e0 : IntKind.u32.wrap (4294967295 - (s : Int)) = ((4294967295 - s : Nat) : Int) := by rw [IntKind.wrap_u32]; omega
  go_enter Try.func64, Try.ntmps64
  go_wp2_with fail
  clear e0
  go_loop [5, 6] (fun r i => ∃ k : Nat, k ≤ b.size ∧ r = .int .u32 ((crun (4294967295 - s) (b.data.toList.take k) : Nat) : Int) ∧ i = .int .i64 k) (fun _ i => b.size - (intOf i).toNat)
  case atStart => exact ⟨0, by omega, rfl, rfl⟩
  case round =>
    obtain ⟨k, hk, rfl, rfl⟩ := hrel
    by_cases hlt : k < b.size
    · have hr := crun_lt (4294967295 - s) (b.data.toList.take k) (by omega)
      have hkl : k < b.data.toList.length := by have : b.data.toList.length = b.size := (by simp); omega
      obtain ⟨r', Hr⟩ : ∃ r', Hid (r' = crun (4294967295 - s) (b.data.toList.take (k + 1))) := ⟨_, rfl⟩
      have Hs : Hid (r' = zrun 8 (crun (4294967295 - s) (b.data.toList.take k) ^^^ (b[k]'hlt).toNat)) := by
        show _ = _
        rw [Hr.out, List.take_succ_eq_append_getElem hkl, crun_snoc8]
        rfl
      generalize crun (4294967295 - s) (b.data.toList.take k) = r at *
      have hbb : 0 ≤ (k : Int) ∧ (k : Int) < b.size := by omega
      clear hkl
      go_wp2
      have hq : (b[k]'hlt).toNat < 256 := UInt8.toNat_lt _
      have hq2 : ((b[k]'hlt).toNat : Int) % 4294967296 = (b[k]'hlt).toNat := by omega
      rw [hq2]
      clear hq2
      generalize (b[k]'hlt).toNat = q at *
      go_loop [5, 7, 8] (fun n x i => ∃ j n0 x0 : Nat, j ≤ 8 ∧ n0 < 4294967296 ∧ x0 = q / 2 ^ j ∧ n0 ^^^ x0 = zrun j (r ^^^ q) ∧ n = .int .u32 (n0 : Int) ∧ x = .int .u32 (x0 : Int) ∧ i = .int .i64 j) (fun _ _ i => 8 - (intOf i).toNat)
      case atStart => exact ⟨0, r, q, by omega, hr, by simp, rfl, rfl, rfl, rfl⟩
      case round =>
        obtain ⟨j, n0, x0, hj, hn0, hx0, hnx, rfl, rfl, rfl⟩ := hrel
        by_cases hjl : j < 8
        · have hx1 : x0 / 2 = q / 2 ^ (j + 1) := by rw [hx0, Nat.div_div_eq_div_mul, Nat.pow_succ]
          have hst := side_step n0 x0
          rw [hnx, ← zrun_succ] at hst
          have hx9 : x0 < 4294967296 := by rw [hx0]; exact Nat.lt_of_le_of_lt (Nat.div_le_self _ _) (by omega)
          have HN : Hid (n0 ^^^ x0 = zrun j (r ^^^ q)) := hnx
          have HX : Hid (x0 = q / 2 ^ j) := hx0
          have HX1 : Hid (x0 / 2 = q / 2 ^ (j + 1)) := hx1
          clear hnx hx0 hx1
          by_cases hd : n0 % 2 = x0 % 2
          · rw [if_neg (by omega), Nat.xor_zero] at hst
            have HS : Hid ((n0 / 2) ^^^ (x0 / 2) = zrun (j + 1) (r ^^^ q)) := hst
            clear hst
            have hdi : ((n0 : Int) % 2) = ((x0 : Int) % 2) := by omega
            go_wp2
            go_round
            case rel => exact ⟨j + 1, n0 / 2, x0 / 2, by omega, by omega, HX1.out, HS.out, by simp, by simp, by go_num⟩
            case measure => simp [intOf]; omega
          · rw [if_pos hd] at hst
            have hnp : n0 / 2 ^^^ poly < 4294967296 := Nat.xor_lt_two_pow (n := 32) (by omega) (by decide)
            have hxp := u32_xor_nat (n0 / 2) poly (by omega) (by decide)
            rw [show ((n0 / 2 : Nat) : Int) = (n0 : Int) / 2 by omega, show ((poly : Nat) : Int) = 2197175160 from rfl] at hxp
            generalize n0 / 2 ^^^ poly = n1 at *
            have HS : Hid (n1 ^^^ (x0 / 2) = zrun (j + 1) (r ^^^ q)) := hst
            clear hst
            have hdi : ¬ (((n0 : Int) % 2) = ((x0 : Int) % 2)) := by omega
            go_wp2
            go_round
            case rel => exact ⟨j + 1, n1, x0 / 2, by omega, by omega, HX1.out, HS.out, by simp, by simp, by go_num⟩
            case measure => simp [intOf]; omega
        · have e : zrun 8 (r ^^^ q) = n0 := by
            have h8 : j = 8 := by omega
            subst h8
            have : x0 = 0 := by omega
            rw [this, Nat.xor_zero] at hnx
            exact hnx.symm
          have e2 : r' = n0 := by rw [Hs.out, e]
          clear hnx hx0 e
          go_wp2
          go_round
          case rel => exact ⟨k + 1, by omega, by rw [← Hr.out, e2], by go_num⟩
          case measure => simp [intOf]; omega
    · have e : b.data.toList.take k = b.data.toList := List.take_of_length_le (by have : b.data.toList.length = b.size := (by simp); omega)
      rw [e]
      have hr := crun_lt (4294967295 - s) b.data.toList (by omega)
      have e0 : IntKind.u32.wrap (4294967295 - ((crun (4294967295 - s) b.data.toList : Nat) : Int)) = ((more s b.data.toList : Nat) : Int) := by
        rw [IntKind.wrap_u32]
        unfold more
        omega
      generalize crun (4294967295 - s) b.data.toList = r at *
      go_wp2
      go_ret
      exact ⟨rfl, rfl⟩
theorem refsum_any (b : ByteArray) (w : World) (hl : b.size ≤ maxLen) :
    Calls Try.prog 51 #[.string b] w fun e w' => e = .returned (.int .u32 ((more 0 b.data.toList : Nat) : Int)) ∧ w' = w := by
  have hc := refmore_any 0 b w (by omega) hl
  go_enter Try.func51, Try.ntmps51
  go_wp2_with fail
  refine hc.mono ?_
  rintro e w1 ⟨rfl, hw⟩
  obtain rfl := hw.symm
  go_wp2
  go_ret
  exact ⟨rfl, rfl⟩

theorem conv_slB {W : World} {a : Option Addr} {c : Nat} {l : List UInt8} (h : SlB W a l) : (convert 99 9 (.slice a l.length c)).run Try.prog W = .ok (.string ⟨l.toArray⟩) W := by
  cases a with
  | none =>
    have := h.nonil rfl
    subst this
    exact run_convert_bytes_nil W 99 5 Try.underlying99 Try.underlying5 _ _ 9 Try.underlying9
  | some x =>
    exact run_convert_bytes_back W 99 9 5 x c l Try.underlying99 Try.underlying5 Try.underlying9 (fun j hj => h.cells x rfl j _ (by simp [bcells, List.getElem?_eq_getElem hj]))

theorem slB_new (w : World) (l : List UInt8) (fr : Nat × Nat) : SlB (w.alloc (.cells (bcells l).toArray 5 fr)) (some ⟨w.heap.size, 0, none⟩) l :=
  ⟨fun h => by simp at h, fun x hx j u hu => by
    simp at hx
    subst hx
    have e : (⟨w.heap.size, 0, none⟩ : Addr).add j = ⟨w.heap.size, j, none⟩ := by unfold Addr.add; split <;> simp_all
    rw [e]
    have hh := heap_alloc_new w (.cells (bcells l).toArray 5 fr)
    simp only [World.cell?, hh]
    rw [← hu]
    simp⟩

theorem four_cells (n : Nat) (hn : n < 4294967296) : (#[.int .u8 ((n : Int) % 256), .int .u8 ((n : Int) / 256 % 256), .int .u8 ((n : Int) / 65536 % 256), .int .u8 ((n : Int) / 16777216)] : Array Value) = (bcells (leB n 4)).toArray := by
  simp [bcells, leB]
  omega

theorem four_any (n : Nat) (w : World) (hn : n < 4294967296) :
    Calls Try.prog 50 #[.int .u32 (n : Int)] w fun e w' => e = .returned (.string ⟨(leB n 4).toArray⟩) ∧ Below w.heap.size w w' := by
  have hcv := conv_slB (c := 4) (slB_new w (leB n 4) (0, 0))
  rw [leB_length, ← four_cells n hn] at hcv
  generalize (⟨(leB n 4).toArray⟩ : ByteArray) = t at *
  go_enter Try.func50, Try.ntmps50
  go_wp2
  go_ret
  exact ⟨rfl, (Below.refl _ _).alloc (Nat.le_refl _) _⟩

/-- A sum's bytes behind what it is the sum of. -/
def sealB (l : List UInt8) : List UInt8 := l ++ leB (more 0 l) 4
theorem sealB_length (l : List UInt8) : (sealB l).length = l.length + 4 := by simp [sealB, leB_length]

theorem refseal_any (b : ByteArray) (w : World) (hl : b.size + 4 ≤ maxLen) :
    Calls Try.prog 32 #[.string b] w fun e w' => e = .returned (.string ⟨(sealB b.data.toList).toArray⟩) ∧ Below w.heap.size w w' := by
  have hc := refsum_any b w (by omega)
  unfold maxLen at hl
  go_enter Try.func32, Try.ntmps32
  go_wp2_with fail
  refine hc.mono ?_
  rintro e w1 ⟨rfl, hw⟩
  obtain rfl := hw.symm
  go_wp2_with fail
  refine (four_any _ _ (more_lt _ _)).mono ?_
  rintro e w2 ⟨rfl, hb2⟩
  have hsz : (ByteArray.mk (leB (more 0 b.data.toList) 4).toArray).size = 4 := by simp [ByteArray.size, leB_length]
  go_wp2
  go_ret
  exact ⟨rfl, hb2⟩
end Go.Proofs.Yticadfaclnimgaa
