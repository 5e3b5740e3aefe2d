/-
  The walk of small.
-/
import Derived.Test.YtnejcjebepidcaaRb
namespace Go.Proofs.Ytnejcjebepidcaa
open Go.RowKit

/-- Rows that lie within reach. -/
def Wd (r : Rc) : Prop := r.txns.length ≤ 140737488355328 ∧ r.dirty.length ≤ 140737488355328
def wt (r : Rc) : Nat := 1 + r.txns.length + r.dirty.length
def tot (l : List Rc) : Nat := (l.map wt).sum
theorem tot_append (l m : List Rc) : tot (l ++ m) = tot l + tot m := by simp [tot]
theorem tot_len (l : List Rc) : l.length ≤ tot l := by
  induction l with
  | nil => simp [tot]
  | cons a r ih => simp [tot, wt] at *; omega
theorem tot_mem {l : List Rc} {r : Rc} (h : r ∈ l) : wt r ≤ tot l := by
  induction l with
  | nil => simp at h
  | cons a s ih =>
    rcases List.mem_cons.1 h with rfl | h
    · simp [tot]
    · have := ih h
      simp [tot] at *
      omega
theorem tot_take {l : List Rc} {k : Nat} (h : k < l.length) : tot (l.take (k + 1)) = tot (l.take k) + wt l[k] := by
  rw [List.take_succ_eq_append_getElem h, tot_append]
  simp [tot]
theorem tot_logs {l : List (List Rc)} {i : Nat} (h : i < l.length) : tot (l.take (i + 1)).flatten = tot (l.take i).flatten + tot l[i] := by
  rw [List.take_succ_eq_append_getElem h, List.flatten_append, tot_append]
  simp

set_option maxRecDepth 100000 in
set_option maxHeartbeats 4000000 in
theorem small9 (a : Option Addr) (c : Nat) (logs : List (List Rc)) (w : World) (hL : SlL w a logs) (hl : logs.length ≤ 140737488355328) (hW : ∀ q, q ∈ logs → q.length ≤ 140737488355328 ∧ ∀ r, r ∈ q → Wd r) :
    Calls Try.prog 9 #[.slice a logs.length c] w fun e w' => ∃ b, e = .returned (.bool b) ∧ (b = true → logs.length ≤ 40 ∧ tot logs.flatten ≤ 300) ∧ ∃ n, w' = w.drewN n := by
  have HL := toHid hL
  have HW := toHid hW
  clear hL hW
  by_cases h40 : logs.length ≤ 40
  rotate_left
  · have g1 : (40 : Int) < (logs.length : Int) := by omega
    go_enter Try.func9, Try.ntmps9
    go_wp2
    go_ret
    exact ⟨false, rfl, by simp, 0, rfl⟩
  have g1 : ¬ (40 : Int) < (logs.length : Int) := by omega
  go_enter Try.func9, Try.ntmps9
  go_wp2_with fail
  clear g1
  go_loopw [3, 4] (fun n k W => ∃ i x : Nat, i ≤ logs.length ∧ k = .int .i64 i ∧ n = .int .i64 x ∧ x ≤ 1000000000000000 ∧ (x ≤ 300 → x = tot (logs.take i).flatten) ∧ ∃ q, W = w.drewN q) (fun _ k _ => logs.length - (intOf k).toNat)
  case atStart => exact ⟨0, 0, Nat.zero_le _, rfl, rfl, by omega, fun _ => rfl, 0, rfl⟩
  case round =>
    obtain ⟨i, x, hi, rfl, rfl, hx, hxe, q, rfl⟩ := hrel
    have HXE := toHid hxe
    clear hxe
    by_cases hlt : i < logs.length
    · obtain ⟨b, o, la, lc, rfl, c0, hs, hcap⟩ := HL.out.get i hlt
      have hi1 : (i : Int) < (logs.length : Int) := by omega
      have hi2 : 0 ≤ (i : Int) := by omega
      obtain ⟨hwl, hwr⟩ := HW.out logs[i] (List.getElem_mem hlt)
      have HS := toHid hs
      have HWR := toHid hwr
      clear hs hwr
      go_wp2_with fail
      go_loopw [3, 5] (fun n k W => ∃ j y : Nat, j ≤ logs[i].length ∧ k = .int .i64 j ∧ n = .int .i64 y ∧ y ≤ 1000000000000000 ∧ (y ≤ 300 → y = tot (logs.take i).flatten + tot (logs[i].take j)) ∧ ∃ q, W = w.drewN q) (fun _ k _ => logs[i].length - (intOf k).toNat)
      case atStart => exact ⟨0, x, Nat.zero_le _, rfl, rfl, hx, fun h => by rw [HXE.out h]; simp [tot], q, rfl⟩
      case round =>
        obtain ⟨j, y, hj, rfl, rfl, hy, hye, q2, rfl⟩ := hrel
        have HYE := toHid hye
        clear hye
        by_cases hjl : j < logs[i].length
        · have hj1 : (j : Int) < (logs[i].length : Int) := by omega
          have hj2 : decide ((j : Int) < (logs[i].length : Int)) = true := by simp; omega
          by_cases hy3 : y ≤ 300
          · have hy4 : (y : Int) ≤ 300 := by omega
            have hy5 : decide ((y : Int) ≤ 300) = true := by simp; omega
            obtain ⟨b1, o1, rfl, _⟩ := HS.out.there (by omega)
            obtain ⟨p1, h12, _⟩ := HS.out.get j hjl
            have d0 := h12.2.2.2.2.2.2.2.2.2.2.1
            have d1 := h12.2.2.2.2.2.2.2.2.2.2.2
            obtain ⟨w1, w2⟩ := HWR.out logs[i][j] (List.getElem_mem hjl)
            have HTT := toHid (tot_take hjl)
            have HYN := toHid (HYE.out hy3)
            have hj3 : 0 ≤ (j : Int) := by omega
            clear h12
            go_wp2_with fail
            go_quiet (fail)
            go_wp2
            go_roundw
            case rel => exact ⟨j + 1, y + 1 + logs[i][j].txns.length + logs[i][j].dirty.length, by omega, by go_num, by go_num, by omega, fun _ => by rw [HTT.out, HYN.out]; simp only [wt]; omega, _, rfl⟩
            case measure => simp [intOf]; omega
          · have hy4 : ¬ (y : Int) ≤ 300 := by omega
            have hy5 : decide ((y : Int) ≤ 300) = false := by simp; omega
            go_wp2_with fail
            go_roundw
            case rel => exact ⟨i + 1, y, by omega, by go_num, rfl, hy, fun h => absurd h hy3, _, rfl⟩
            case measure => simp [intOf]; omega
        · obtain rfl : j = logs[i].length := by omega
          have hj1 : ¬ (logs[i].length : Int) < (logs[i].length : Int) := by omega
          have HTL := toHid (tot_logs hlt)
          go_wp2_with fail
          go_roundw
          case rel => exact ⟨i + 1, y, by omega, by go_num, rfl, hy, fun h => by rw [HYE.out h, HTL.out, List.take_length], _, rfl⟩
          case measure => simp [intOf]; omega
    · obtain rfl : i = logs.length := by omega
      go_wp2
      go_ret
      exact ⟨_, rfl, fun h => ⟨h40, by have h3 : x ≤ 300 := by (simp at h; omega)
                                       have := HXE.out h3; rw [List.take_length] at this; omega⟩, _, rfl⟩

end Go.Proofs.Ytnejcjebepidcaa
