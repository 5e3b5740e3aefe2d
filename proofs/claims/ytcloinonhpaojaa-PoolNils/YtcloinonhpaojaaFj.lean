/-
  New; how many frames aren't pinned; the chapter's example.
-/
import Derived.Test.YtcloinonhpaojaaFi
namespace Go.Proofs.Ytcloinonhpaojaa.Ck
open Go.RowKit

def newR (n : Int) : Rg × Int := if 1 ≤ n ∧ n ≤ 16 then (⟨List.replicate n.toNat ⟨-1, false, 0⟩, 0⟩, 0) else (.zero, 1)

theorem made_row {w : World} {g m : Nat} {M : Array Value} (hg : w.heap[g]? = some (.cells M 123)) (hM : M = madeCells (Value.agg #[.int .i64 0, .bool false, .int .i64 0]).cells (m * 3)) :
    RowF w g (List.replicate m ⟨0, false, 0⟩) := by
  have hlt := (Array.getElem?_eq_some_iff.mp hg).1
  refine ⟨hlt, fun i hi => ?_⟩
  have hi' : i < m := by simpa using hi
  have e0 : i * 3 % 3 = 0 := by omega
  have e1 : (i * 3 + 1) % 3 = 1 := by omega
  have e2 : (i * 3 + 2) % 3 = 2 := by omega
  have h0 : M[i * 3]? = some (.int .i64 0) := by
    rw [hM, Array.getElem?_eq_getElem (by rw [size_madeCells]; omega)]
    simp [madeCells, Value.cells]
  have h1 : M[i * 3 + 1]? = some (.bool false) := by
    rw [hM, Array.getElem?_eq_getElem (by rw [size_madeCells]; omega)]
    simp [madeCells, Value.cells, e1]
  have h2 : M[i * 3 + 2]? = some (.int .i64 0) := by
    rw [hM, Array.getElem?_eq_getElem (by rw [size_madeCells]; omega)]
    simp [madeCells, Value.cells, e2]
  refine ⟨?_, ?_, ?_, ?_, ?_, ?_⟩ <;> simp [World.cell?, World.frozen?, hg, h0, h1, h2]

set_option maxRecDepth 20000 in
set_option maxHeartbeats 2000000 in
theorem new_any (n : Int) (w : World) : Calls Try.prog 55 #[.int .i64 n] w fun e w' => RetR w w' (newR n) e := by
  obtain ⟨i0, i1, i2⟩ := al1 w (.cells #[.slice none 0 0, .int .i64 0] 36)
  obtain ⟨q0, q1, q2, q3, q4⟩ := cell2 i0
  by_cases h1 : 1 ≤ n
  · by_cases h2 : n ≤ 16
    · obtain ⟨m, rfl⟩ : ∃ m : Nat, n = (m : Int) := ⟨n.toNat, by omega⟩
      have hm1 : 1 ≤ m := by omega
      have hm2 : m ≤ 16 := by omega
      obtain ⟨i9, hi, hz0, hz1, hz2⟩ := info_parts info123
      obtain ⟨M, hMd⟩ : ∃ M, M = madeCells (Value.agg #[.int .i64 0, .bool false, .int .i64 0]).cells (m * 3) := ⟨_, rfl⟩
      have hmk : ∀ W : World, (Instr.makeSlice 34 (.int .i64 (m : Int)) (.int .i64 (m : Int))).run Try.prog W = .ok (.slice (some ⟨W.heap.size, 0, none⟩) m m) (W.alloc (.cells M 123)) := fun W => by
        have h := run_make (P := Try.prog) W 34 123 i9 _ Try.underlying34 hi hz0 .i64 .i64 (m : Int) (m : Int) (by omega) (by omega) (by rw [hz2]; omega) (by omega)
        rw [hz1, Int.toNat_natCast, ← hMd] at h
        exact h
      have HMd := toHid hMd
      clear hMd i0 i1 i2 q0 q1 q2 q3 q4
      go_enter Try.func55, Try.ntmps55
      go_wp2_with fail
      obtain ⟨j0, j1, j2, j3, j4⟩ := al3 w (.cells #[.slice none 0 0, .int .i64 0] 36) (.cells M 123) (.cells #[.slice (some ⟨w.heap.size + 1, 0, none⟩) m m, .int .i64 0] 36)
      generalize World.alloc (World.alloc (World.alloc _ _) _) _ = W at j0 j1 j2 j3 j4 ⊢
      have HR := toHid (made_row j1 HMd.out)
      have HQ := toHid j0
      have HP := toHid j2
      have HB := toHid j4
      clear j0 j1 j2 j3 j4 hmk HMd
      go_loopw [19] (fun i wr => ∃ k : Nat, ∃ l : List Fr, k ≤ m ∧ i = .int .i64 k ∧ l.length = m ∧ (∀ j (hj : j < l.length), l[j] = if j < k then ⟨-1, false, 0⟩ else ⟨0, false, 0⟩) ∧ RowF wr (w.heap.size + 1) l ∧ wr.heap[w.heap.size]? = some (.cells #[.slice none 0 0, .int .i64 0] 36) ∧ wr.heap[w.heap.size + 1 + 1]? = some (.cells #[.slice (some ⟨w.heap.size + 1, 0, none⟩) m m, .int .i64 0] 36) ∧ Below w.heap.size w wr) (fun i _ => m - (intOf i).toNat)
      case atStart => exact ⟨0, _, Nat.zero_le _, rfl, by simp, fun j hj => by simp, HR.out, HQ.out, HP.out, HB.out⟩
      case round =>
        clear HR HQ HP HB
        obtain ⟨k, l, hk, rfl, hln, hall, hrow, hq, hp, hB⟩ := hrel
        have HL := toHid hln
        have HA := toHid hall
        have HR := toHid hrow
        have HQ := toHid hq
        have HP := toHid hp
        have HB := toHid hB
        obtain ⟨p0, p1, p2, p3, p4⟩ := cell2 hp
        obtain ⟨q0, q1, q2, q3, q4⟩ := cell2 hq
        by_cases hlt : k < m
        · have hkl : k < l.length := by have := HL.out; omega
          obtain ⟨c0, c1, c2, c3, c4, c5⟩ := hrow.at_ k hkl
          clear hln hall hrow hq hp hB
          go_wp2_with fail
          go_roundw
          case rel =>
            refine ⟨k + 1, _, by omega, by simp, ?_, fun j hj => ?_, HR.out.setP k hkl (-1), (heap_setCell_other _ _ _ _ (by simp)).trans HQ.out, (heap_setCell_other _ _ _ _ (by simp)).trans HP.out, HB.out.setCell (by simp) _⟩
            · simpa using HL.out
            · simp only [List.length_set] at hj
              have ha := HA.out j hj
              have hb := HA.out k hkl
              rw [List.getElem_set]
              by_cases e : k = j
              · subst e
                simp [hb]
              · rw [if_neg e, ha]
                by_cases e2 : j < k
                · rw [if_pos e2, if_pos (by omega)]
                · rw [if_neg e2, if_neg (by omega)]
          case measure => first | omega | (simp only [intOf]; omega)
        · obtain rfl : k = m := by omega
          have hl : l = List.replicate k ⟨-1, false, 0⟩ := by
            refine List.ext_getElem (by rw [hln, List.length_replicate]) fun j hj _ => ?_
            rw [hall j hj, List.getElem_replicate, if_pos (by omega)]
          have HE := toHid hl
          clear hln hall hrow hq hp hB hl
          go_wp2
          obtain ⟨r0, r1, -⟩ := cell2 (ring_set (u := .slice (some ⟨w.heap.size + 1, 0, none⟩) k k) (v := .int .i64 0) HQ.out)
          refine bodyPost_ret (v := .tuple #[.agg #[.slice (some ⟨w.heap.size + 1, 0, none⟩) k k, .int .i64 0], .int .i64 0]) (by simp [results, Try.results55, go_sem, r0, r1]) rfl ?_
          unfold newR
          rw [if_pos ⟨by omega, by omega⟩, Int.toNat_natCast, ← HE.out]
          refine ⟨some ⟨w.heap.size + 1, 0, none⟩, k, ?_, ?_, (HB.out.setCell (p := ⟨w.heap.size, 0, none⟩) (by simp) _).setCell (p := ⟨w.heap.size, 1, none⟩) (by simp) _, fun y hy => by simp at hy; subst hy; simp only; omega⟩
          · simp only [rgV, rgC]
            rw [HL.out]
          · exact ((HR.out.other ⟨w.heap.size, 0, none⟩ _ (by simp)).other ⟨w.heap.size, 1, none⟩ _ (by simp)).sl
    · go_enter Try.func55, Try.ntmps55
      go_wp2
      obtain ⟨r0, r1, -⟩ := cell2 (al1 w (.cells #[.slice none 0 0, .int .i64 0] 36)).1
      refine bodyPost_ret (v := .tuple #[.agg #[.slice none 0 0, .int .i64 0], .int .i64 1]) (by simp [results, Try.results55, go_sem]) rfl ?_
      unfold newR
      rw [if_neg (by omega)]
      exact retR_zero rfl i2
  · go_enter Try.func55, Try.ntmps55
    go_wp2
    refine bodyPost_ret (v := .tuple #[.agg #[.slice none 0 0, .int .i64 0], .int .i64 1]) (by simp [results, Try.results55, go_sem]) rfl ?_
    unfold newR
    rw [if_neg (by omega)]
    exact retR_zero rfl i2

end Go.Proofs.Ytcloinonhpaojaa.Ck
