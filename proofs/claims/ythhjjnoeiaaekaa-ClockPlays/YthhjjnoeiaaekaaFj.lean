/-
  New; how many frames aren't pinned; the chapter's example.
-/
import Derived.Test.YthhjjnoeiaaekaaFi
namespace Go.Proofs.Ythhjjnoeiaaekaa
open Go.RowKit

def newR (n : Int) : Rg × Int := if 1 ≤ n ∧ n ≤ 16 then (⟨List.replicate n.toNat ⟨-1, false, 0⟩, 0⟩, 0) else (.zero, 1)

theorem made_row {w : World} {g m : Nat} {M : Array Value} (hg : w.heap[g]? = some (.cells M 31)) (hM : M = madeCells (Value.agg #[.int .i64 0, .bool false, .int .i64 0]).cells (m * 3)) :
    RowF w g (List.replicate m ⟨0, false, 0⟩) := by
  have hlt := (Array.getElem?_eq_some_iff.mp hg).1
  refine ⟨hlt, fun i hi => ?_⟩
  have hi' : i < m := by simpa using hi
  have e0 : i * 3 % 3 = 0 := by omega
  have e1 : (i * 3 + 1) % 3 = 1 := by omega
  have e2 : (i * 3 + 2) % 3 = 2 := by omega
  have h0 : M[i * 3]? = some (.int .i64 0) := by
    rw [hM, Array.getElem?_eq_getElem (by rw [size_madeCells]; omega)]
    simp [madeCells, Value.cells]
  have h1 : M[i * 3 + 1]? = some (.bool false) := by
    rw [hM, Array.getElem?_eq_getElem (by rw [size_madeCells]; omega)]
    simp [madeCells, Value.cells, e1]
  have h2 : M[i * 3 + 2]? = some (.int .i64 0) := by
    rw [hM, Array.getElem?_eq_getElem (by rw [size_madeCells]; omega)]
    simp [madeCells, Value.cells, e2]
  refine ⟨?_, ?_, ?_, ?_, ?_, ?_⟩ <;> simp [World.cell?, World.frozen?, hg, h0, h1, h2]

set_option maxHeartbeats 2000000 in
theorem new_any (n : Int) (w : World) : Calls Try.prog 9 #[.int .i64 n] w fun e w' => RetR w w' (newR n) e := by
  obtain ⟨i0, i1, i2⟩ := al1 w (.cells #[.slice none 0 0, .int .i64 0] 24)
  obtain ⟨q0, q1, q2, q3, q4⟩ := cell2 i0
  by_cases h1 : 1 ≤ n
  · by_cases h2 : n ≤ 16
    · obtain ⟨m, rfl⟩ : ∃ m : Nat, n = (m : Int) := ⟨n.toNat, by omega⟩
      have hm1 : 1 ≤ m := by omega
      have hm2 : m ≤ 16 := by omega
      obtain ⟨i9, hi, hz0, hz1, hz2⟩ := info_parts info31
      obtain ⟨M, hMd⟩ : ∃ M, M = madeCells (Value.agg #[.int .i64 0, .bool false, .int .i64 0]).cells (m * 3) := ⟨_, rfl⟩
      have hmk : ∀ W : World, (Instr.makeSlice 22 (.int .i64 (m : Int)) (.int .i64 (m : Int))).run Try.prog W = .ok (.slice (some ⟨W.heap.size, 0, none⟩) m m) (W.alloc (.cells M 31)) := fun W => by
        have h := run_make (P := Try.prog) W 22 31 i9 _ Try.underlying22 hi hz0 .i64 .i64 (m : Int) (m : Int) (by omega) (by omega) (by rw [hz2]; omega) (by omega)
        rw [hz1, Int.toNat_natCast, ← hMd] at h
        exact h
      have HMd := toHid hMd
      clear hMd i0 i1 i2 q0 q1 q2 q3 q4
      go_enter Try.func9, Try.ntmps9
      go_wp2_with fail
      obtain ⟨j0, j1, j2, j3, j4⟩ := al3 w (.cells #[.slice none 0 0, .int .i64 0] 24) (.cells M 31) (.cells #[.slice (some ⟨w.heap.size + 1, 0, none⟩) m m, .int .i64 0] 24)
      generalize World.alloc (World.alloc (World.alloc _ _) _) _ = W at j0 j1 j2 j3 j4 ⊢
      have HR := toHid (made_row j1 HMd.out)
      have HQ := toHid j0
      have HP := toHid j2
      have HB := toHid j4
      clear j0 j1 j2 j3 j4 hmk HMd
      go_loopw [19] (fun i wr => ∃ k : Nat, ∃ l : List Fr, k ≤ m ∧ i = .int .i64 k ∧ l.length = m ∧ (∀ j (hj : j < l.length), l[j] = if j < k then ⟨-1, false, 0⟩ else ⟨0, false, 0⟩) ∧ RowF wr (w.heap.size + 1) l ∧ wr.heap[w.heap.size]? = some (.cells #[.slice none 0 0, .int .i64 0] 24) ∧ wr.heap[w.heap.size + 1 + 1]? = some (.cells #[.slice (some ⟨w.heap.size + 1, 0, none⟩) m m, .int .i64 0] 24) ∧ Below w.heap.size w wr) (fun i _ => m - (intOf i).toNat)
      case atStart => exact ⟨0, _, Nat.zero_le _, rfl, by simp, fun j hj => by simp, HR.out, HQ.out, HP.out, HB.out⟩
      case round =>
        clear HR HQ HP HB
        obtain ⟨k, l, hk, rfl, hln, hall, hrow, hq, hp, hB⟩ := hrel
        have HL := toHid hln
        have HA := toHid hall
        have HR := toHid hrow
        have HQ := toHid hq
        have HP := toHid hp
        have HB := toHid hB
        obtain ⟨p0, p1, p2, p3, p4⟩ := cell2 hp
        obtain ⟨q0, q1, q2, q3, q4⟩ := cell2 hq
        by_cases hlt : k < m
        · have hkl : k < l.length := by have := HL.out; omega
          obtain ⟨c0, c1, c2, c3, c4, c5⟩ := hrow.at_ k hkl
          clear hln hall hrow hq hp hB
          go_wp2_with fail
          go_roundw
          case rel =>
            refine ⟨k + 1, _, by omega, by simp, ?_, fun j hj => ?_, HR.out.setP k hkl (-1), (heap_setCell_other _ _ _ _ (by simp)).trans HQ.out, (heap_setCell_other _ _ _ _ (by simp)).trans HP.out, HB.out.setCell (by simp) _⟩
            · simpa using HL.out
            · simp only [List.length_set] at hj
              have ha := HA.out j hj
              have hb := HA.out k hkl
              rw [List.getElem_set]
              by_cases e : k = j
              · subst e
                simp [hb]
              · rw [if_neg e, ha]
                by_cases e2 : j < k
                · rw [if_pos e2, if_pos (by omega)]
                · rw [if_neg e2, if_neg (by omega)]
          case measure => first | omega | (simp only [intOf]; omega)
        · obtain rfl : k = m := by omega
          have hl : l = List.replicate k ⟨-1, false, 0⟩ := by
            refine List.ext_getElem (by rw [hln, List.length_replicate]) fun j hj _ => ?_
            rw [hall j hj, List.getElem_replicate, if_pos (by omega)]
          have HE := toHid hl
          clear hln hall hrow hq hp hB hl
          go_wp2
          obtain ⟨r0, r1, -⟩ := cell2 (ring_set (u := .slice (some ⟨w.heap.size + 1, 0, none⟩) k k) (v := .int .i64 0) HQ.out)
          refine bodyPost_ret (v := .tuple #[.agg #[.slice (some ⟨w.heap.size + 1, 0, none⟩) k k, .int .i64 0], .int .i64 0]) (by simp [results, Try.results9, go_sem, r0, r1]) rfl ?_
          unfold newR
          rw [if_pos ⟨by omega, by omega⟩, Int.toNat_natCast, ← HE.out]
          refine ⟨some ⟨w.heap.size + 1, 0, none⟩, k, ?_, ?_, (HB.out.setCell (p := ⟨w.heap.size, 0, none⟩) (by simp) _).setCell (p := ⟨w.heap.size, 1, none⟩) (by simp) _⟩
          · simp only [rgV, rgC]
            rw [HL.out]
          · exact ((HR.out.other ⟨w.heap.size, 0, none⟩ _ (by simp)).other ⟨w.heap.size, 1, none⟩ _ (by simp)).sl
    · go_enter Try.func9, Try.ntmps9
      go_wp2
      obtain ⟨r0, r1, -⟩ := cell2 (al1 w (.cells #[.slice none 0 0, .int .i64 0] 24)).1
      refine bodyPost_ret (v := .tuple #[.agg #[.slice none 0 0, .int .i64 0], .int .i64 1]) (by simp [results, Try.results9, go_sem]) rfl ?_
      unfold newR
      rw [if_neg (by omega)]
      exact retR_zero rfl i2
  · go_enter Try.func9, Try.ntmps9
    go_wp2
    refine bodyPost_ret (v := .tuple #[.agg #[.slice none 0 0, .int .i64 0], .int .i64 1]) (by simp [results, Try.results9, go_sem]) rfl ?_
    unfold newR
    rw [if_neg (by omega)]
    exact retR_zero rfl i2

/-- How many frames aren't pinned. -/
def looseN (l : List Fr) : Nat := l.countP fun f => decide (f.pins = 0)
theorem looseN_le (l : List Fr) : looseN l ≤ l.length := List.countP_le_length
theorem looseN_snoc (l : List Fr) (k : Nat) (hk : k < l.length) : looseN (l.take (k + 1)) = looseN (l.take k) + if l[k].pins = 0 then 1 else 0 := by
  unfold looseN
  rw [List.take_add_one, List.getElem?_eq_getElem hk, List.countP_append]
  simp [List.countP_cons]

set_option maxHeartbeats 1000000 in
theorem loose_any (a : Option Addr) (c : Nat) (r : Rg) (w : World) (h : SlF w a r.fr) (hl : r.fr.length ≤ 1000000) :
    Calls Try.prog 17 #[rgV a c r] w fun e w' => e = .returned (.int .i64 (looseN r.fr : Int)) ∧ Below w.heap.size w w' := by
  obtain ⟨i0, i1, i2⟩ := al1 w (.cells (rgC a c r) 24)
  have hs := h.below i2
  obtain ⟨l, hd⟩ := r
  simp only [rgV, rgC] at *
  go_enter Try.func17, Try.ntmps17
  go_wp2_with fail
  generalize World.alloc _ _ = W at i0 i1 i2 hs ⊢
  obtain ⟨p0, p1, p2, p3, p4⟩ := cell2 i0
  clear i0 i1 h
  go_loop [3, 4] (fun n i => ∃ k : Nat, k ≤ l.length ∧ i = .int .i64 k ∧ ∃ x : Nat, n = .int .i64 (x : Int) ∧ x ≤ k ∧ Hid (x = looseN (l.take k))) (fun _ i => l.length - (intOf i).toNat)
  case atStart => exact ⟨0, Nat.zero_le _, rfl, 0, rfl, Nat.le_refl _, toHid (by simp [looseN])⟩
  case round =>
    obtain ⟨k, hk, rfl, x, rfl, hx, HX⟩ := hrel
    by_cases hlt : k < l.length
    · obtain ⟨b, o, rfl, hbl, c0, c1, c2⟩ := hs.at k hlt
      have HS := toHid (looseN_snoc l k hlt)
      by_cases hp : l[k].pins = 0
      · have HP := toHid hp
        rw [hp] at c2
        clear hp
        go_wp2_with fail
        go_round
        case rel => exact ⟨k + 1, by omega, by simp, x + 1, by simp, by omega, toHid (by rw [HS.out, if_pos HP.out, HX.out])⟩
        case measure => first | omega | (simp only [intOf]; omega)
      · go_wp2_with fail
        go_round
        case rel => exact ⟨k + 1, by omega, by simp, x, rfl, by omega, toHid (by rw [HS.out, if_neg hp, HX.out]; rfl)⟩
        case measure => first | omega | (simp only [intOf]; omega)
    · obtain rfl : k = l.length := by omega
      go_wp2
      go_ret
      refine ⟨?_, i2⟩
      have := HX.out
      rw [List.take_length] at this
      rw [← this]
      rfl

theorem lives_may : MayR ⟨[⟨4, true, 0⟩, ⟨7, false, 0⟩], 0⟩ := by
  refine ⟨by decide, by decide, by decide, by decide, ⟨fun j hj _ => ?_, fun i j hi hj hij _ _ => ?_⟩⟩
  · have hj2 : j < 2 := hj
    obtain rfl | rfl : j = 0 ∨ j = 1 := by omega
    · show mayF ⟨4, true, 0⟩ = true
      decide
    · show mayF ⟨7, false, 0⟩ = true
      decide
  · have hj2 : j < 2 := hj
    obtain rfl : i = 0 := by omega
    obtain rfl : j = 1 := by omega
    show (4 : Int) ≠ 7
    decide
theorem lives_next : nextR ⟨[⟨4, true, 0⟩, ⟨7, false, 0⟩], 0⟩ = (1, ⟨[⟨4, false, 0⟩, ⟨7, false, 0⟩], 0⟩, 0) := by
  rw [nextR_told (i := 1) (l := [⟨4, false, 0⟩, ⟨7, false, 0⟩]) (h' := 0) lives_may (by decide)]
  rfl

theorem two_row {W : World} {g : Nat} (h : W.heap[g]? = some (.cells #[.int .i64 4, .bool true, .int .i64 0, .int .i64 7, .bool false, .int .i64 0] 31)) : SlF W (some ⟨g, 0, none⟩) [⟨4, true, 0⟩, ⟨7, false, 0⟩] := by
  refine ⟨fun e => by simp at e, fun x hx i t ht => ?_⟩
  simp only [Option.some.injEq] at hx
  subst hx
  match i, ht with
  | 0, ht => simp at ht; subst ht; refine ⟨rfl, ?_, ?_, ?_⟩ <;> simp [World.cell?, h]
  | 1, ht => simp at ht; subst ht; refine ⟨rfl, ?_, ?_, ?_⟩ <;> simp [World.cell?, h]

set_option maxHeartbeats 1000000 in
theorem lives_any (w : World) : Calls Try.prog 10 #[] w fun e w' => e = .returned (.bool true) ∧ Below w.heap.size w w' := by
  obtain ⟨i0, i1, i2⟩ := al1 w (.cells #[.int .i64 4, .bool true, .int .i64 0, .int .i64 7, .bool false, .int .i64 0] 31)
  have hs := two_row i0
  have HN := toHid (next_any (some ⟨w.heap.size, 0, none⟩) 2 ⟨[⟨4, true, 0⟩, ⟨7, false, 0⟩], 0⟩ _ hs (by simp [maxLen]))
  clear hs i0 i1
  go_enter Try.func10, Try.ntmps10
  go_wp2_with fail
  refine Calls.mono HN.out ?_
  rintro e w1 ⟨a, c, rfl, hs1, hb1⟩
  rw [lives_next] at hs1 ⊢
  have hB1 := below_on i2 hb1
  clear i2 hb1 HN
  obtain ⟨b, o, rfl, hbl, c0, c1, c2⟩ := hs1.at 0 (by simp)
  simp only [Nat.zero_mul, Nat.add_zero, List.getElem_cons_zero] at c0 c1 c2
  have hbn : ¬ b = w1.heap.size := by omega
  have HB := toHid hB1
  clear hs1 hB1
  go_wp2
  go_ret
  exact ⟨rfl, HB.out.alloc HB.out.size _⟩
end Go.Proofs.Ythhjjnoeiaaekaa
