/-
  Rows without messages; New.
-/
import Derived.Test.YtfdpmffoajjchaaNt
import Derived.Laws.MakeOwn
namespace Go.Proofs.Ytfdpmffoajjchaa
open Go.RowKit Go.Conc

theorem info66 : (Try.prog.info? 66).map (fun i => (i.zero, i.size, i.bytes)) = some (some (.chan none), 1, 8) := by kernel_rfl

theorem run_mkc (w : World) : (Instr.makeChan 66 (.int .i64 256)).run Try.prog w = .ok (.chan (some w.heap.size)) (w.alloc (.chan 256 #[] false 0 0 false)) := by
  obtain ⟨i, hi, _, _, hb⟩ := info_parts zero64
  simpa using run_makeChan (P := Try.prog) (w := w) Try.underlying66 hi .i64 256 (by omega) (by rw [hb]; omega)

def part (s n i : Nat) : Array Value := ((List.range n).map fun k => Value.chan (if k < i then some (s + 1 + k) else none)).toArray
theorem part_size (s n i : Nat) : (part s n i).size = n := by simp [part]
theorem part_at (s n i k : Nat) (h : k < n) : (part s n i)[k]? = some (.chan (if k < i then some (s + 1 + k) else none)) := by simp [part, h]
theorem part_zero (s n : Nat) : part s n 0 = Array.replicate n (.chan none) := by
  apply Array.ext
  · simp [part]
  · intro i h1 h2
    simp [part]
theorem part_full (s n : Nat) : part s n n = chs (fun k => s + 1 + k) n := by
  unfold part chs
  congr 1
  refine List.map_congr_left fun k hk => ?_
  have : k < n := by simpa using hk
  simp [this]
theorem part_none (s n i k : Nat) (h : ¬ k < n) : (part s n i)[k]? = none := by rw [Array.getElem?_eq_none]; rw [part_size]; omega
theorem part_step (s n i : Nat) : (part s n i).setIfInBounds i (.chan (some (s + 1 + i))) = part s n (i + 1) := by
  apply Array.ext_getElem?
  intro j
  rw [Array.getElem?_setIfInBounds, part_size]
  by_cases hj : j < n
  · by_cases e : i = j
    · subst e
      rw [if_pos rfl, if_pos hj, part_at _ _ _ _ hj, if_pos (by omega)]
    · rw [if_neg e, part_at _ _ _ _ hj, part_at _ _ _ _ hj]
      by_cases h : j < i
      · rw [if_pos h, if_pos (by omega)]
      · rw [if_neg h, if_neg (by omega)]
  · by_cases e : i = j
    · subst e
      rw [if_pos rfl, if_neg hj, part_none _ _ _ _ hj]
    · rw [if_neg e, part_none _ _ _ _ hj, part_none _ _ _ _ hj]

structure Emp (w W : World) (n i : Nat) : Prop where
  below : Below w.heap.size w W
  size : W.heap.size = w.heap.size + 1 + i
  row : W.heap[w.heap.size]? = some (.cells (part w.heap.size n i) 66)
  ch : ∀ k, k < i → W.heap[w.heap.size + 1 + k]? = some (.chan 256 #[] false 0 0 false)

theorem Emp.step {w W : World} {n i : Nat} (h : Emp w W n i) (hi : i < n) : Emp w ((W.alloc (.chan 256 #[] false 0 0 false)).setCell ⟨w.heap.size, i, none⟩ (.chan (some W.heap.size))) n (i + 1) := by
  have hs := h.size
  refine ⟨(h.below.alloc (by omega) _).setCell (Nat.le_refl _) _, by simp [World.setCell]; omega, ?_, fun k hk => ?_⟩
  · have hr : (W.alloc (.chan 256 #[] false 0 0 false)).heap[w.heap.size]? = some (.cells (part w.heap.size n i) 66) := by rw [Below.heap_alloc _ _ _ (by omega)]; exact h.row
    rw [heap_setCell_same _ _ _ _ _ _ hr, hs, part_step]
  · rw [Below.heap_setCell _ _ _ _ (by simp; omega)]
    by_cases e : k = i
    · subst e
      rw [← hs]
      exact heap_alloc_new _ _
    · rw [Below.heap_alloc _ _ _ (by omega)]
      exact h.ch k (by omega)

set_option maxRecDepth 100000 in
theorem empty25 (w : World) (n : Nat) (hn : n ≤ 8) : Calls Try.prog 25 #[.int .i64 n] w fun e w' => e = .returned (.slice (some ⟨w.heap.size, 0, none⟩) n n) ∧ Emp w w' n n := by
  obtain ⟨i0, hi, hz0, hz1, hz2⟩ := info_parts info66
  have hmk : (Instr.makeSlice 60 (.int .i64 n) (.int .i64 n)).run Try.prog w = .ok (.slice (some ⟨w.heap.size, 0, none⟩) n n) (w.alloc (.cells (part w.heap.size n 0) 66)) := by
    have h := run_make (P := Try.prog) w 60 66 i0 (.chan none) Try.underlying60 hi hz0 .i64 .i64 (n : Int) (n : Int) (by omega) (by omega) (by rw [hz2]; omega) (by omega)
    rw [part_zero]
    rw [hz1] at h
    have e1 : ((n : Int)).toNat = n := by omega
    rw [e1, Nat.mul_one] at h
    have e2 : madeCells (Value.chan none).cells n = Array.replicate n (.chan none) := by
      apply Array.ext
      · simp [madeCells]
      · intro i h1 h2
        simp [madeCells, Value.cells, Nat.mod_one]
    rw [e2] at h
    exact h
  have hmc := run_mkc
  have E0 : Emp w (w.alloc (.cells (part w.heap.size n 0) 66)) n 0 := ⟨(Below.refl _ _).alloc (Nat.le_refl _) _, by simp, heap_alloc_new _ _, fun k hk => by omega⟩
  have HE0 := toHid E0
  clear E0
  go_enter Try.func25, Try.ntmps25
  go_wp2_with fail
  clear hmk
  go_loopw [9] (fun k W => ∃ i : Nat, i ≤ n ∧ k = .int .i64 i ∧ Emp w W n i) (fun k _ => n - (intOf k).toNat)
  case atStart => exact ⟨0, Nat.zero_le _, rfl, HE0.out⟩
  case round =>
    obtain ⟨i, hi, rfl, hE⟩ := hrel
    have HE := toHid hE
    by_cases hlt : i < n
    · have h1 : (i : Int) < (n : Int) := by omega
      have h2 : 0 ≤ (i : Int) := by omega
      have hc : ∀ o, (wr.alloc o).cell? ⟨w.heap.size, i, none⟩ = some (.chan none) := fun o => by
        have hr : (wr.alloc o).heap[w.heap.size]? = some (.cells (part w.heap.size n i) 66) := by rw [Below.heap_alloc _ _ _ (by have := hE.size; omega)]; exact hE.row
        simp [World.cell?, hr, part_at _ _ _ _ hlt]
      have hf : ∀ o, (wr.alloc o).frozen? ⟨w.heap.size, i, none⟩ = false := fun o => by
        have hr : (wr.alloc o).heap[w.heap.size]? = some (.cells (part w.heap.size n i) 66) := by rw [Below.heap_alloc _ _ _ (by have := hE.size; omega)]; exact hE.row
        simp [World.frozen?, hr]
      clear hE
      go_wp2_with fail
      go_roundw
      case rel => exact ⟨i + 1, by omega, by go_num, HE.out.step hlt⟩
      case measure => simp [intOf]; omega
    · have h1 : ¬ (i : Int) < (n : Int) := by omega
      have e : i = n := by omega
      have HE' : Hid (Emp w wr n n) := by subst e; exact HE
      clear hE HE e
      go_wp2_with fail
      go_ret
      exact ⟨rfl, HE'.out⟩

theorem emp_net {w w1 w2 : World} {n : Nat} (h1 : Emp w w1 n n) (h2 : Emp w1 w2 n n) (hn : 1 ≤ n) (hn8 : n ≤ 8) :
    NetOk (w2.alloc (.cells #[.slice (some ⟨w.heap.size, 0, none⟩) n n, .slice (some ⟨w1.heap.size, 0, none⟩) n n] 63)) w.heap.size n (fun _ => []) ∧
    Below w.heap.size w (w2.alloc (.cells #[.slice (some ⟨w.heap.size, 0, none⟩) n n, .slice (some ⟨w1.heap.size, 0, none⟩) n n] 63)) ∧ w2.heap.size = w.heap.size + 2 * n + 2 := by
  have s1 := h1.size
  have s2 := h2.size
  have ez : w2.heap.size = w.heap.size + 2 * n + 2 := by omega
  refine ⟨⟨hn, hn8, ?_, ?_, ?_, fun k hk => ⟨0, 0, ?_⟩, fun k hk => by simp⟩, ?_, ez⟩
  · rw [Below.heap_alloc _ _ _ (by omega), h2.below.block _ (by omega), h1.row, part_full]
  · have e : w.heap.size + n + 1 = w1.heap.size := by omega
    rw [Below.heap_alloc _ _ _ (by omega), e, h2.row, part_full]
    simp only [s1]
    congr 3
    funext k
    omega
  · rw [← ez]
    have e : w.heap.size + n + 1 = w1.heap.size := by omega
    rw [e]
    exact heap_alloc_new _ _
  · unfold chb
    by_cases h : k < n
    · rw [if_pos h, Below.heap_alloc _ _ _ (by omega), h2.below.block _ (by omega)]
      exact h1.ch k h
    · rw [if_neg h, Below.heap_alloc _ _ _ (by omega)]
      have e : w.heap.size + 2 + k = w1.heap.size + 1 + (k - n) := by omega
      rw [e]
      exact h2.ch (k - n) (by omega)
  · exact (h1.below.trans (h2.below.mono (by omega))).alloc (by omega) _

set_option maxRecDepth 100000 in
theorem new_no (w : World) (n : Int) (hn : n < 1 ∨ 8 < n) : Calls Try.prog 9 #[.int .i64 n] w fun e w' => e = .returned (.tuple #[.pointer none, .int .i64 1]) ∧ w' = w := by
  rcases hn with h | h
  · go_enter Try.func9, Try.ntmps9
    go_wp2
    go_ret2
    exact ⟨rfl, rfl⟩
  · have h1 : ¬ n < 1 := by omega
    go_enter Try.func9, Try.ntmps9
    go_wp2
    go_ret2
    exact ⟨rfl, rfl⟩

set_option maxRecDepth 100000 in
theorem new_yes (w : World) (n : Nat) (hn : 1 ≤ n) (hn8 : n ≤ 8) : Calls Try.prog 9 #[.int .i64 n] w fun e w' => e = .returned (.tuple #[netP w.heap.size n, .int .i64 0]) ∧ NetOk w' w.heap.size n (fun _ => []) ∧ Below w.heap.size w w' ∧ w'.heap.size = w.heap.size + 2 * n + 3 := by
  have h1 : ¬ (n : Int) < 1 := by omega
  have h2 : ¬ 8 < (n : Int) := by omega
  have HE := toHid (fun w => empty25 w n hn8)
  go_enter Try.func9, Try.ntmps9
  go_wp2_with fail
  go_at_call 25
  refine Calls.mono (HE.out _) ?_
  rintro e w1 ⟨rfl, hE1⟩
  have HE1 := toHid hE1
  clear hE1
  go_wp2_with fail
  go_at_call 25
  refine Calls.mono (HE.out _) ?_
  rintro e w2 ⟨rfl, hE2⟩
  have HF := toHid (emp_net HE1.out hE2 hn hn8)
  clear hE2
  go_wp2_with fail
  go_ret2
  obtain ⟨f1, f2, f3⟩ := HF.out
  refine ⟨?_, f1, f2, by simp; omega⟩
  simp [f3]

end Go.Proofs.Ytfdpmffoajjchaa
