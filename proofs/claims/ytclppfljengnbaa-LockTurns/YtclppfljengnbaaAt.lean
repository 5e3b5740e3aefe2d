/-
  At (17): the place of an edge.
-/
import Derived.Test.YtclppfljengnbaaWs
import Derived.Laws.StructEq
namespace Go.Proofs.Ytclppfljengnbaa
open Go.RowKit Go.Maps

structure SlE (W : World) (a : Option Addr) (l : List (Int × Int)) : Prop where
  at_ : ∀ j (hj : j < l.length), ∃ b o, a = some ⟨b, o, none⟩ ∧ W.cell? ⟨b, o + j * 2, none⟩ = some (.int .i64 l[j].1) ∧ W.cell? ⟨b, o + j * 2 + 1, none⟩ = some (.int .i64 l[j].2)

theorem cell_lt {w : World} {g o : Nat} {v : Value} (h : w.cell? ⟨g, o, none⟩ = some v) : g < w.heap.size := by
  rcases Nat.lt_or_ge g w.heap.size with h1 | h1
  · exact h1
  · simp [World.cell?, Array.getElem?_eq_none h1] at h
theorem cell_low {w w' : World} {B g o : Nat} {v : Value} (h : w.cell? ⟨g, o, none⟩ = some v) (hg : g < B) (hb : Below B w w') : w'.cell? ⟨g, o, none⟩ = some v := by
  rw [← h]
  simp [World.cell?, hb.block g hg]
theorem SlE.below {w w' : World} {a : Option Addr} {l : List (Int × Int)} (h : SlE w a l) (hb : Below w.heap.size w w') : SlE w' a l :=
  ⟨fun j hj => by
    obtain ⟨b, o, h1, h2, h3⟩ := h.at_ j hj
    exact ⟨b, o, h1, cell_low h2 (cell_lt h2) hb, cell_low h3 (cell_lt h3) hb⟩⟩

theorem below_trans {B : Nat} {w w1 w2 : World} (h : Below B w w1) (k : Below B w1 w2) : Below B w w2 := ⟨k.os.trans h.os, k.tape.trans h.tape, k.output.trans h.output, Nat.le_trans h.size k.size, fun i hi => (k.block i hi).trans (h.block i hi)⟩

theorem Try.held50 : Try.prog.stoodInHeld 50 = false := by kernel_rfl
theorem Try.struct50 : Try.prog.underlying 50 = some (.struct (Try.prog.fieldsOf 50)) := by kernel_rfl
theorem Try.guard50 : Try.prog.eqGuardType Try.prog.depth 50 = false := by kernel_rfl
theorem eql50 (a b a' b' : Int) (w : World) : (binOp .eql 50 (.agg #[.int .i64 a, .int .i64 b]) (.agg #[.int .i64 a', .int .i64 b'])).run Try.prog w = .ok (.bool (decide ((a, b) = (a', b')))) w := by
  have h : (Op.equalIn 10000 50 (.agg #[.int .i64 a, .int .i64 b]) (.agg #[.int .i64 a', .int .i64 b'])).run Try.prog w = .ok ((a == a') && (b == b')) w := by
    rw [show (10000 : Nat) = 9999 + 1 from rfl, run_equalIn_struct w 9999 50 _ _ Try.struct50 Try.held50]
    simp [Program.fieldsOf, Try.underlying50, Op.eqFields, go_sem, Try.underlying3]
    by_cases h1 : a = a' <;> by_cases h2 : b = b' <;> simp [h1, h2]
  rw [run_eql_struct, h]
  simp [Result.andThen]
  by_cases h1 : a = a' <;> by_cases h2 : b = b' <;> simp [h1, h2]

set_option maxRecDepth 100000 in
set_option maxHeartbeats 1000000 in
theorem at17 {w : World} {va : Option Addr} {c : Nat} {l : List (Int × Int)} (h : SlE w va l) (hl : l.length ≤ 10000000) (x y : Int) :
    Calls Try.prog 17 #[.slice va l.length c, .agg #[.int .i64 x, .int .i64 y]] w fun e w' => ∃ k : Int, e = .returned (.int .i64 k) ∧ ((x, y) ∈ l → 0 ≤ k) ∧ ((x, y) ∉ l → k = -1) ∧ Below w.heap.size w w' := by
  obtain ⟨w0, hw0⟩ : ∃ w0, w0 = w.alloc (.cells #[.int .i64 x, .int .i64 y] 50) := ⟨_, rfl⟩
  have hblk : w0.heap[w.heap.size]? = some (.cells #[.int .i64 x, .int .i64 y] 50) := by rw [hw0]; exact (MapKept.heap_alloc _ _).1
  have hs0 : w0.heap.size = w.heap.size + 1 := by rw [hw0]; simp
  have HB0 : Hid (Below w.heap.size w w0) := by rw [hw0]; exact (Below.refl _ _).alloc (Nat.le_refl _) _
  have HR := toHid (h.below HB0.out)
  have HEB : Hid (∀ W, Below w0.heap.size w0 W → W.cell? ⟨w.heap.size, 0, none⟩ = some (.int .i64 x) ∧ W.cell? ⟨w.heap.size, 1, none⟩ = some (.int .i64 y)) := fun W hW => by
    have h1 : W.heap[w.heap.size]? = some (.cells #[.int .i64 x, .int .i64 y] 50) := (hW.block _ (by omega)).trans hblk
    exact ⟨by simp [World.cell?, h1], by simp [World.cell?, h1]⟩
  have hal := toHid hw0
  have hg50 := Try.guard50
  clear h hblk hw0
  go_enter Try.func17, Try.ntmps17
  go_wp2_with fail
  rw [← hal.out]
  go_loopw [5] (fun k W => ∃ i : Nat, i ≤ l.length ∧ k = .int .i64 i ∧ Hid ((x, y) ∉ l.take i) ∧ Hid (Below w0.heap.size w0 W)) (fun k _ => l.length - (intOf k).toNat)
  case atStart => exact ⟨0, Nat.zero_le _, rfl, toHid (by simp), toHid (Below.refl _ _)⟩
  case round =>
    obtain ⟨i, hi, rfl, HN, HB⟩ := hrel
    have hq2 : 0 ≤ (i : Int) := by omega
    have HLow : Hid (∀ W, Below w0.heap.size w0 W → Below w.heap.size w W) := fun W hW => below_trans HB0.out ⟨hW.os, hW.tape, hW.output, hW.size, fun j hj => hW.block j (by omega)⟩
    by_cases hlt : i < l.length
    · have hq1 : (i : Int) < (l.length : Int) := by omega
      obtain ⟨b, o, rfl, c0, c1⟩ := (HR.out.below HB.out).at_ i hlt
      obtain ⟨d0, d1⟩ := HEB.out _ HB.out
      have HT : Hid (l.take (i + 1) = l.take i ++ [l[i]]) := by show _ = _; rw [List.take_succ_eq_append_getElem hlt]
      have HM : Hid (l[i] ∈ l) := List.getElem_mem hlt
      obtain ⟨e, he⟩ : ∃ e, l[i] = e := ⟨_, rfl⟩
      rw [he] at c0 c1 HT HM
      obtain ⟨u, v⟩ := e
      have HEq := toHid (eql50 u v x y)
      clear he
      by_cases hq : (u, v) = (x, y)
      · have hE : ∀ W, (binOp .eql 50 (.agg #[.int .i64 u, .int .i64 v]) (.agg #[.int .i64 x, .int .i64 y])).run Try.prog W = .ok (.bool true) W := fun W => by rw [HEq.out W, decide_eq_true hq]
        have HQ := toHid hq
        clear hq
        go_wp2_with fail
        go_region
        go_wp2_with fail
        go_ret
        exact ⟨(i : Int), rfl, fun _ => hq2, fun hno => absurd (HQ.out ▸ HM.out) hno, HLow.out _ HB.out.drew⟩
      · have hE : ∀ W, (binOp .eql 50 (.agg #[.int .i64 u, .int .i64 v]) (.agg #[.int .i64 x, .int .i64 y])).run Try.prog W = .ok (.bool false) W := fun W => by rw [HEq.out W, decide_eq_false hq]
        have HQ := toHid hq
        clear hq
        go_wp2_with fail
        go_region
        go_wp2_with fail
        go_roundw
        case rel => exact ⟨i + 1, by omega, by simp, toHid (by rw [HT.out, List.mem_append]; rintro (h | h); exact HN.out h; exact HQ.out (List.mem_singleton.1 h).symm), toHid HB.out.drew⟩
        case measure => first | omega | (simp only [intOf]; omega)
    · obtain rfl : i = l.length := by omega
      have HNo : Hid ((x, y) ∉ l) := by have := HN.out; rw [List.take_length] at this; exact this
      clear HN
      go_wp2_with fail
      go_ret
      exact ⟨-1, rfl, fun h => absurd h HNo.out, fun _ => rfl, HLow.out _ HB.out⟩


end Go.Proofs.Ytclppfljengnbaa
