/-
  What a nil table answers to Victim.
-/
import Derived.Test.YtclppfljengnbaaGreatNi
import Derived.Test.YtclppfljengnbaaGreatGVc
namespace Go.Proofs.YtclppfljengnbaaGreat
open Go.RowKit

set_option maxRecDepth 100000 in
set_option maxHeartbeats 1000000 in
theorem around_nil (t : Int) (w : World) : Calls Tryz.prog 41 #[.pointer none, .int .i64 t] w fun e w' => ∃ p S N, e = .returned (.pointer (some ⟨p, 0, none⟩)) ∧ Gr.Gr 3 154 w' p N [] S ∧ Below w.heap.size w w' := by
  have hm := @run_makeMap Tryz.prog
  have HP := toHid (party_nil0 t)
  go_enter Tryz.func41, Tryz.ntmps41
  go_wp2_with fail
  refine Calls.mono (Gr.newI w) ?_
  rintro e w1 ⟨p, S, rfl, hg, hb, hS⟩
  have HG := toHid hg
  have HB := toHid hb
  clear hg hb hS
  go_wp2_with fail
  have HLt : Hid (∀ i, S i → i < w1.heap.size) := fun i hi => HG.out.lt hi
  have HW := toHid (((Below.refl w1.heap.size w1).alloc (Nat.le_refl _) (.map #[] 0)).alloc (by simp) (.cells #[.int .i64 t] 3) |>.alloc (by simp; omega) (.cells #[.slice (some ⟨w1.heap.size + 1, 0, none⟩) 1 1] 44))
  have b7 : (((w1.alloc (.map #[] 0)).alloc (.cells #[.int .i64 t] 3)).alloc (.cells #[.slice (some ⟨w1.heap.size + 1, 0, none⟩) 1 1] 44)).heap[w1.heap.size + 1 + 1]? = some (.cells #[.slice (some ⟨w1.heap.size + 1, 0, none⟩) 1 1] 44) := by
    have h := heap_alloc_new ((w1.alloc (.map #[] 0)).alloc (.cells #[.int .i64 t] 3)) (.cells #[.slice (some ⟨w1.heap.size + 1, 0, none⟩) 1 1] 44)
    have e : ((w1.alloc (.map #[] 0)).alloc (.cells #[.int .i64 t] 3)).heap.size = w1.heap.size + 1 + 1 := by simp
    rwa [e] at h
  have b8 : (((w1.alloc (.map #[] 0)).alloc (.cells #[.int .i64 t] 3)).alloc (.cells #[.slice (some ⟨w1.heap.size + 1, 0, none⟩) 1 1] 44)).heap[w1.heap.size + 1]? = some (.cells #[.int .i64 t] 3) := by
    have h := heap_alloc_new (w1.alloc (.map #[] 0)) (.cells #[.int .i64 t] 3)
    have e : (w1.alloc (.map #[] 0)).heap.size = w1.heap.size + 1 := by simp
    rw [e] at h
    exact (heap_alloc_old (w := (w1.alloc (.map #[] 0)).alloc (.cells #[.int .i64 t] 3)) (o := .cells #[.slice (some ⟨w1.heap.size + 1, 0, none⟩) 1 1] 44) (i := w1.heap.size + 1) (by simp)).trans h
  generalize hW0 : (((w1.alloc (.map #[] 0)).alloc (.cells #[.int .i64 t] 3)).alloc (.cells #[.slice (some ⟨w1.heap.size + 1, 0, none⟩) 1 1] 44)) = W0 at HW b7 b8 ⊢
  replace HG := toHid (HG.out.below HW.out)
  replace HW := toHid (HB.out.trans (HW.out.mono HB.out.size))
  have hle : w.heap.size ≤ w1.heap.size := HB.out.size
  generalize hq : w1.heap.size + 1 + 1 = q at b7 ⊢
  generalize hb : w1.heap.size + 1 = b at b7 b8 ⊢
  replace HLt : Hid (∀ i, S i → i < q) := fun i hi => by have := HLt.out i hi; omega
  have hwq : w.heap.size ≤ q := by omega
  have hbq : b ≠ q := by omega
  clear hq hb hW0 hle HB
  go_loopw [8] (fun _ W => ∃ n : Nat, n ≤ 1 ∧ Hid (W.heap[q]? = some (.cells #[.slice (some ⟨b, 0, none⟩) n 1] 44)) ∧ Hid (W.heap[b]? = some (.cells #[.int .i64 t] 3)) ∧ Hid (Gr.Gr 3 154 W p 0 [] S) ∧ Hid (Below w.heap.size w W)) (fun _ W => match W.cell? ⟨q, 0, none⟩ with | some (.slice _ n _) => n | _ => 0)
  case atStart => exact ⟨1, Nat.le_refl _, b7, b8, HG, HW⟩
  case round =>
    obtain ⟨n, hn, h7, h8, hg, hw⟩ := hrel
    have d7 : wr.cell? ⟨q, 0, none⟩ = some (.slice (some ⟨b, 0, none⟩) n 1) := by simp [World.cell?, h7.out]
    have d8 : wr.cell? ⟨b, 0, none⟩ = some (.int .i64 t) := by simp [World.cell?, h8.out]
    have d9 : wr.frozen? ⟨q, 0, none⟩ = false := by simp [World.frozen?, h7.out]
    clear b7 b8 HG HW
    rcases Nat.eq_zero_or_pos n with rfl | h1
    · go_wp2
      go_ret
      exact ⟨p, S, 0, rfl, hg.out, hw.out⟩
    · obtain rfl : n = 1 := by omega
      go_wp2_with fail
      refine Calls.mono (HP.out _) ?_
      rintro e w3 ⟨rfl, hw3⟩
      obtain rfl := hw3.symm
      go_wp2_with fail
      have hs := heap_setCell_same wr q 0 _ _ (.slice (some ⟨b, 0, none⟩) 0 1) h7.out
      have hT := Gr.Turn.setCell wr ⟨q, 0, none⟩ (.slice (some ⟨b, 0, none⟩) 0 1)
      have hlb : b < wr.heap.size := (Array.getElem?_eq_some_iff.1 h8.out).1
      go_roundw
      case rel =>
        refine ⟨0, by omega, toHid (by simpa using hs), toHid ((hT.block b hlb hbq).trans h8.out), toHid (hg.out.turn hT fun i hi e => ?_), toHid (hw.out.trans ⟨hT.os, hT.tape, hT.output, hT.size, fun i hi => hT.block i (Nat.lt_of_lt_of_le hi hw.out.size) (fun e => ?_)⟩)⟩
        · have := HLt.out i hi
          have : i = q := e
          omega
        · have : i = q := e
          omega
      case measure =>
        rw [d7]
        simp [World.cell?, hs]

theorem victim_nil (t : Int) (ht : (Lit.int .i64 t).wf = true) (w : World) : Calls Tryz.prog 16 #[.pointer none, .int .i64 t] w fun e w' => e = .returned (.tuple #[.int .i64 0, .bool false]) ∧ Below w.heap.size w w' := by
  have HA := toHid (around_nil t w)
  go_enter Tryz.func16, Tryz.ntmps16
  go_wp2_with fail
  refine Calls.mono HA.out ?_
  rintro e w1 ⟨p, S, N, rfl, hg, hb⟩
  have HG := toHid hg
  have HB := toHid hb
  clear hg hb
  go_wp2_with fail
  refine Calls.mono (Gr.victim23 HG.out (a := .int .i64 t) ?_ (by simp)) ?_
  · exact Gr.keyI ht
  rintro e w2 ⟨R, rfl, hR, hb2⟩
  have hnil : R = [] := by
    rcases R with _ | ⟨x, R⟩
    · rfl
    · obtain ⟨h1, _⟩ := (hR.mem x).1 (by simp)
      exfalso
      cases h1 <;> simp_all [Gr.outE]
  subst hnil
  have hB := toHid (HB.out.trans (hb2.mono HB.out.size))
  clear hb2 hR
  go_wp2
  go_ret2
  exact ⟨rfl, hB.out⟩
end Go.Proofs.YtclppfljengnbaaGreat
