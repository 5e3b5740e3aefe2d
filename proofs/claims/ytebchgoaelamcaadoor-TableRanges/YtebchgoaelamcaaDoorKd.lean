/-
  Pairs without those of a key.
-/
import Derived.Test.YtebchgoaelamcaaDoorKc
namespace Go.Proofs.YtebchgoaelamcaaDoor
open Go.RowKit
set_option maxRecDepth 100000

theorem wo_take (key : List UInt8) (l : List Pq) (k : Nat) (h : k < l.length) : wo key (l.take (k + 1)) = wo key (l.take k) ++ (if l[k].1 = key then [] else [l[k]]) := by
  rw [List.take_succ_eq_append_getElem h]
  unfold wo
  rw [List.filter_append]
  congr 1
  by_cases e : l[k].1 = key
  · simp [e]
  · simp [e]

set_option maxHeartbeats 2000000 in
theorem without_any (a0 : Option Addr) (c0 : Nat) (l : List Pq) (key : List UInt8) (w : World) (h : SlQ w a0 l) (hl : l.length ≤ 1000) :
    Calls Tryd.prog 27 #[.slice a0 l.length c0, .string (txt key)] w fun e w' => ∃ a c, e = .returned (.slice a (wo key l).length c) ∧ w'.ownsRow w.heap.size 74 2 (.slice a (wo key l).length c) (wo key l).length (pcells (wo key l)) ∧ Below w.heap.size w w' := by
  obtain ⟨i0, hi, hz0, hz1, hz2⟩ := info_parts Tryd.info74
  have HS := toHid h
  clear h
  go_enter Tryd.func27, Tryd.ntmps27
  go_wp2_with fail
  go_loopw [5, 6] (fun s i wr => ∃ k : Nat, ∃ a c, k ≤ l.length ∧ i = .int .i64 k ∧ s = .slice a (wo key (l.take k)).length c ∧ wr.ownsRow w.heap.size 74 2 s (wo key (l.take k)).length (pcells (wo key (l.take k))) ∧ Below w.heap.size w wr) (fun _ i _ => l.length - (intOf i).toNat)
  case atStart => exact ⟨0, none, 0, Nat.zero_le _, rfl, rfl, World.ownsRow_nil _ _ _ _, Below.refl _ _⟩
  case round =>
    obtain ⟨k, a, c, hk, rfl, rfl, hor, hbr⟩ := hrel
    have hplen : (wo key (l.take k)).length ≤ 1000 := by
      have h1 : (wo key (l.take k)).length ≤ (l.take k).length := List.length_filter_le _ _
      rw [List.length_take] at h1
      omega
    by_cases hlt : k < l.length
    · have HPT := toHid (wo_take key l k hlt)
      obtain ⟨P, hP⟩ : ∃ P, P = wo key (l.take k) := ⟨_, rfl⟩
      rw [← hP] at hor hplen HPT
      rw [← hP]
      have HP := toHid hP
      have HOr : Hid (wr.ownsRow w.heap.size 74 2 (.slice a P.length c) P.length (pcells P)) := hor
      have HBr := toHid hbr
      obtain ⟨b, o, rfl, hbl, c1, c2⟩ := (HS.out.below hbr).at k hlt
      clear hP hor hbr
      generalize hx : l[k] = x at *
      obtain ⟨xk, xv⟩ := x
      simp only at c1 c2 HPT
      by_cases hq : xk = key
      · subst hq
        rw [if_pos rfl, List.append_nil] at HPT
        have hqq : ((txt xk).toList == (txt xk).toList) = true := by simp
        go_wp2_with fail
        go_roundw
        case rel => exact ⟨k + 1, a, c, by omega, by simp, by rw [HPT.out], by rw [HPT.out]; exact HOr.out, HBr.out⟩
        case measure => first | omega | (simp only [intOf]; omega)
      · rw [if_neg hq] at HPT
        have hqq : ((txt xk).toList == (txt key).toList) = false := by simp [txt_toList, hq]
        have HO0 := toHid (HOr.out.alloc (.cells #[.string (txt xk), .string (txt xv)] 74))
        have HB0 : Hid (Below w.heap.size w (wr.alloc (.cells #[.string (txt xk), .string (txt xv)] 74))) := HBr.out.alloc HBr.out.size _
        have hsw := HBr.out.size
        go_wp2_with (at_builtin; refine wpList_append_own _ rfl _ _ 33 rfl w.heap.size 74 i0 _ 2 32 Tryd.underlying33 hi hz0 hz1 hz2 rfl (by decide) (.slice a P.length c) P.length (pcells P) rfl HO0.out ⟨wr.heap.size, 0, none⟩ 1 1 [.string (txt xk), .string (txt xv)] rfl rfl (cells_two (heap_alloc_new _ _)) (by intro u hu; simp at hu; rcases hu with rfl | rfl <;> rfl) (by unfold maxLen; omega) (by omega) (by simp; omega) ?_; intro v' w1 hown hgrow _; obtain ⟨a1, d1, rfl⟩ := ownsRow_shape hown)
        have HB1 : Hid (Below w.heap.size w w1) := HB0.out.grown hgrow HB0.out.size (fun j hj => (World.ownsRow.lt HO0.out j hj).1)
        have HO1 : Hid (w1.ownsRow w.heap.size 74 2 (.slice a1 (P.length + 1) d1) (P.length + 1) (pcells P ++ [.string (txt xk), .string (txt xv)])) := hown
        clear hown hgrow
        go_wp2_with fail
        go_roundw
        case rel =>
          refine ⟨k + 1, a1, d1, by omega, by simp, by rw [HPT.out]; simp, ?_, HB1.out⟩
          rw [HPT.out, pcells_append, List.length_append]
          exact HO1.out
        case measure => first | omega | (simp only [intOf]; omega)
    · obtain rfl : k = l.length := by omega
      rw [List.take_length] at hor hplen ⊢
      have HBr := toHid hbr
      have HOr := toHid hor
      clear hor hbr
      go_wp2_with fail
      go_ret
      exact ⟨a, c, rfl, HOr.out, HBr.out⟩
end Go.Proofs.YtebchgoaelamcaaDoor
