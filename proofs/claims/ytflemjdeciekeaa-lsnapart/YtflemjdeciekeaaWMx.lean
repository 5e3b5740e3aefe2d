/-
  The walk of LsnMax.
-/
import Derived.Test.YtflemjdeciekeaaMx
namespace Go.Proofs.Ytflemjdeciekeaa
open Go.RowKit

theorem Try.info23 : (Try.prog.info? 23).map (fun i => (i.zero, i.size, i.bytes)) = some (some (.int .u64 0), 1, 8) := by kernel_rfl

theorem ownsRow_shape {w : World} {B : Nat} {e : TypeId} {size : Nat} {v : Value} {n : Nat} {xs : List Value} (h : w.ownsRow B e size v n xs) : ∃ a c, v = .slice a n c := by
  rcases h.2 with ⟨rfl, rfl⟩ | ⟨g, cap, cur, rfl, _⟩
  · exact ⟨_, _, rfl⟩
  · exact ⟨_, _, rfl⟩

theorem slV_of_own {w : World} {B : Nat} {e : TypeId} {a : Option Addr} {n c : Nat} {xs : List Value} (h : w.ownsRow B e 1 (.slice a n c) xs.length xs) : SlV w a xs := by
  rcases h.2 with ⟨h1, h2⟩ | ⟨g, cap, cur, h1, hB, hh, hc, hm, _⟩
  · have : xs = [] := List.eq_nil_of_length_eq_zero h2
    subst this
    exact SlV.empty
  · simp at h1
    obtain ⟨rfl, rfl, rfl⟩ := h1
    refine ⟨fun h => by simp at h, fun x hx j u hu => ?_⟩
    simp at hx
    subst hx
    exact h.cells (g := g) rfl j u hu

theorem cell_one_new (w : World) (v : Value) (t : TypeId) : ∀ j u, [v][j]? = some u → (w.alloc (.cells #[v] t)).cell? ((⟨w.heap.size, 0, none⟩ : Addr).add j) = some u := by
  intro j u hu
  match j, hu with
  | 0, hu =>
    simp at hu
    subst hu
    simp [Addr.add]

set_option maxRecDepth 20000 in
set_option maxHeartbeats 2000000 in
theorem max_walk (a : Option Addr) (c : Nat) (l : List Nat) (w : World) (hsl : SlV w a (u64s l)) (hll : l.length ≤ maxLen) :
    Calls Try.prog 4 #[.slice a l.length c] w fun e w' => e = .returned (.bool true) ∧ Below w.heap.size w w' := by
  unfold maxLen at hll
  obtain ⟨i0, hi, hz0, hz1, hz2⟩ := info_parts Try.info23
  go_enter Try.func4, Try.ntmps4
  go_wp2_with fail
  have hown0 : (w.alloc (.cells #[] 23)).ownsRow w.heap.size 23 1 (.slice (some ⟨w.heap.size, 0, none⟩) 0 0) 0 (u64s []) := World.ownsRow_made w #[] 0 (Nat.le_refl _) (by decide) rfl
  have hB0 : Below w.heap.size w (w.alloc (.cells #[] 23)) := (Below.refl _ _).alloc (Nat.le_refl _) _
  go_loopw [3, 4] (fun v j wr => ∃ (k : Nat), k ≤ l.length ∧ k ≤ 100 ∧ j = .int .i64 k ∧ wr.ownsRow w.heap.size 23 1 v k (u64s (l.take k)) ∧ Below w.heap.size w wr) (fun _ j _ => 100 - (intOf j).toNat)
  case atStart => exact ⟨0, by omega, by omega, rfl, hown0, hB0⟩
  case round =>
    obtain ⟨k, hk, hk100, rfl, hown, hB⟩ := hrel
    clear hown0 hB0
    by_cases hlt : k < l.length ∧ k < 100
    · obtain ⟨hlt1, hlt2⟩ := hlt
      obtain ⟨g, o, rfl, hcell, hg⟩ := (hsl.below hB).at k _ (u64s_at l k hlt1)
      have HT : Hid (u64s (l.take (k + 1)) = u64s (l.take k) ++ [.int .u64 ((l[k] : Nat) : Int)]) := by
        show _ = _
        rw [List.take_succ_eq_append_getElem hlt1, u64s_append]
        rfl
      generalize l[k] = x at *
      have hsz := hB.size
      go_wp2_with (at_builtin; refine wpList_append_own _ rfl _ _ 33 rfl w.heap.size 23 i0 (.int .u64 0) 1 8 Try.underlying33 hi hz0 hz1 hz2 rfl (by decide) _ _ _ rfl (hown.alloc _) ⟨wr.heap.size, 0, none⟩ 1 1 [_] rfl rfl (cell_one_new _ _ _) (by intro u hu; simp at hu; subst hu; rfl) (by unfold maxLen; omega) (by omega) (by simp; omega) ?_; intro v' w1 hown' hgrow _)
      have R : w1.ownsRow w.heap.size 23 1 v' (k + 1) (u64s (l.take (k + 1))) := by rw [HT.out]; exact hown'
      have R2 : Below w.heap.size w w1 := (hB.alloc hsz _).grown hgrow (by simp; omega) (fun j hj => (hown.lt j hj).1)
      go_roundw
      case rel => exact ⟨k + 1, by omega, by omega, by go_num, R, R2⟩
      case measure => simp [intOf]; omega
    · have hcs : ¬ (k < l.length) ∨ (k < l.length ∧ ¬ (k < 100)) := by omega
      clear hlt
      have hsz := hB.size
      obtain ⟨ax, cx, rfl⟩ := ownsRow_shape hown
      have hlen : (l.take k).length = k := by simp; omega
      have hsl2 : SlV wr ax (u64s (l.take k)) := slV_of_own (e := 23) (B := w.heap.size) (n := k) (c := cx) (by rw [u64s_length, hlen]; exact hown)
      have h1 := fun W => max_any none 0 [] W SlV.empty (by simp)
      have h2 := max_any ax cx (l.take k) wr hsl2 (by unfold maxLen; omega)
      have h3 := refmax_any ax cx (l.take k) wr hsl2 (by unfold maxLen; omega)
      rw [hlen] at h2 h3
      rw [show maxL [] = 0 from rfl] at h1
      generalize maxL (l.take k) = q at *
      clear hown hlen
      rcases hcs with hc4 | ⟨hc4, hc5⟩
      all_goals
        go_wp2_with fail
        refine h2.mono ?_
        rintro e w0 ⟨rfl, hw⟩
        obtain rfl := hw.symm
        go_wp2_with fail
        refine h3.mono ?_
        rintro e w0 ⟨rfl, hw⟩
        obtain rfl := hw.symm
        go_wp2_with fail
        refine (h1 _).mono ?_
        rintro e w0 ⟨rfl, hw⟩
        obtain rfl := hw.symm
        go_wp2_with (go_at_call 15; go_must (refine (lives_any _).mono ?_); rintro e w' ⟨rfl, hb⟩)
        go_ret
        exact ⟨rfl, hB.trans (hb.mono hsz)⟩
end Go.Proofs.Ytflemjdeciekeaa
