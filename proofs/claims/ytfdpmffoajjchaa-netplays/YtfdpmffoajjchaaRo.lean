/-
  The document's Row.
-/
import Derived.Test.YtfdpmffoajjchaaLi
namespace Go.Proofs.Ytfdpmffoajjchaa
open Go.RowKit Go.Conc

abbrev refN (n : Int) (v : Value) : Value := .agg #[.int .i64 n, v]

theorem rix_some0 {n : Nat} {f t : Int} (hf : f = 0) (h1 : 1 ≤ t) (h2 : t ≤ n) : (rix n f t).isSome = true := by simp [rix, hf, h1, h2]
theorem rix_some1 {n : Nat} {f t : Int} (hf : ¬ f = 0) (ht : t = 0) (h1 : 1 ≤ f) (h2 : f ≤ n) : (rix n f t).isSome = true := by simp [rix, hf, ht, h1, h2]
theorem rix_no0 {n : Nat} {f t : Int} (hf : f = 0) (h : ¬ (1 ≤ t ∧ t ≤ n)) : (rix n f t).isSome = false := by simp [rix, hf, h]
theorem rix_no1 {n : Nat} {f t : Int} (hf : ¬ f = 0) (h : ¬ (1 ≤ f ∧ f ≤ n)) : (rix n f t).isSome = false := by simp [rix, hf, h]
theorem rix_no2 {n : Nat} {f t : Int} (hf : ¬ f = 0) (h : ¬ t = 0) : (rix n f t).isSome = false := by simp [rix, hf, h]

set_option maxRecDepth 100000 in
set_option maxHeartbeats 1000000 in
theorem row18 (n : Nat) (v : Value) (f t : Int) (w : World) : Calls Try.prog 18 #[refN n v, .int .i64 f, .int .i64 t] w fun e w' => e = .returned (.bool (rix n f t).isSome) ∧ Below w.heap.size w w' := by
  have HB : Hid (Below w.heap.size w (w.alloc (.cells #[.int .i64 (n : Int), v] 45))) := (Below.refl _ _).alloc (Nat.le_refl _) _
  by_cases hf : f = 0
  · have z1 : (f == 0) = true := by simp [hf]
    by_cases h1 : 1 ≤ t
    · have z2 : (t == 0) = false := by simp; omega
      by_cases h2 : t ≤ n
      · have HE := toHid (rix_some0 hf h1 h2)
        rw [HE.out]
        clear hf
        go_enter Try.func18, Try.ntmps18
        go_wp2
        go_ret
        exact ⟨rfl, HB.out⟩
      · have HE := toHid (rix_no0 (n := n) (t := t) hf (fun h => h2 h.2))
        rw [HE.out]
        clear hf
        go_enter Try.func18, Try.ntmps18
        go_wp2
        go_ret
        exact ⟨rfl, HB.out⟩
    · have HE := toHid (rix_no0 (n := n) (t := t) hf (fun h => h1 h.1))
      rw [HE.out]
      have z4 : ¬ 1 ≤ f := by omega
      clear hf
      by_cases h2 : t = 0
      · have z2 : (t == 0) = true := by simp [h2]
        clear h2
        go_enter Try.func18, Try.ntmps18
        go_wp2
        go_ret
        exact ⟨rfl, HB.out⟩
      · have z2 : (t == 0) = false := by simp [h2]
        clear h2
        go_enter Try.func18, Try.ntmps18
        go_wp2
        go_ret
        exact ⟨rfl, HB.out⟩
  · have z1 : (f == 0) = false := by simp [hf]
    by_cases h2 : t = 0
    · have z2 : (t == 0) = true := by simp [h2]
      by_cases h1 : 1 ≤ f
      · by_cases h3 : f ≤ n
        · have HE := toHid (rix_some1 hf h2 h1 h3)
          rw [HE.out]
          clear hf h2
          go_enter Try.func18, Try.ntmps18
          go_wp2
          go_ret
          exact ⟨rfl, HB.out⟩
        · have HE := toHid (rix_no1 (n := n) (t := t) hf (fun h => h3 h.2))
          rw [HE.out]
          clear hf h2
          go_enter Try.func18, Try.ntmps18
          go_wp2
          go_ret
          exact ⟨rfl, HB.out⟩
      · have HE := toHid (rix_no1 (n := n) (t := t) hf (fun h => h1 h.1))
        rw [HE.out]
        clear hf h2
        go_enter Try.func18, Try.ntmps18
        go_wp2
        go_ret
        exact ⟨rfl, HB.out⟩
    · have z2 : (t == 0) = false := by simp [h2]
      have HE := toHid (rix_no2 (n := n) hf h2)
      rw [HE.out]
      clear hf h2
      go_enter Try.func18, Try.ntmps18
      go_wp2
      go_ret
      exact ⟨rfl, HB.out⟩

end Go.Proofs.Ytfdpmffoajjchaa
