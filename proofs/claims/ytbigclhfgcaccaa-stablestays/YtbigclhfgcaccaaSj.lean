/-
  The walk of StableStays.
-/
import Derived.Test.YtbigclhfgcaccaaSi
namespace Go.Proofs.Ytbigclhfgcaccaa
open Go.RowKit

noncomputable def rest7 : Code := tailOf' 4 ((Try.f7.body).getD .skip)

/-- A new device. -/
def dev0 (n : Nat) : Dv := ⟨List.replicate n 0, List.replicate 8 none⟩

theorem new_dev (n : Nat) (w : World) (h : n ≤ 65536) (h2 : n % 64 = 0) : Calls Try.prog 9 #[.int .i64 (n : Int)] w fun e w' => e = .returned (.tuple #[.pointer (some ⟨w.heap.size + 1, 0, none⟩), .int .i64 0]) ∧ Dev w' [] (w.heap.size + 1) w.heap.size (dev0 n) ∧ Below w.heap.size w w' ∧ w'.heap.size = w.heap.size + 2 := by
  refine (new_yes n w h h2).mono ?_
  rintro e w' ⟨rfl, rfl⟩
  exact ⟨rfl, Dev.new n w [] (fun k hk => by simp at hk) h h2, ((Below.refl _ w).alloc (Nat.le_refl _) _).alloc (by rw [World.size_alloc]; omega) _, by rw [World.size_alloc, World.size_alloc]⟩

/-- The device with one sector written. -/
theorem first7 (n A : Nat) (hA : A ≤ 63) (hn : n = 4096) (f : UInt8) : startE (dev0 n) 0 (64 * (A : Int)) (List.replicate 64 f) = 0 ∧
    finE (startD (dev0 n) 0 (64 * (A : Int)) (List.replicate 64 f)) 0 = 0 ∧ Keep7 A f (finD (startD (dev0 n) 0 (64 * (A : Int)) (List.replicate 64 f)) 0 1024) := by
  obtain ⟨m, hm⟩ : ∃ m : List UInt8, m = List.replicate 64 f := ⟨_, rfl⟩
  have hml : m.length = 64 := by rw [hm, List.length_replicate]
  have hmg : ∀ i, i < 64 → m[i]? = some f := fun i hi => by rw [hm, List.getElem?_replicate, if_pos hi]
  rw [← hm]
  clear hm
  have e : startE (dev0 n) 0 (64 * (A : Int)) m = 0 := by
    unfold startE dev0
    rw [hml, if_neg (by omega), List.length_replicate, if_neg (by omega)]
    rfl
  have es : startD (dev0 n) 0 (64 * (A : Int)) m = ⟨List.replicate n 0, (List.replicate 8 none).set 0 (some (64 * A, m))⟩ := by
    unfold startD
    rw [if_pos e, show (64 * (A : Int)).toNat = 64 * A by omega]
    rfl
  have e1 : ((List.replicate 8 none).set 0 (some (64 * A, m)))[(0 : Int).toNat]? = some (some (64 * A, m)) := rfl
  rw [es]
  refine ⟨e, ?_, ?_⟩
  · unfold finE
    rw [if_pos (by omega)]
    simp only [e1]
  · unfold finD
    rw [if_pos (by omega)]
    simp only [e1]
    rw [List.take_of_length_le (by omega)]
    refine ⟨?_, hA, fun i i1 i2 => ?_, fun h a m' e' => ?_⟩
    · show (over (List.replicate n 0) (64 * A) m).length = 4096
      rw [over_length _ _ _ (by rw [List.length_replicate]; omega), List.length_replicate, hn]
    · show (over (List.replicate n 0) (64 * A) m)[i]? = some f
      rw [over_get _ _ _ (by rw [List.length_replicate]; omega), if_pos (by omega), hmg _ (by omega)]
    · exfalso
      have e2 : (((List.replicate 8 none).set 0 (some (64 * A, m))).set 0 none)[h]? = some (some (a, m')) := e'
      by_cases hh : 0 = h
      · subst hh
        rw [List.getElem?_set_self (by rw [List.length_set, List.length_replicate]; omega)] at e2
        cases e2
      · rw [List.getElem?_set_ne hh, List.getElem?_set_ne hh, List.getElem?_replicate] at e2
        split at e2 <;> cases e2

end Go.Proofs.Ytbigclhfgcaccaa
