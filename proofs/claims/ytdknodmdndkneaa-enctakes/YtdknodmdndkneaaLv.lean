/-
  The walk of lives.
-/
import Derived.Test.YtdknodmdndkneaaRt
namespace Go.Proofs.Ytdknodmdndkneaa
open Go.RowKit

theorem WOk.new (w : World) (B : Nat) (hB : B ≤ w.heap.size) : WOk (w.alloc (.cells #[.slice none 0 0] 67)) B w.heap.size (.slice none 0 0) [] :=
  ⟨hB, heap_alloc_new w _, World.ownsRow_nil _ _ _ _⟩

theorem conv_own {w : World} {B : Nat} {a : Option Addr} {n c : Nat} {l : List UInt8} (h : w.ownsRow B 5 1 (.slice a n c) l.length (bcells l)) :
    (convert 30 9 (.slice a n c)).run Try.prog w = .ok (.string ⟨l.toArray⟩) w := by
  obtain ⟨hsl, rfl, _⟩ := slB_of_own h
  cases a with
  | none =>
    have := hsl.nonil rfl
    subst this
    exact run_convert_bytes_nil w 30 5 Try.underlying30 Try.underlying5 _ _ 9 Try.underlying9
  | some x =>
    exact run_convert_bytes_back w 30 9 5 x c l Try.underlying30 Try.underlying5 Try.underlying9 (fun j hj => hsl.cells x rfl j _ (by simp [bcells, List.getElem?_eq_getElem hj]))

theorem slB_five (w : World) : SlB (w.alloc (.cells #[.int .u8 5, .int .u8 0, .int .u8 97] 5)) (some ⟨w.heap.size, 0, none⟩) [5, 0, 97] :=
  ⟨fun h => by simp at h, fun x hx j u hu => by
    simp at hx
    subst hx
    match j, hu with
    | 0, hu => simp [bcells] at hu; subst hu; simp [Addr.add]
    | 1, hu => simp [bcells] at hu; subst hu; simp [Addr.add]
    | 2, hu => simp [bcells] at hu; subst hu; simp [Addr.add]⟩

set_option maxHeartbeats 400000 in
theorem lives_any (w : World) : Calls Try.prog 12 #[] w fun e w' => e = .returned (.bool true) ∧ Below w.heap.size w w' := by
  go_enter Try.func12, Try.ntmps12
  go_wp2_with fail
  refine (new_any _).mono ?_
  rintro e w' ⟨rfl, rfl⟩
  go_wp2_with fail
  refine (wtwo_any _ _ _ _ _ _ (WOk.new w w.heap.size (Nat.le_refl _)) (by decide) (by decide) (by decide)).mono ?_
  rintro e w1 ⟨rfl, ⟨v1, hw1⟩, hb1⟩
  go_wp2_with fail
  refine (wtext_any _ _ _ _ _ _ hw1 (by decide) (by decide)).mono ?_
  rintro e w2 ⟨rfl, ⟨v2, hw2⟩, hb2⟩
  rw [show ([] ++ leB (258 : Int).toNat 2 ++ textB ⟨#[97]⟩) = [2, 1, 1, 0, 97] by decide] at hw2
  go_wp2_with fail
  refine (read_any _ _ [5, 0, 97] _ (slB_five w2) (by decide) (by simp)).mono ?_
  rintro e w3 ⟨pr, ar, cr, rfl, hr3, hb3⟩
  have hb23 := ((Below.refl _ _).alloc (Nat.le_refl _) _).trans (hb3.mono (by simp : w2.heap.size ≤ _))
  have hw3 := hw2.below hb23 (Nat.le_refl _)
  go_wp2_with fail
  refine (wdone_any _ _ _ _ _ hw3 (by decide)).mono ?_
  rintro e w4 ⟨r4, rfl, ho4, hb4⟩
  obtain ⟨ax, cx, rfl⟩ := ownsRow_shape ho4
  have hcv : (convert 30 9 (.slice ax 5 cx)).run Try.prog w4 = .ok (.string ⟨#[2, 1, 1, 0, 97]⟩) w4 := conv_own ho4
  have hr4 := hr3.below hb4 (Nat.le_refl _)
  have ht4 := rtext_any _ _ _ _ _ 9 _ _ hr4
  rw [show takeT 9 [5, 0, 97] 0 = ([5, 0, 97], 4, []) by decide] at ht4
  go_wp2_with fail
  refine ht4.mono ?_
  rintro e w5 ⟨rfl, ⟨a5, c5, hr5⟩, hb5⟩
  go_wp2_with fail
  refine (rerr_any _ _ _ _ _ _ _ hr5).mono ?_
  rintro e w6 ⟨rfl, rfl⟩
  go_wp2
  go_ret
  refine ⟨by simp, ?_⟩
  have hb12 := ((Below.refl w.heap.size w).alloc (Nat.le_refl _) _).trans (hb1.trans hb2)
  have hs12 : w.heap.size ≤ w2.heap.size := hb12.size
  have hs3 : w2.heap.size ≤ w3.heap.size := hb23.size
  exact ((hb12.trans (hb23.mono hs12)).trans (hb4.mono (by omega))).trans ((hr4.toBelow hb5).mono (by simp; omega))
end Go.Proofs.Ytdknodmdndkneaa
