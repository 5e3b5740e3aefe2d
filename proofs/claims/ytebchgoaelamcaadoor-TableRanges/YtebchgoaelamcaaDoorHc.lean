/-
  What a step asks for: a row of wants.
-/
import Derived.Test.YtebchgoaelamcaaDoorHb
import Derived.Laws.StructEq
namespace Go.Proofs.YtebchgoaelamcaaDoor
open Go.RowKit
set_option maxRecDepth 100000

theorem cell_kept {w w' : World} {B b : Nat} (hb : Below B w w') (h : b < B) (k : Nat) : w'.cell? ⟨b, k, none⟩ = w.cell? ⟨b, k, none⟩ := by simp only [World.cell?, hb.block b h]
/-- A row of wants that can be read. -/
structure SlW (w : World) (a : Option Addr) (l : List (List UInt8 × Int)) : Prop where
  get : ∀ k (hk : k < l.length), ∃ b : Nat, a = some ⟨b, 0, none⟩ ∧ b < w.heap.size ∧ w.cell? ⟨b, k * 2, none⟩ = some (.string (txt l[k].1)) ∧ w.cell? ⟨b, k * 2 + 1, none⟩ = some (.int .i64 l[k].2)
theorem SlW.below {w w' : World} {a : Option Addr} {l : List (List UInt8 × Int)} (h : SlW w a l) (hb : Below w.heap.size w w') : SlW w' a l := ⟨fun k hk => by
  obtain ⟨b, rfl, hlt, c0, c1⟩ := h.get k hk
  exact ⟨b, rfl, Nat.lt_of_lt_of_le hlt hb.size, by rw [cell_kept hb hlt]; exact c0, by rw [cell_kept hb hlt]; exact c1⟩⟩

def wrt (k : Int) : Bool := k == 3 || k == 4 || k == 5
/-- What a step asks for. -/
def wantsL (k : Int) (key : List UInt8) (n : Int) : List (List UInt8 × Int) :=
  if k = 2 then [([42], 1), (nameL (homeI key n), 3)]
  else if wrt k then [([42], 2), (nameL (homeI key n), 5)]
  else if k = 6 then [([42], 3)]
  else []

theorem writes_any (k : Int) (w : World) : Calls Tryd.prog 33 #[.int .i64 k] w fun e w' => e = .returned (.bool (wrt k)) ∧ w' = w := by
  by_cases h3 : k = 3
  · subst h3
    go_enter Tryd.func33, Tryd.ntmps33
    go_wp2_with fail
    go_ret
    exact ⟨rfl, rfl⟩
  · by_cases h4 : k = 4
    · subst h4
      go_enter Tryd.func33, Tryd.ntmps33
      go_wp2_with fail
      go_ret
      exact ⟨rfl, rfl⟩
    · go_enter Tryd.func33, Tryd.ntmps33
      go_wp2_with fail
      go_ret
      exact ⟨by simp [wrt, show (k == 3) = false by simpa using h3, show (k == 4) = false by simpa using h4], rfl⟩

theorem cell_of {w : World} {b : Nat} {cs : Array Value} {t : TypeId} (h : w.heap[b]? = some (.cells cs t)) (k : Nat) {u : Value} (hk : cs[k]? = some u) : w.cell? ⟨b, k, none⟩ = some u := by simp [World.cell?, h, hk]
theorem size_alloc (w : World) (o : Obj) : w.heap.size < (w.alloc o).heap.size := by rw [World.alloc, Array.size_push]; omega
theorem slw2 (w : World) (nm : List UInt8) (x y : Int) : SlW (w.alloc (.cells #[.string ⟨#[42]⟩, .int .i64 x, .string (txt nm), .int .i64 y] 79)) (some ⟨w.heap.size, 0, none⟩) [([42], x), (nm, y)] := ⟨fun k hk => by
  have hh := heap_alloc_new w (.cells #[.string ⟨#[42]⟩, .int .i64 x, .string (txt nm), .int .i64 y] 79)
  have hs := size_alloc w (.cells #[.string ⟨#[42]⟩, .int .i64 x, .string (txt nm), .int .i64 y] 79)
  match k, hk with
  | 0, _ => exact ⟨_, rfl, hs, cell_of hh 0 rfl, cell_of hh 1 rfl⟩
  | 1, _ => exact ⟨_, rfl, hs, cell_of hh 2 rfl, cell_of hh 3 rfl⟩⟩
theorem slw1 (w : World) (x : Int) : SlW (w.alloc (.cells #[.string ⟨#[42]⟩, .int .i64 x] 79)) (some ⟨w.heap.size, 0, none⟩) [([42], x)] := ⟨fun k hk => by
  have hh := heap_alloc_new w (.cells #[.string ⟨#[42]⟩, .int .i64 x] 79)
  have hs := size_alloc w (.cells #[.string ⟨#[42]⟩, .int .i64 x] 79)
  match k, hk with
  | 0, _ => exact ⟨_, rfl, hs, cell_of hh 0 rfl, cell_of hh 1 rfl⟩⟩
theorem slw0 (w : World) : SlW w none [] := ⟨fun k hk => by simp at hk⟩
theorem homeI_le (key : List UInt8) (n : Int) (h1 : n ≤ 9223372036854775807) : homeI key n ≤ 9223372036854775807 := by
  have hin := homeI_in key n
  by_cases hp : 0 < n
  · have := hin.2 hp; omega
  · simp [homeI, show n < 1 by omega]

theorem wants_any (k : Int) (key : List UInt8) (hk0 : key.length ≤ 9223372036854775807) (n : Int) (h0 : -9223372036854775808 ≤ n) (h1 : n ≤ 9223372036854775807) (w : World) (ht : Tb w) : Calls Tryd.prog 16 #[.int .i64 k, .string (txt key), .int .i64 n] w fun e w' => ∃ a, e = .returned (.slice a (wantsL k key n).length (wantsL k key n).length) ∧ SlW w' a (wantsL k key n) ∧ Below w.heap.size w w' := by
  have hin := homeI_in key n
  have hle := homeI_le key n h1
  have HT := toHid ht
  clear ht
  go_enter Tryd.func16, Tryd.ntmps16
  go_wp2_with fail
  refine Calls.mono (home_any key hk0 n h0 h1 _) ?_
  rintro e w1 ⟨rfl, rfl⟩
  go_wp2_with fail
  refine Calls.mono (name_any _ (by omega) hle _ fun _ => HT.out) ?_
  rintro e w2 ⟨rfl, hb1⟩
  have HB := toHid hb1
  clear hb1
  generalize hnm : nameL (homeI key n) = nm
  have HN := toHid hnm
  clear hnm
  by_cases h2 : k = 2
  · subst h2
    have HW : Hid (wantsL 2 key n = [([42], 1), (nm, 3)]) := by rw [← HN.out]; rfl
    go_wp2_with fail
    go_ret
    rw [HW.out]
    exact ⟨_, rfl, slw2 w2 nm 1 3, HB.out.alloc HB.out.size _⟩
  · by_cases h3 : wrt k = true
    · have HW : Hid (wantsL k key n = [([42], 2), (nm, 5)]) := by rw [← HN.out]; unfold wantsL Hid; rw [if_neg h2, if_pos h3]
      have hc : k = 3 ∨ k = 4 ∨ k = 5 := by simpa [wrt, or_assoc] using h3
      rcases hc with rfl | rfl | rfl <;> (
        go_wp2_with fail
        go_ret
        rw [HW.out]
        exact ⟨_, rfl, slw2 w2 nm 2 5, HB.out.alloc HB.out.size _⟩)
    · have hc : k ≠ 3 ∧ k ≠ 4 ∧ k ≠ 5 := by simpa [wrt, and_assoc] using h3
      obtain ⟨n3, n4, n5⟩ := hc
      by_cases h6 : k = 6
      · subst h6
        have HW : Hid (wantsL 6 key n = [([42], 3)]) := rfl
        go_wp2_with fail
        go_ret
        rw [HW.out]
        exact ⟨_, rfl, slw1 w2 3, HB.out.alloc HB.out.size _⟩
      · have HW : Hid (wantsL k key n = []) := by unfold wantsL Hid; rw [if_neg h2, if_neg h3, if_neg h6]
        go_wp2_with fail
        go_ret
        rw [HW.out]
        exact ⟨_, rfl, slw0 w2, HB.out⟩
theorem refwants_any (k : Int) (key : List UInt8) (hk0 : key.length ≤ 9223372036854775807) (n : Int) (h0 : -9223372036854775808 ≤ n) (h1 : n ≤ 9223372036854775807) (w : World) : Calls Tryd.prog 17 #[.int .i64 k, .string (txt key), .int .i64 n] w fun e w' => ∃ a, e = .returned (.slice a (wantsL k key n).length (wantsL k key n).length) ∧ SlW w' a (wantsL k key n) ∧ Below w.heap.size w w' := by
  have hin := homeI_in key n
  have hle := homeI_le key n h1
  go_enter Tryd.func17, Tryd.ntmps17
  go_wp2_with fail
  refine Calls.mono (refhome_any key hk0 n h0 h1 _) ?_
  rintro e w1 ⟨rfl, rfl⟩
  go_wp2_with fail
  refine Calls.mono (refname_any _ (by omega) hle _) ?_
  rintro e w2 ⟨rfl, hb1⟩
  have HB := toHid hb1
  clear hb1
  generalize hnm : nameL (homeI key n) = nm
  have HN := toHid hnm
  clear hnm
  go_wp2_with fail
  refine Calls.mono (writes_any k _) ?_
  rintro e w3 ⟨rfl, rfl⟩
  by_cases h3 : wrt k = true
  · have h2 : k ≠ 2 := by rintro rfl; simp [wrt] at h3
    have HW : Hid (wantsL k key n = [([42], 2), (nm, 5)]) := by rw [← HN.out]; unfold wantsL Hid; rw [if_neg h2, if_pos h3]
    rw [h3]
    go_wp2_with fail
    go_ret
    rw [HW.out]
    exact ⟨_, rfl, slw2 _ nm 2 5, HB.out.alloc HB.out.size _⟩
  · rw [Bool.eq_false_iff.2 h3]
    by_cases h2 : k = 2
    · subst h2
      have HW : Hid (wantsL 2 key n = [([42], 1), (nm, 3)]) := by rw [← HN.out]; rfl
      go_wp2_with fail
      go_ret
      rw [HW.out]
      exact ⟨_, rfl, slw2 _ nm 1 3, HB.out.alloc HB.out.size _⟩
    · by_cases h6 : k = 6
      · subst h6
        have HW : Hid (wantsL 6 key n = [([42], 3)]) := rfl
        go_wp2_with fail
        go_ret
        rw [HW.out]
        exact ⟨_, rfl, slw1 _ 3, HB.out.alloc HB.out.size _⟩
      · have HW : Hid (wantsL k key n = []) := by unfold wantsL Hid; rw [if_neg h2, if_neg h3, if_neg h6]
        go_wp2_with fail
        go_ret
        rw [HW.out]
        exact ⟨_, rfl, slw0 _, HB.out⟩
end Go.Proofs.YtebchgoaelamcaaDoor
