/-
  The small functions of package page: which keys may be, a slot's size, the first slot of which something holds, a text copied.
-/
import Derived.Test.YtebchgoaelamcaaDoorRows
import Derived.Test.YtebchgoaelamcaaDoorBase
import Derived.Test.YtebchgoaelamcaaDoorQt
import Derived.Lib.Strings
import Derived.Lib.Walk
import Derived.Lib.BufferWrite
import Derived.Lib.UnsafeStr
import Derived.Lib.Hide
import Derived.Laws.MakeOwn
namespace Go.Proofs.YtebchgoaelamcaaDoor
open Go.RowKit
set_option maxRecDepth 100000

/-- A text of some bytes. -/
def txt (l : List UInt8) : ByteArray := ⟨l.toArray⟩
theorem txt_size (l : List UInt8) : (txt l).size = l.length := by simp [txt, ByteArray.size]
theorem txt_toList (l : List UInt8) : (txt l).toList = l := by simp [txt]
theorem txt_inj (l m : List UInt8) : txt l = txt m ↔ l = m := by
  constructor
  · intro h
    have := congrArg (fun b => b.data.toList) h
    simpa [txt] using this
  · rintro rfl; rfl

/-- A slot's cells. -/
def cellV (c : Cl) : Array Value := #[.bool c.used, .string (txt c.key), .string (txt c.val)]

theorem known_any (id : Int) (w : World) : Calls Tryd.prog 56 #[.int .i64 id] w fun e w' => e = .returned (.bool (decide (0 ≤ id) && decide (id < 16))) ∧ w' = w := by
  by_cases h : 0 ≤ id
  · go_enter Tryd.func56, Tryd.ntmps56
    go_wp2
    go_ret
    simp [h]
  · go_enter Tryd.func56, Tryd.ntmps56
    go_wp2
    go_ret
    simp
    omega

theorem slotAt_any (i : Nat) (w : World) (h : i ≤ 1000000) : Calls Tryd.prog 41 #[.int .i64 (i : Int)] w fun e w' => e = .returned (.int .i64 ((16 + 4 * i : Nat) : Int)) ∧ w' = w := by
  go_enter Tryd.func41, Tryd.ntmps41
  go_wp2
  go_ret
  simp

theorem cellSize_any (c : Cl) (w : World) (h : c.key.length + c.val.length ≤ 1000000) : Calls Tryd.prog 39 #[.agg (cellV c)] w fun e w' => e = .returned (.int .i64 (sizeC c : Nat)) ∧ Below w.heap.size w w' := by
  obtain ⟨u, k, v⟩ := c
  have hB := (Below.refl w.heap.size w).alloc (Nat.le_refl _) (.cells (cellV ⟨u, k, v⟩) 55)
  simp only [cellV] at hB
  simp only at h
  cases u
  · simp only [cellV]
    go_enter Tryd.func39, Tryd.ntmps39
    go_wp2
    go_ret
    exact ⟨rfl, hB⟩
  · have e1 := txt_size k
    have e2 := txt_size v
    simp only [cellV]
    go_enter Tryd.func39, Tryd.ntmps39
    go_wp2
    go_ret
    refine ⟨?_, hB⟩
    simp [sizeC]

theorem may_any (k v : List UInt8) (w : World) (hk : k.length ≤ maxLen) (hv : v.length ≤ maxLen) : Calls Tryd.prog 57 #[.string (txt k), .string (txt v)] w fun e w' => e = .returned (.bool (mayK k v)) ∧ w' = w := by
  unfold maxLen at hk hv
  have e1 := txt_size k
  have e2 := txt_size v
  unfold mayK
  by_cases h1 : 1 ≤ k.length
  · by_cases h2 : k.length ≤ 16
    · go_enter Tryd.func57, Tryd.ntmps57
      go_wp2
      go_ret
      simp [h1, h2]
      omega
    · go_enter Tryd.func57, Tryd.ntmps57
      go_wp2
      go_ret
      simp
  · go_enter Tryd.func57, Tryd.ntmps57
    go_wp2
    go_ret
    simp

/-- A slice of slots. -/
structure SlC (w : World) (a : Option Addr) (l : List Cl) : Prop where
  nonil : a = none → l = []
  cells : ∀ x, a = some x → ∀ i t, l[i]? = some t → x.spot = none ∧ w.cell? ⟨x.block, x.off + i * 3, none⟩ = some (.bool t.used) ∧ w.cell? ⟨x.block, x.off + i * 3 + 1, none⟩ = some (.string (txt t.key)) ∧ w.cell? ⟨x.block, x.off + i * 3 + 2, none⟩ = some (.string (txt t.val))

theorem SlC.below {w w' : World} {a : Option Addr} {l : List Cl} (h : SlC w a l) (hb : Below w.heap.size w w') : SlC w' a l :=
  ⟨h.nonil, fun x hx i t ht => by
    obtain ⟨h0, h1, h2, h3⟩ := h.cells x hx i t ht
    have hlt := World.block_lt_of_cell? _ _ h1
    exact ⟨h0, by rw [hb.cell (by exact hlt)]; exact h1, by rw [hb.cell (by exact hlt)]; exact h2, by rw [hb.cell (by exact hlt)]; exact h3⟩⟩

theorem SlC.at {w : World} {a : Option Addr} {l : List Cl} (h : SlC w a l) (i : Nat) (hi : i < l.length) : ∃ b o, a = some ⟨b, o, none⟩ ∧ b < w.heap.size ∧
    w.cell? ⟨b, o + i * 3, none⟩ = some (.bool l[i].used) ∧ w.cell? ⟨b, o + i * 3 + 1, none⟩ = some (.string (txt l[i].key)) ∧ w.cell? ⟨b, o + i * 3 + 2, none⟩ = some (.string (txt l[i].val)) := by
  cases a with
  | none => have := h.nonil rfl; subst this; simp at hi
  | some x =>
    obtain ⟨b, o, sp⟩ := x
    obtain ⟨h0, h1, h2, h3⟩ := h.cells _ rfl i _ (List.getElem?_eq_getElem hi)
    simp only at h0 h1 h2 h3
    subst h0
    exact ⟨b, o, rfl, World.block_lt_of_cell? _ _ h1, h1, h2, h3⟩

theorem SlC.here {w : World} {b o : Nat} {l : List Cl} (h : SlC w (some ⟨b, o, none⟩) l) (i : Nat) (hi : i < l.length) : b < w.heap.size ∧
    w.cell? ⟨b, o + i * 3, none⟩ = some (.bool l[i].used) ∧ w.cell? ⟨b, o + i * 3 + 1, none⟩ = some (.string (txt l[i].key)) ∧ w.cell? ⟨b, o + i * 3 + 2, none⟩ = some (.string (txt l[i].val)) := by
  obtain ⟨b', o', e, h1⟩ := h.at i hi
  simp at e
  obtain ⟨rfl, rfl⟩ := e
  exact h1

theorem pred75 (c : Cl) (W : World) : Calls Tryd.prog 79 #[.agg (cellV c)] W fun e w' => e = .returned (.bool (isFree c)) ∧ Below W.heap.size W w' := by
  have hB := (Below.refl W.heap.size W).alloc (Nat.le_refl _) (.cells (cellV c) 55)
  simp only [cellV] at hB ⊢
  go_enter Tryd.func79, Tryd.ntmps79
  go_wp2
  go_ret
  exact ⟨by simp [isFree], hB⟩

theorem pred73 (k : List UInt8) (g : Nat) (c : Cl) (W : World) (hg : g < W.heap.size) (hc : W.cell? ⟨g, 0, none⟩ = some (.string (txt k))) :
    Calls Tryd.prog 77 #[.agg (cellV c), .pointer (some ⟨g, 0, none⟩)] W fun e w' => e = .returned (.bool (isKey k c)) ∧ Below W.heap.size W w' := by
  have hB := (Below.refl W.heap.size W).alloc (Nat.le_refl _) (.cells (cellV c) 55)
  have hne : g ≠ W.heap.size := by omega
  obtain ⟨u, key, val⟩ := c
  simp only [cellV] at hB ⊢
  cases u
  · go_enter Tryd.func77, Tryd.ntmps77
    go_wp2
    go_ret
    exact ⟨by simp [isKey], hB⟩
  · go_enter Tryd.func77, Tryd.ntmps77
    go_wp2
    go_ret
    refine ⟨?_, hB⟩
    simp [isKey, txt_toList]

end Go.Proofs.YtebchgoaelamcaaDoor
