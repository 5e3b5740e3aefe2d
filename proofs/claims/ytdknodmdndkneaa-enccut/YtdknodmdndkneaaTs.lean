/-
  Things that came in, as the walks ask for them.
-/
import Derived.Test.YtdknodmdndkneaaTh
namespace Go.Proofs.Ytdknodmdndkneaa
open Go.RowKit

/-- The bytes of the first things. -/
def encT (K N : Nat → Int) (S : Nat → ByteArray) : Nat → List UInt8
  | 0 => []
  | k + 1 => encT K N S k ++ thingB (K k) (N k) (S k)

theorem textB_le (s : ByteArray) : (textB s).length ≤ 65537 := by
  unfold textB
  rw [List.length_append, leB_length]
  have : (s.data.toList.take 65535).length ≤ 65535 := by simp; omega
  omega

theorem thingB_le (K N : Int) (s : ByteArray) : (thingB K N s).length ≤ 65537 := by
  have := textB_le s
  unfold thingB
  repeat' split
  all_goals first | (rw [leB_length]; omega) | omega

theorem encT_le (K N : Nat → Int) (S : Nat → ByteArray) (k : Nat) : (encT K N S k).length ≤ k * 65537 := by
  induction k with
  | zero => simp [encT]
  | succ k ih =>
    have := thingB_le (K k) (N k) (S k)
    simp only [encT, List.length_append]
    omega

/-- A slice of n things. -/
structure Things (w : World) (a : Option Addr) (n : Nat) (K N : Nat → Int) (S : Nat → ByteArray) : Prop where
  nonil : a = none → n = 0
  cells : ∀ x, a = some x → ∀ i, i < n → x.spot = none ∧ w.cell? ⟨x.block, x.off + i * 3, none⟩ = some (.int .i64 (K i)) ∧ w.cell? ⟨x.block, x.off + i * 3 + 1, none⟩ = some (.int .u64 (N i)) ∧ w.cell? ⟨x.block, x.off + i * 3 + 2, none⟩ = some (.string (S i))
  ok : ∀ i, i < n → 0 ≤ N i ∧ N i < 18446744073709551616 ∧ (S i).size ≤ maxLen

theorem Things.at {w w' : World} {a : Option Addr} {n : Nat} {K N : Nat → Int} {S : Nat → ByteArray} (h : Things w a n K N S) (hb : Below w.heap.size w w') (i : Nat) (hi : i < n) : ∃ b o, a = some ⟨b, o, none⟩ ∧ b < w'.heap.size ∧
    w'.cell? ⟨b, o + i * 3, none⟩ = some (.int .i64 (K i)) ∧ w'.cell? ⟨b, o + i * 3 + 1, none⟩ = some (.int .u64 (N i)) ∧ w'.cell? ⟨b, o + i * 3 + 2, none⟩ = some (.string (S i)) := by
  cases a with
  | none => have := h.nonil rfl; omega
  | some x =>
    obtain ⟨b, o, sp⟩ := x
    obtain ⟨h1, h2, h3, h4⟩ := h.cells _ rfl i hi
    simp only at h1 h2 h3 h4
    subst h1
    have hlt := World.block_lt_of_cell? _ _ h2
    simp only at hlt
    have hs := hb.size
    exact ⟨b, o, rfl, by omega, by rw [hb.cell (by exact hlt)]; exact h2, by rw [hb.cell (by exact hlt)]; exact h3, by rw [hb.cell (by exact hlt)]; exact h4⟩

theorem Things.here {w w' : World} {b o n : Nat} {K N : Nat → Int} {S : Nat → ByteArray} (h : Things w (some ⟨b, o, none⟩) n K N S) (hb : Below w.heap.size w w') (i : Nat) (hi : i < n) : b < w'.heap.size ∧
    w'.cell? ⟨b, o + i * 3, none⟩ = some (.int .i64 (K i)) ∧ w'.cell? ⟨b, o + i * 3 + 1, none⟩ = some (.int .u64 (N i)) ∧ w'.cell? ⟨b, o + i * 3 + 2, none⟩ = some (.string (S i)) := by
  obtain ⟨b', o', e, h1⟩ := h.at hb i hi
  simp at e
  obtain ⟨rfl, rfl⟩ := e
  exact h1

end Go.Proofs.Ytdknodmdndkneaa
