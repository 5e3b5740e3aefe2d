/-
  What the walk of EncTakes asks for.
-/
import Derived.Test.YtdknodmdndkneaaRf
namespace Go.Proofs.Ytdknodmdndkneaa
open Go.RowKit

/-- A slice of n asks. -/
structure Asks (w : World) (a : Option Addr) (n : Nat) (K M : Nat → Int) : Prop where
  nonil : a = none → n = 0
  cells : ∀ x, a = some x → ∀ i, i < n → x.spot = none ∧ w.cell? ⟨x.block, x.off + i * 2, none⟩ = some (.int .i64 (K i)) ∧ w.cell? ⟨x.block, x.off + i * 2 + 1, none⟩ = some (.int .i64 (M i))

theorem Asks.at {w w' : World} {a : Option Addr} {n : Nat} {K M : Nat → Int} (h : Asks w a n K M) (hb : Below w.heap.size w w') (i : Nat) (hi : i < n) : ∃ b o, a = some ⟨b, o, none⟩ ∧ b < w.heap.size ∧
    w'.cell? ⟨b, o + i * 2, none⟩ = some (.int .i64 (K i)) ∧ w'.cell? ⟨b, o + i * 2 + 1, none⟩ = some (.int .i64 (M i)) := by
  cases a with
  | none => have := h.nonil rfl; omega
  | some x =>
    obtain ⟨b, o, sp⟩ := x
    obtain ⟨h1, h2, h3⟩ := h.cells _ rfl i hi
    simp only at h1 h2 h3
    subst h1
    have hlt := World.block_lt_of_cell? _ _ h2
    simp only at hlt
    exact ⟨b, o, rfl, hlt, by rw [hb.cell (by exact hlt)]; exact h2, by rw [hb.cell (by exact hlt)]; exact h3⟩

/-- The program's reader and the document's, side by side: j bytes are taken off s, and the error is e. -/
structure Both (w : World) (B p q : Nat) (s : ByteArray) (j : Nat) (e : Int) : Prop where
  rd : ∃ a c, ROk w B p a c (s.data.toList.drop j) e
  blk : w.heap[q]? = some (.cells #[.string s, .int .i64 j, .int .i64 e] 40 (0, 0))
  lt : p < q
  le : j ≤ s.size

theorem Both.below {w w' : World} {B p q : Nat} {s : ByteArray} {j : Nat} {e : Int} (h : Both w B p q s j e) (hb : Below w.heap.size w w') : Both w' B p q s j e :=
  ⟨by obtain ⟨a, c, hr⟩ := h.rd; exact ⟨a, c, hr.below hb (Nat.le_refl _)⟩, by rw [hb.block q (lt_of_block h.blk)]; exact h.blk, h.lt, h.le⟩

theorem Both.left {w : World} {B p q : Nat} {s : ByteArray} {j : Nat} {e : Int} (h : Both w B p q s j e) :
    Calls Try.prog 22 #[.pointer (some ⟨p, 0, none⟩)] w fun en w' => en = .returned (.int .i64 ((s.size : Int) - j)) ∧ w' = w := by
  obtain ⟨a, c, hr⟩ := h.rd
  have := rleft_any _ _ _ _ _ _ _ hr
  have hl : (((s.data.toList.drop j).length : Nat) : Int) = (s.size : Int) - j := by
    have := h.le
    simp
    omega
  rwa [hl] at this

theorem Both.err {w : World} {B p q : Nat} {s : ByteArray} {j : Nat} {e : Int} (h : Both w B p q s j e) :
    Calls Try.prog 24 #[.pointer (some ⟨p, 0, none⟩)] w fun en w' => en = .returned (.int .i64 e) ∧ w' = w := by
  obtain ⟨a, c, hr⟩ := h.rd
  exact rerr_any _ _ _ _ _ _ _ hr

theorem Both.ends {w : World} {B p q : Nat} {s : ByteArray} {j : Nat} {e : Int} (h : Both w B p q s j e) :
    Calls Try.prog 25 #[.pointer (some ⟨p, 0, none⟩)] w fun en w' => en = .returned (.int .i64 (endOf (s.data.toList.drop j) e)) ∧ w' = w := by
  obtain ⟨a, c, hr⟩ := h.rd
  exact rend_any _ _ _ _ _ _ _ hr

theorem three_set {w : World} {b : Nat} {v0 v1 v2 x0 x1 x2 : Value} {t : TypeId} (h : w.heap[b]? = some (.cells #[v0, v1, v2] t (0, 0))) : (((w.setCell ⟨b, 0, none⟩ x0).setCell ⟨b, 1, none⟩ x1).setCell ⟨b, 2, none⟩ x2).heap[b]? = some (.cells #[x0, x1, x2] t (0, 0)) := by
  have one : ∀ (w : World) (cs : Array Value) (i : Nat) (x : Value), w.heap[b]? = some (.cells cs t (0, 0)) → (w.setCell ⟨b, i, none⟩ x).heap[b]? = some (.cells (cs.setIfInBounds i x) t (0, 0)) := by
    intro w cs i x h
    show (w.heap.modify b _)[b]? = _
    simp [Array.getElem?_modify, h]
  have h1 := one _ _ 0 x0 h
  have h2 := one _ _ 1 x1 h1
  have h3 := one _ _ 2 x2 h2
  simpa using h3

/-- The document's reader has stored what it took. -/
theorem Both.mid {w w1 : World} {B p q : Nat} {s : ByteArray} {j : Nat} {e : Int} (h : Both w B p q s j e) (hb : Below w.heap.size w w1) (x0 x1 x2 : Value) :
    (∃ a c, ROk (((w1.setCell ⟨q, 0, none⟩ x0).setCell ⟨q, 1, none⟩ x1).setCell ⟨q, 2, none⟩ x2) B p a c (s.data.toList.drop j) e) ∧
    (((w1.setCell ⟨q, 0, none⟩ x0).setCell ⟨q, 1, none⟩ x1).setCell ⟨q, 2, none⟩ x2).heap[q]? = some (.cells #[x0, x1, x2] 40 (0, 0)) ∧
    Below B w (((w1.setCell ⟨q, 0, none⟩ x0).setCell ⟨q, 1, none⟩ x1).setCell ⟨q, 2, none⟩ x2) := by
  have h1 := h.below hb
  obtain ⟨a, c, hr⟩ := h1.rd
  have hbase := hr.base
  have hl := h.lt
  have hlq := lt_of_block h.blk
  exact ⟨⟨a, c, ((hr.setHigh h.lt _).setHigh h.lt _).setHigh h.lt _⟩, three_set h1.blk, (((hb.mono (by omega)).setCell (by simp; omega) _).setCell (by simp; omega) _).setCell (by simp; omega) _⟩

/-- Then the program's reader has taken the same. -/
theorem Both.fin {w w' : World} {B p q : Nat} {s : ByteArray} {j k : Nat} {e e' : Int} {l : List UInt8} (h : Both w B p q s j e) {W : World} (hW : W.heap[q]? = some (.cells #[.string s, .int .i64 k, .int .i64 e'] 40 (0, 0))) (hg : W.grownBy w' (some p))
    (hr : ∃ a c, ROk w' B p a c l e') (hl : l = s.data.toList.drop k) (hk : k ≤ s.size) : Both w' B p q s k e' := by
  subst hl
  have hlt := h.lt
  exact ⟨hr, by rw [hg.block q (lt_of_block hW) (by simp; omega)]; exact hW, hlt, hk⟩

theorem conv_str {W : World} {a : Option Addr} {c : Nat} {s : ByteArray} (h : SlB W a s.data.toList) : (convert 30 9 (.slice a s.size c)).run Try.prog W = .ok (.string s) W := by
  have hsl : s.data.toList.length = s.size := by simp
  have e : (⟨s.data.toList.toArray⟩ : ByteArray) = s := by simp
  rw [← hsl]
  cases a with
  | none =>
    have hz := h.nonil rfl
    have hs : s = ByteArray.empty := by
      rw [← e, hz]
      rfl
    rw [hs]
    exact run_convert_bytes_nil W 30 5 Try.underlying30 Try.underlying5 _ _ 9 Try.underlying9
  | some x =>
    have := run_convert_bytes_back W 30 9 5 x c s.data.toList Try.underlying30 Try.underlying5 Try.underlying9 (fun j hj => h.cells x rfl j _ (by simp [bcells, List.getElem?_eq_getElem hj]))
    rw [e] at this
    exact this

theorem set_third {w : World} {b : Nat} {v0 v1 v2 x2 : Value} {t : TypeId} (h : w.heap[b]? = some (.cells #[v0, v1, v2] t (0, 0))) : (w.setCell ⟨b, 2, none⟩ x2).heap[b]? = some (.cells #[v0, v1, x2] t (0, 0)) := by
  show (w.heap.modify b _)[b]? = _
  simp [Array.getElem?_modify, h]

/-- Both readers were failed. -/
theorem Both.failed {w : World} {B p q : Nat} {s : ByteArray} {j : Nat} (h : Both w B p q s j 0) : Both ((w.setCell ⟨p, 1, none⟩ (.int .i64 7)).setCell ⟨q, 2, none⟩ (.int .i64 7)) B p q s j 7 := by
  obtain ⟨a, c, hr⟩ := h.rd
  have hlt := h.lt
  refine ⟨⟨a, c, (hr.fail 7).setHigh h.lt _⟩, ?_, h.lt, h.le⟩
  refine set_third (v2 := .int .i64 0) ?_
  rw [Below.heap_setCell _ _ _ _ (by simp; omega)]
  exact h.blk

/-- The kind of an ask. -/
def askOf (K : Int) : Nat := (IntKind.u64.wrap K % 6).toNat

end Go.Proofs.Ytdknodmdndkneaa
