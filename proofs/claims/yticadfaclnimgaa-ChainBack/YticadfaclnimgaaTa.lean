/-
  The table's looks: at, look, Row, Kept, Next; New, Gone, Open.
-/
import Derived.Test.YticadfaclnimgaaTm
import Derived.Lib.MinMax
import Derived.Laws.ResultCell
import Derived.Deep.QuietTactic
import Derived.BigQuiet
namespace Go.Proofs.Yticadfaclnimgaa
open Go.RowKit Go.Maps

theorem lawI : Keyed Try.prog 3 := int_keyed Try.underlying3
theorem keyI {x : Int} (hx : (Lit.int .i64 x).wf = true) : keyOf Try.prog 3 (.int .i64 x) = some (.int .i64 x) := keyOf_int_mk Try.underlying3 hx
theorem zero72 (w : World) : (zeroValue 72).run Try.prog w = .ok (.pointer none) w := by kernel_rfl

/-- A transaction's block as a pointer. -/
def ptr (o : Option Nat) : Value := .pointer (o.map fun b => ⟨b, 0, none⟩)
theorem ptr_some (b : Nat) : ptr (some b) = .pointer (some ⟨b, 0, none⟩) := rfl
theorem ptr_none : ptr none = .pointer none := rfl
abbrev Wt (t : Int) : Prop := (Lit.int .i64 t).wf = true

section
variable {w : World} {B T A M : Nat} {K : List Lit} {σ : Sg} {t : Int} {x : Tn}

theorem Tb.look (h : Tb w B T A K M σ) (ht : Wt t) : (Instr.lookup 69 (.map (some A)) (.int .i64 t) false).run Try.prog w = .ok (ptr ((σ.f t).map fun _ => σ.b t)) w := by
  have hl := h.map.look lawI Try.underlying69 zero72 (keyI ht)
  rw [hl]
  show Result.ok (((σ.f t).map fun _ => Value.pointer (some ⟨σ.b t, 0, none⟩)).getD (.pointer none)) w = _
  cases σ.f t <;> rfl

theorem at_nil (t : Int) (w : World) : Calls Try.prog 25 #[.pointer none, .int .i64 t] w fun e w' => e = .returned (.pointer none) ∧ w' = w := by
  go_enter Try.func25, Try.ntmps25
  go_wp2
  go_ret
  exact ⟨rfl, rfl⟩
theorem at25 (h : Tb w B T A K M σ) (ht : Wt t) : Calls Try.prog 25 #[.pointer (some ⟨T, 0, none⟩), .int .i64 t] w fun e w' => e = .returned (ptr ((σ.f t).map fun _ => σ.b t)) ∧ w' = w := by
  have hl := h.look ht
  have hT := h.cellT
  clear h
  generalize ptr ((σ.f t).map fun _ => σ.b t) = v at *
  go_enter Try.func25, Try.ntmps25
  go_wp2
  go_ret
  exact ⟨rfl, rfl⟩
theorem at_yes (h : Tb w B T A K M σ) (ht : Wt t) (hx : σ.f t = some x) : Calls Try.prog 25 #[.pointer (some ⟨T, 0, none⟩), .int .i64 t] w fun e w' => e = .returned (.pointer (some ⟨σ.b t, 0, none⟩)) ∧ w' = w := by
  have := at25 h ht
  rw [hx] at this
  exact this
theorem at_no (h : Tb w B T A K M σ) (ht : Wt t) (hx : σ.f t = none) : Calls Try.prog 25 #[.pointer (some ⟨T, 0, none⟩), .int .i64 t] w fun e w' => e = .returned (.pointer none) ∧ w' = w := by
  have := at25 h ht
  rw [hx] at this
  exact this

theorem look_nil (t : Int) (w : World) : Calls Try.prog 28 #[.pointer none, .int .i64 t] w fun e w' => e = .returned (.tuple #[.pointer none, .int .i64 1]) ∧ w' = w := by
  go_enter Try.func28, Try.ntmps28
  go_wp2
  go_ret2
  exact ⟨rfl, rfl⟩
theorem look_yes (h : Tb w B T A K M σ) (ht : Wt t) (hx : σ.f t = some x) : Calls Try.prog 28 #[.pointer (some ⟨T, 0, none⟩), .int .i64 t] w fun e w' => e = .returned (.tuple #[.pointer (some ⟨σ.b t, 0, none⟩), .int .i64 0]) ∧ w' = w := by
  have hl := h.look ht
  have hT := h.cellT
  rw [hx] at hl
  simp only [Option.map_some, ptr_some] at hl
  clear h hx
  go_enter Try.func28, Try.ntmps28
  go_wp2
  go_ret2
  exact ⟨rfl, rfl⟩
theorem look_no (h : Tb w B T A K M σ) (ht : Wt t) (hx : σ.f t = none) : Calls Try.prog 28 #[.pointer (some ⟨T, 0, none⟩), .int .i64 t] w fun e w' => e = .returned (.tuple #[.pointer none, .int .i64 8]) ∧ w' = w := by
  have hl := h.look ht
  have hT := h.cellT
  rw [hx] at hl
  simp only [Option.map_none, ptr_none] at hl
  clear h hx
  go_enter Try.func28, Try.ntmps28
  go_wp2
  go_ret2
  exact ⟨rfl, rfl⟩

/-- What a look at a transaction tells. -/
def keptO : Option Tn → Int
  | some x => x.need
  | none => 0
def nextO : Option Tn → Nat
  | some x => x.next
  | none => 0
def rowO (t : Int) : Option Tn → Value
  | some x => .agg #[.int .i64 t, .int .i64 x.st, .int .u64 (x.last : Int)]
  | none => .agg #[.int .i64 0, .int .i64 0, .int .u64 0]

theorem kept14 (h : Tb w B T A K M σ) (ht : Wt t) : Calls Try.prog 14 #[.pointer (some ⟨T, 0, none⟩), .int .i64 t] w fun e w' => e = .returned (.int .i64 (keptO (σ.f t))) ∧ w' = w := by
  cases hx : σ.f t with
  | none =>
    have ha := at_no h ht hx
    clear h hx
    go_enter Try.func14, Try.ntmps14
    go_wp2_with (go_at_call 25; refine ha.mono ?_; rintro e w1 ⟨rfl, hw⟩; obtain rfl := hw.symm)
    go_ret
    exact ⟨rfl, rfl⟩
  | some x =>
    have ha := at_yes h ht hx
    obtain ⟨c0, c1, c2, c3, c4⟩ := cells5 (h.blk t x hx).2
    clear h hx
    go_enter Try.func14, Try.ntmps14
    go_wp2_with (go_at_call 25; refine ha.mono ?_; rintro e w1 ⟨rfl, hw⟩; obtain rfl := hw.symm)
    go_ret
    exact ⟨rfl, rfl⟩
theorem next15 (h : Tb w B T A K M σ) (ht : Wt t) : Calls Try.prog 15 #[.pointer (some ⟨T, 0, none⟩), .int .i64 t] w fun e w' => e = .returned (.int .u64 (nextO (σ.f t) : Int)) ∧ w' = w := by
  cases hx : σ.f t with
  | none =>
    have ha := at_no h ht hx
    clear h hx
    go_enter Try.func15, Try.ntmps15
    go_wp2_with (go_at_call 25; refine ha.mono ?_; rintro e w1 ⟨rfl, hw⟩; obtain rfl := hw.symm)
    go_ret
    exact ⟨rfl, rfl⟩
  | some x =>
    have ha := at_yes h ht hx
    obtain ⟨c0, c1, c2, c3, c4⟩ := cells5 (h.blk t x hx).2
    clear h hx
    go_enter Try.func15, Try.ntmps15
    go_wp2_with (go_at_call 25; refine ha.mono ?_; rintro e w1 ⟨rfl, hw⟩; obtain rfl := hw.symm)
    go_ret
    exact ⟨rfl, rfl⟩
theorem isOpen34 {b : Nat} {x : Tn} {v : Value} (hb : w.heap[b]? = some (.cells (txC x v) 74)) : Calls Try.prog 34 #[.pointer (some ⟨b, 0, none⟩)] w fun e w' => e = .returned (.bool (x.st == 0)) ∧ w' = w := by
  obtain ⟨c0, c1, c2, c3, c4⟩ := cells5 hb
  clear hb
  go_enter Try.func34, Try.ntmps34
  go_wp2
  go_ret
  exact ⟨rfl, rfl⟩
/-- What a first record makes needed. -/
def firstN (x : Tn) : Nat := if x.last = 0 then 54 else 0
theorem first52 {b : Nat} {x : Tn} {v : Value} (hb : w.heap[b]? = some (.cells (txC x v) 74)) : Calls Try.prog 52 #[.pointer (some ⟨b, 0, none⟩)] w fun e w' => e = .returned (.int .i64 (firstN x : Int)) ∧ w' = w := by
  obtain ⟨c0, c1, c2, c3, c4⟩ := cells5 hb
  clear hb
  by_cases h0 : x.last = 0
  · have HF := toHid (show firstN x = 54 by simp [firstN, h0])
    have h1 : ((x.last : Int) == 0) = true := by simp [h0]
    clear h0
    go_enter Try.func52, Try.ntmps52
    go_wp2
    go_ret
    exact ⟨by rw [HF.out]; rfl, rfl⟩
  · have HF := toHid (show firstN x = 0 by simp [firstN, h0])
    have h1 : ((x.last : Int) == 0) = false := by simp; omega
    clear h0
    go_enter Try.func52, Try.ntmps52
    go_wp2
    go_ret
    exact ⟨by rw [HF.out]; rfl, rfl⟩
end
end Go.Proofs.Yticadfaclnimgaa
