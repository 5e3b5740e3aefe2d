/-
  Rows of wants that are the same; the chapter's examples; short texts; the document's Beside.
-/
import Derived.Test.YtebchgoaelamcaaDoorHc
import Derived.Test.YtebchgoaelamcaaDoorX1
import Derived.BigQuiet
import Derived.Deep.QuietTactic
import Derived.Deep.RegionHeld3
namespace Go.Proofs.YtebchgoaelamcaaDoor
open Go.RowKit
set_option maxRecDepth 100000

theorem Tryd.held79 : Tryd.prog.stoodInHeld 79 = false := by kernel_rfl
theorem Tryd.struct79 : Tryd.prog.underlying 79 = some (.struct (Tryd.prog.fieldsOf 79)) := by kernel_rfl
theorem neq79 (s : ByteArray) (b : Int) (w : World) : (binOp .neq 79 (.agg #[.string s, .int .i64 b]) (.agg #[.string s, .int .i64 b])).run Tryd.prog w = .ok (.bool false) w := by
  have h : (Op.equalIn 10000 79 (.agg #[.string s, .int .i64 b]) (.agg #[.string s, .int .i64 b])).run Tryd.prog w = .ok true w := by
    rw [show (10000 : Nat) = 9999 + 1 from rfl, run_equalIn_struct w 9999 79 _ _ Tryd.struct79 Tryd.held79]
    simp [Program.fieldsOf, Tryd.underlying79, Op.eqFields, go_sem, Tryd.underlying9, Tryd.underlying77]
  rw [run_neq_struct, h]
  simp [Result.andThen]
theorem eql79 (s : ByteArray) (b : Int) (w : World) : (binOp .eql 79 (.agg #[.string s, .int .i64 b]) (.agg #[.string s, .int .i64 b])).run Tryd.prog w = .ok (.bool true) w := by
  have h : (Op.equalIn 10000 79 (.agg #[.string s, .int .i64 b]) (.agg #[.string s, .int .i64 b])).run Tryd.prog w = .ok true w := by
    rw [show (10000 : Nat) = 9999 + 1 from rfl, run_equalIn_struct w 9999 79 _ _ Tryd.struct79 Tryd.held79]
    simp [Program.fieldsOf, Tryd.underlying79, Op.eqFields, go_sem, Tryd.underlying9, Tryd.underlying77]
  rw [run_eql_struct, h]
  simp [Result.andThen]

theorem sameWants_any (a b : Option Addr) (l : List (List UInt8 × Int)) (w : World) (ha : SlW w a l) (hb : SlW w b l) (hl : l.length ≤ 2) : Calls Tryd.prog 15 #[.slice a l.length l.length, .slice b l.length l.length] w fun e w' => e = .returned (.bool true) ∧ Below w.heap.size w w' := by
  have HA := toHid ha
  have HB := toHid hb
  clear ha hb
  go_enter Tryd.func15, Tryd.ntmps15
  go_wp2_with fail
  go_loopw [5] (fun i wr => ∃ k : Nat, k ≤ l.length ∧ i = .int .i64 k ∧ ∃ n, wr = w.drewN n) (fun i _ => l.length - (intOf i).toNat)
  case atStart => exact ⟨0, Nat.zero_le _, rfl, 0, rfl⟩
  case round =>
    obtain ⟨k, hk, rfl, n, rfl⟩ := hrel
    by_cases hlt : k < l.length
    · obtain ⟨g, rfl, hg, c0, c1⟩ := HA.out.get k hlt
      obtain ⟨g', rfl, hg', d0, d1⟩ := HB.out.get k hlt
      have hn := neq79 (txt l[k].1) l[k].2
      clear hg hg'
      generalize txt l[k].1 = s at *
      generalize l[k].2 = m at *
      go_wp2_with fail
      go_quiet (fail)
      go_wp2_with fail
      go_roundw
      case rel => first | exact ⟨k + 1, by omega, by simp, _, rfl⟩ | exact ⟨k + 1, by omega, by simp, _, World.drewN_drewN _ _ _⟩
      case measure => first | omega | (simp only [intOf]; omega)
    · go_wp2_with fail
      go_ret
      exact ⟨rfl, (Below.refl _ _).trans ⟨rfl, rfl, rfl, Nat.le_refl _, fun _ _ => rfl⟩⟩
theorem short_any (k : Int) (a b : List UInt8) (w : World) : Calls Tryd.prog 9 #[.agg #[.int .i64 k, .string (txt a), .string (txt b)]] w fun e w' => ∃ x, e = .returned (.bool x) ∧ Below w.heap.size w w' := by
  have hB0 := (Below.refl w.heap.size w).alloc (Nat.le_refl _) (.cells #[.int .i64 k, .string (txt a), .string (txt b)] 23)
  have HB := toHid hB0
  clear hB0
  go_enter Tryd.func9, Tryd.ntmps9
  go_wp2_with fail
  go_ret
  exact ⟨_, rfl, HB.out⟩
theorem lives_any (w : World) (ht : Tb w) : Calls Tryd.prog 10 #[] w fun e w' => e = .returned (.bool true) ∧ Below w.heap.size w w' := by
  have HT := toHid ht
  clear ht
  have hh : homeI [] 4 = 1 := by decide
  have hnm : nameL 1 = [112, 49] := by
    simp only [nameL]
    rw [if_neg (by decide), show (1 : Int).toNat = 1 from rfl, Lib.decDigits_one (by decide)]
    rfl
  have HW : Hid (wantsL 3 [] 4 = [([42], 2), ([112, 49], 5)]) := by
    unfold wantsL Hid
    rw [if_neg (by decide), if_pos (by decide), hh, hnm]
  clear hnm
  have q1 := eql79 ⟨#[42]⟩ 2
  have q2 := eql79 ⟨#[112, 49]⟩ 5
  go_enter Tryd.func10, Tryd.ntmps10
  go_wp2_with fail
  refine Calls.mono (show Calls Tryd.prog 16 #[.int .i64 3, .string ⟨#[]⟩, .int .i64 4] w _ from wants_any 3 [] (by simp) 4 (by decide) (by decide) w HT.out) ?_
  rintro e w1 ⟨a, rfl, hs, hb1⟩
  rw [HW.out] at hs ⊢
  have HB := toHid hb1
  clear hb1
  obtain ⟨g, rfl, hg, c0, c1⟩ := hs.get 0 (by simp)
  obtain ⟨g', he, hg', d0, d1⟩ := hs.get 1 (by simp)
  obtain rfl : g = g' := by simpa using he
  replace c0 : w1.cell? ⟨g, 0, none⟩ = some (.string ⟨#[42]⟩) := c0
  replace c1 : w1.cell? ⟨g, 1, none⟩ = some (.int .i64 2) := c1
  replace d0 : w1.cell? ⟨g, 2, none⟩ = some (.string ⟨#[112, 49]⟩) := d0
  replace d1 : w1.cell? ⟨g, 3, none⟩ = some (.int .i64 5) := d1
  clear he hg' hs
  go_wp2_with fail
  refine Calls.mono (show Calls Tryd.prog 11 #[.string ⟨#[]⟩, .int .i64 4] w1 _ from home_any [] (by simp) 4 (by decide) (by decide) w1) ?_
  rintro e w2 ⟨rfl, rfl⟩
  rw [hh]
  go_wp2_with fail
  go_ret
  exact ⟨rfl, HB.out⟩
end Go.Proofs.YtebchgoaelamcaaDoor
