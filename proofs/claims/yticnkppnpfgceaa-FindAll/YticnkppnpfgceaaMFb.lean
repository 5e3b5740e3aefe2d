/-
  The walks of place and sort.Search.
-/
import Derived.Test.YticnkppnpfgceaaMRb
namespace Go.Proofs.Yticnkppnpfgceaa.Mg
open Go.RowKit

theorem below_drewN1 (w : World) (n : Nat) : Below w.heap.size w (w.drewN n) := ⟨rfl, rfl, rfl, Nat.le_refl _, fun _ _ => rfl⟩

/-- What a search sees: a slice and an LSN in variables. -/
structure Sees (W : World) (p q : Nat) (a : Option Addr) (c : Nat) (l : List Rc) (at_ : Nat) : Prop where
  p : W.cell? ⟨p, 0, none⟩ = some (.slice a l.length c)
  q : W.cell? ⟨q, 0, none⟩ = some (.int .u64 (at_ : Int))
  sl : SlR W a l

theorem sees50 (p q : Nat) (a : Option Addr) (c : Nat) (l : List Rc) (at_ i : Nat) (W : World) (h : Sees W p q a c l at_) (hi : i < l.length) :
    Calls Try.prog 53 #[.int .i64 i, .pointer (some ⟨p, 0, none⟩), .pointer (some ⟨q, 0, none⟩)] W fun e w' => e = .returned (.bool (decide (at_ ≤ l[i].lsn))) ∧ ∃ n, w' = W.drewN n := by
  obtain ⟨b, o, rfl, _⟩ := h.sl.there (by omega)
  obtain ⟨pl, h12, _⟩ := h.sl.get i hi
  have c1 := h.p
  have c2 := h.q
  have c3 := h12.2.1
  have hi1 : (i : Int) < (l.length : Int) := by omega
  have hi2 : 0 ≤ (i : Int) := by omega
  have HD := toHid (show decide ((at_ : Int) ≤ (l[i].lsn : Int)) = decide (at_ ≤ l[i].lsn) by simp)
  clear h h12
  go_enter Try.func53, Try.ntmps53
  go_wp2_with fail
  go_quiet (fail)
  go_wp2
  go_ret
  exact ⟨by rw [← HD.out]; simp, _, rfl⟩

/-- The first place whose LSN is at or above. -/
structure Plc (l : List Rc) (at_ k : Nat) : Prop where
  le : k ≤ l.length
  low : ∀ m, (hm : m < l.length) → m < k → l[m].lsn < at_
  high : ∀ m, (hm : m < l.length) → k ≤ m → at_ ≤ l[m].lsn

theorem ris_mono {l : List Rc} (h : RisL l) : ∀ i j, (hj : j < l.length) → (hij : i < j) → l[i].lsn < l[j].lsn := by
  intro i j hj hij
  induction j with
  | zero => omega
  | succ j ih =>
    have h1 := h j (by omega)
    by_cases e : i = j
    · subst e; exact h1
    · have := ih (by omega) (by omega); omega

set_option maxRecDepth 100000 in
set_option maxHeartbeats 4000000 in
theorem search49 (p q : Nat) (a : Option Addr) (c : Nat) (l : List Rc) (at_ : Nat) (W : World) (h : Sees W p q a c l at_) (hl : l.length ≤ 100000) (hr : RisL l) :
    Calls Try.prog 52 #[.int .i64 (l.length : Int), .func (.func 53) #[] #[.pointer (some ⟨p, 0, none⟩), .pointer (some ⟨q, 0, none⟩)]] W fun e w' => ∃ k, e = .returned (.int .i64 (k : Nat)) ∧ Plc l at_ k ∧ ∃ n, w' = W.drewN n := by
  have HH := toHid h
  have HR := toHid hr
  clear h hr
  go_enter Try.func52, Try.ntmps52
  go_wp2_with fail
  go_loopw [5, 6] (fun s t V => ∃ i j : Nat, s = .int .i64 i ∧ t = .int .i64 j ∧ i ≤ j ∧ j ≤ l.length ∧ (∀ m, (hm : m < l.length) → m < i → l[m].lsn < at_) ∧ (∀ m, (hm : m < l.length) → j ≤ m → at_ ≤ l[m].lsn) ∧ ∃ n, V = W.drewN n) (fun s t _ => (intOf t).toNat - (intOf s).toNat)
  case atStart => exact ⟨0, l.length, rfl, rfl, Nat.zero_le _, Nat.le_refl _, fun m _ h => by omega, fun m hm h => by omega, 0, rfl⟩
  case round =>
    obtain ⟨i, j, rfl, rfl, hij, hjl, hlo, hhi, n, rfl⟩ := hrel
    have HLo := toHid hlo
    have HHi := toHid hhi
    clear hlo hhi
    by_cases hlt : i < j
    · have hi1 : (i : Int) < (j : Int) := by omega
      obtain ⟨m, hm1, hm2, hm3⟩ : ∃ m : Nat, ((i : Int) + (j : Int)) / 2 = (m : Int) ∧ i ≤ m ∧ m < j := ⟨(i + j) / 2, by omega, by omega, by omega⟩
      have HE := toHid hm1
      have hml : m < l.length := by omega
      have HC := toHid (sees50 p q a c l at_ m (W.drewN n) ⟨HH.out.p, HH.out.q, HH.out.sl.below (below_drewN1 _ _)⟩ hml)
      clear hm1
      go_wp2_with fail
      rw [HE.out]
      refine Calls.mono HC.out ?_
      rintro e w2 ⟨rfl, n2, rfl⟩
      clear HC HE
      by_cases hle : at_ ≤ l[m].lsn
      · rw [decide_eq_true hle]
        have HLE := toHid hle
        clear hle
        go_wp2_with fail
        go_roundw
        case rel => exact ⟨i, m, rfl, rfl, by omega, by omega, HLo.out, fun m' hm' h => by
          by_cases e : m = m'
          · subst e; exact HLE.out
          · have h1 := ris_mono HR.out m m' hm' (by omega); have h2 := HLE.out; omega, _, rfl⟩
        case measure => simp [intOf]; omega
      · rw [decide_eq_false hle]
        have HLE := toHid hle
        clear hle
        go_wp2_with fail
        go_roundw
        case rel => exact ⟨m + 1, j, by go_num, rfl, by omega, by omega, fun m' hm' h => by
          by_cases e : m' = m
          · subst e; have h2 := HLE.out; omega
          · have h1 := ris_mono HR.out m' m hml (by omega); have h2 := HLE.out; omega, HHi.out, _, rfl⟩
        case measure => simp [intOf]; omega
    · obtain rfl : i = j := by omega
      go_wp2
      go_ret
      exact ⟨i, rfl, ⟨hjl, HLo.out, HHi.out⟩, n, rfl⟩

end Go.Proofs.Yticnkppnpfgceaa.Mg
