/-
  A net in memory; an instance's one of rows; the row between two places; Len.
-/
import Derived.Test.YtfdpmffoajjchaaFi
namespace Go.Proofs.Ytfdpmffoajjchaa
open Go.RowKit Go.Conc

/-- The channel's block of row number k (the rows up first, then those down) of a net of n instances that lies from block s on. -/
def chb (s n k : Nat) : Nat := if k < n then s + 1 + k else s + 2 + k
def chs (g : Nat → Nat) (n : Nat) : Array Value := ((List.range n).map fun k => Value.chan (some (g k))).toArray

/-- Pointers to messages. -/
def ptr (b : Nat) : Value := .pointer (some ⟨b, 0, none⟩)
def ptrs (l : List Nat) : List Value := l.map ptr
theorem ptrs_length (l : List Nat) : (ptrs l).length = l.length := by simp [ptrs]

structure NetOk (w : World) (s n : Nat) (R : Nat → List Nat) : Prop where
  n1 : 1 ≤ n
  n8 : n ≤ 8
  up : w.heap[s]? = some (.cells (chs (fun k => s + 1 + k) n) 66)
  down : w.heap[s + n + 1]? = some (.cells (chs (fun k => s + n + 2 + k) n) 66)
  net : w.heap[s + 2 * n + 2]? = some (.cells #[.slice (some ⟨s, 0, none⟩) n n, .slice (some ⟨s + n + 1, 0, none⟩) n n] 63)
  ch : ∀ k, k < 2 * n → ∃ sn rc, w.heap[chb s n k]? = some (.chan 256 (ptrs (R k)).toArray false sn rc false)
  len : ∀ k, k < 2 * n → (R k).length ≤ 256

abbrev netP (s n : Nat) : Value := .pointer (some ⟨s + 2 * n + 2, 0, none⟩)

theorem chs_at (g : Nat → Nat) (n i : Nat) (h : i < n) : (chs g n)[i]? = some (.chan (some (g i))) := by simp [chs, h]
theorem chs_size (g : Nat → Nat) (n : Nat) : (chs g n).size = n := by simp [chs]

set_option maxRecDepth 100000 in
theorem of_any (w : World) (b n : Nat) (g : Nat → Nat) (h : w.heap[b]? = some (.cells (chs g n) 66)) (hn : n ≤ 8) (p : Int) :
    Calls Try.prog 35 #[.slice (some ⟨b, 0, none⟩) n n, .int .i64 p] w fun e w' => e = .returned (.chan (if 1 ≤ p ∧ p ≤ n then some (g (p.toNat - 1)) else none)) ∧ w' = w := by
  by_cases h1 : p < 1
  · rw [if_neg (by omega)]
    go_enter Try.func35, Try.ntmps35
    go_wp2
    go_ret
    exact ⟨rfl, rfl⟩
  · by_cases h2 : (n : Int) < p
    · rw [if_neg (by omega)]
      go_enter Try.func35, Try.ntmps35
      go_wp2
      go_ret
      exact ⟨rfl, rfl⟩
    · rw [if_pos (by omega)]
      obtain ⟨i, rfl⟩ : ∃ i : Nat, p = (i : Int) + 1 := ⟨p.toNat - 1, by omega⟩
      have hi : i < n := by omega
      have e : ((i : Int) + 1).toNat - 1 = i := by omega
      rw [e]
      have hc : w.cell? ⟨b, i, none⟩ = some (.chan (some (g i))) := by simp [World.cell?, h, chs_at g n i hi]
      go_enter Try.func35, Try.ntmps35
      go_wp2
      go_ret
      exact ⟨rfl, rfl⟩

/-- The number of the row between two places. -/
def rix (n : Nat) (f t : Int) : Option Nat := if f = 0 then (if 1 ≤ t ∧ t ≤ n then some (n + (t.toNat - 1)) else none) else if t = 0 then (if 1 ≤ f ∧ f ≤ n then some (f.toNat - 1) else none) else none
def rowV (s n : Nat) (o : Option Nat) : Value := .chan (o.map (chb s n))

theorem rix_lt {n k : Nat} {f t : Int} (h : rix n f t = some k) : k < 2 * n := by
  unfold rix at h
  repeat (split at h <;> try (simp at h))
  all_goals (first | (obtain rfl := h; omega) | omega)

set_option maxRecDepth 100000 in
theorem between_nil (w : World) (f t : Int) : Calls Try.prog 26 #[.pointer none, .int .i64 f, .int .i64 t] w fun e w' => e = .returned (.chan none) ∧ w' = w := by
  go_enter Try.func26, Try.ntmps26
  go_wp2
  go_ret
  exact ⟨rfl, rfl⟩

set_option maxRecDepth 100000 in
theorem between_any (w : World) (s n : Nat) (R : Nat → List Nat) (h : NetOk w s n R) (f t : Int) :
    Calls Try.prog 26 #[netP s n, .int .i64 f, .int .i64 t] w fun e w' => e = .returned (rowV s n (rix n f t)) ∧ w' = w := by
  have H := toHid h
  have hc0 : w.cell? ⟨s + 2 * n + 2, 0, none⟩ = some (.slice (some ⟨s, 0, none⟩) n n) := by simp [World.cell?, h.net]
  have hc1 : w.cell? ⟨s + 2 * n + 2, 1, none⟩ = some (.slice (some ⟨s + n + 1, 0, none⟩) n n) := by simp [World.cell?, h.net]
  clear h
  by_cases h1 : f = 0
  · subst h1
    have e : rowV s n (rix n 0 t) = .chan (if 1 ≤ t ∧ t ≤ n then some (s + n + 2 + (t.toNat - 1)) else none) := by
      by_cases ht : 1 ≤ t ∧ t ≤ n
      · simp only [rix, rowV, if_pos ht, if_true, Option.map_some, chb]
        rw [if_neg (by omega)]
        congr 2
        omega
      · simp only [rix, rowV, if_neg ht, if_true, Option.map_none]
    rw [e]
    have HO := toHid (of_any w (s + n + 1) n _ H.out.down H.out.n8 t)
    clear e
    generalize (if 1 ≤ t ∧ t ≤ (n : Int) then some (s + n + 2 + (t.toNat - 1)) else none) = o at HO ⊢
    go_enter Try.func26, Try.ntmps26
    go_wp2_with (go_at_call 35; refine Calls.mono HO.out ?_; rintro e w' ⟨rfl, hw⟩; obtain rfl := hw.symm)
    go_ret
    exact ⟨rfl, rfl⟩
  · by_cases h2 : t = 0
    · subst h2
      have e : rowV s n (rix n f 0) = .chan (if 1 ≤ f ∧ f ≤ n then some (s + 1 + (f.toNat - 1)) else none) := by
        by_cases ht : 1 ≤ f ∧ f ≤ n
        · simp only [rix, rowV, if_pos ht, if_true, if_neg h1, Option.map_some, chb]
          rw [if_pos (by omega)]
        · simp only [rix, rowV, if_neg ht, if_true, if_neg h1, Option.map_none]
      rw [e]
      have HO := toHid (of_any w s n _ H.out.up H.out.n8 f)
      clear e
      generalize (if 1 ≤ f ∧ f ≤ (n : Int) then some (s + 1 + (f.toNat - 1)) else none) = o at HO ⊢
      go_enter Try.func26, Try.ntmps26
      go_wp2_with (go_at_call 35; refine Calls.mono HO.out ?_; rintro e w' ⟨rfl, hw⟩; obtain rfl := hw.symm)
      go_ret
      exact ⟨rfl, rfl⟩
    · have e : rowV s n (rix n f t) = .chan none := by simp only [rix, rowV, if_neg h1, if_neg h2, Option.map_none]
      rw [e]
      clear e
      go_enter Try.func26, Try.ntmps26
      go_wp2
      go_ret
      exact ⟨rfl, rfl⟩

def lenO (R : Nat → List Nat) (o : Option Nat) : Nat := match o with | some k => (R k).length | none => 0

theorem lenO_le {R : Nat → List Nat} {n : Nat} (h : ∀ k, k < 2 * n → (R k).length ≤ 256) (f t : Int) : lenO R (rix n f t) ≤ 256 := by
  cases e : rix n f t with
  | none => simp [lenO]
  | some k => exact h k (rix_lt e)

theorem run_len_nil (w : World) (ty : TypeId) : (Builtin.len_ #[66] ty #[.chan none]).run Try.prog w = .ok (.int .i64 0) w := by
  simp [Builtin.len_, run_underlying Try.underlying66, goInt]

set_option maxRecDepth 100000 in
theorem len_nil (w : World) (f t : Int) : Calls Try.prog 13 #[.pointer none, .int .i64 f, .int .i64 t] w fun e w' => e = .returned (.int .i64 0) ∧ w' = w := by
  have hl := run_len_nil w
  have HB := toHid (between_nil w f t)
  go_enter Try.func13, Try.ntmps13
  go_wp2_with (go_at_call 26; refine Calls.mono HB.out ?_; rintro e w' ⟨rfl, hw⟩; obtain rfl := hw.symm)
  go_ret
  exact ⟨rfl, rfl⟩

set_option maxRecDepth 100000 in
theorem len_any (w : World) (s n : Nat) (R : Nat → List Nat) (h : NetOk w s n R) (f t : Int) :
    Calls Try.prog 13 #[netP s n, .int .i64 f, .int .i64 t] w fun e w' => e = .returned (.int .i64 (lenO R (rix n f t) : Nat)) ∧ w' = w := by
  have HB := toHid (between_any w s n R h f t)
  cases e : rix n f t with
  | none =>
    rw [e] at HB
    have hl := run_len_nil w
    simp only [rowV, Option.map_none] at HB
    simp only [lenO]
    clear e h
    go_enter Try.func13, Try.ntmps13
    go_wp2_with (go_at_call 26; refine Calls.mono HB.out ?_; rintro e w' ⟨rfl, hw⟩; obtain rfl := hw.symm)
    go_ret
    exact ⟨rfl, rfl⟩
  | some k =>
    rw [e] at HB
    obtain ⟨sn, rc, hc⟩ := h.ch k (rix_lt e)
    have hl : ∀ ty, (Builtin.len_ #[66] ty #[.chan (some (chb s n k))]).run Try.prog w = .ok (.int .i64 ((R k).length : Nat)) w := fun ty => by
      rw [run_len_chan 66 ty Try.underlying66 hc]
      simp [goInt, ptrs_length]
    simp only [rowV, Option.map_some] at HB
    simp only [lenO]
    clear e h hc
    go_enter Try.func13, Try.ntmps13
    go_wp2_with (go_at_call 26; refine Calls.mono HB.out ?_; rintro e w' ⟨rfl, hw⟩; obtain rfl := hw.symm)
    go_ret
    exact ⟨rfl, rfl⟩

end Go.Proofs.Ytfdpmffoajjchaa
