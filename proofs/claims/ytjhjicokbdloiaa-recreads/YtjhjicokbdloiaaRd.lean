/-
  The Reader's walks.
-/
import Derived.Test.YtjhjicokbdloiaaWr
namespace Go.Proofs.Ytjhjicokbdloiaa
open Go.RowKit

/-- A Reader that lies in block p and has the bytes l left, and the error err. -/
structure ROk (w : World) (B p : Nat) (a : Option Addr) (c : Nat) (l : List UInt8) (err : Int) : Prop where
  base : B ≤ p
  blk : w.heap[p]? = some (.cells #[.slice a l.length c, .int .i64 err] 108 (0, 0))
  sl : SlB w a l
  row : ∀ x, a = some x → x.spot = none ∧ x.block < p ∧ x.block < w.heap.size ∧ B ≤ x.block
  len : l.length ≤ c
  cap : c ≤ maxLen
  nil : a = none → c = 0

theorem two_cells {w : World} {b : Nat} {v u : Value} {t : TypeId} (h : w.heap[b]? = some (.cells #[v, u] t (0, 0))) :
    w.cell? ⟨b, 0, none⟩ = some v ∧ w.cell? ⟨b, 1, none⟩ = some u ∧ w.frozen? ⟨b, 0, none⟩ = false ∧ w.frozen? ⟨b, 1, none⟩ = false := by
  simp [World.cell?, World.frozen?, h]

theorem two_set0 {w : World} {b : Nat} {v u x : Value} {t : TypeId} (h : w.heap[b]? = some (.cells #[v, u] t (0, 0))) : (w.setCell ⟨b, 0, none⟩ x).heap[b]? = some (.cells #[x, u] t (0, 0)) := by
  have hlt := lt_of_block h
  have h' : w.heap[b] = .cells #[v, u] t (0, 0) := by simpa [Array.getElem?_eq_getElem hlt] using h
  show (w.heap.modify b _)[b]? = _
  simp [Array.getElem?_modify, h]

theorem two_set1 {w : World} {b : Nat} {v u x : Value} {t : TypeId} (h : w.heap[b]? = some (.cells #[v, u] t (0, 0))) : (w.setCell ⟨b, 1, none⟩ x).heap[b]? = some (.cells #[v, x] t (0, 0)) := by
  have hlt := lt_of_block h
  have h' : w.heap[b] = .cells #[v, u] t (0, 0) := by simpa [Array.getElem?_eq_getElem hlt] using h
  show (w.heap.modify b _)[b]? = _
  simp [Array.getElem?_modify, h]

theorem ROk.below {w w' : World} {B D p : Nat} {a : Option Addr} {c : Nat} {l : List UInt8} {err : Int} (h : ROk w B p a c l err) (hb : Below D w w') (hD : w.heap.size ≤ D) : ROk w' B p a c l err :=
  ⟨h.base, by rw [hb.block p (by have := lt_of_block h.blk; omega)]; exact h.blk, h.sl.below (hb.mono hD), fun x hx => by obtain ⟨r1, r2, r3, r4⟩ := h.row x hx; have := hb.size; exact ⟨r1, r2, by omega, r4⟩, h.len, h.cap, h.nil⟩

theorem SlB.setCell {w : World} {a : Option Addr} {l : List UInt8} (h : SlB w a l) {p q : Nat} (hne : ∀ x, a = some x → x.block ≠ p) (u : Value) : SlB (w.setCell ⟨p, q, none⟩ u) a l :=
  ⟨h.nonil, fun x hx j v hv => by
    have h1 := h.cells x hx j v hv
    have h2 : (x.add j).block = x.block := by unfold Addr.add; split <;> rfl
    rw [World.cell?_of_block (w := w) (Below.heap_setCell _ _ _ _ (by rw [h2]; exact hne x hx))]
    exact h1⟩

theorem ROk.fail {w : World} {B p : Nat} {a : Option Addr} {c : Nat} {l : List UInt8} {err : Int} (h : ROk w B p a c l err) (e : Int) : ROk (w.setCell ⟨p, 1, none⟩ (.int .i64 e)) B p a c l e :=
  ⟨h.base, two_set1 h.blk, h.sl.setCell (fun x hx => Nat.ne_of_lt (h.row x hx).2.1) _, fun x hx => by have := h.row x hx; simpa [World.setCell] using this, h.len, h.cap, h.nil⟩

theorem SlB.shift {w : World} {a : Option Addr} {l : List UInt8} {x : Addr} {k : Nat} (h : SlB w a l) (hx : a = some x) : SlB w (some (x.add k)) (l.drop k) :=
  ⟨fun h => by simp at h, fun y hy j v hv => by
    simp at hy
    subst hy
    have h1 := h.cells x hx (k + j) v (by rw [← hv]; simp [bcells, List.getElem?_drop])
    rw [← h1]
    congr 1
    unfold Addr.add
    by_cases hk : k = 0
    · subst hk; simp
    · by_cases hj : j = 0
      · subst hj; simp
      · have : ¬ (k + j = 0) := by omega
        simp [hk, hj, Nat.add_assoc]⟩

theorem SlB.empty {w : World} {a : Option Addr} : SlB w a [] := ⟨fun _ => rfl, fun x _ j u hu => by simp [bcells] at hu⟩

/-- Nothing but block p has turned. -/
theorem grefl (w : World) (p : Nat) : w.grownBy w (some p) := ⟨rfl, rfl, rfl, Nat.le_refl _, fun _ _ _ => rfl⟩
theorem gset (w : World) (p q : Nat) (u : Value) : w.grownBy (w.setCell ⟨p, q, none⟩ u) (some p) :=
  ⟨rfl, rfl, rfl, by simp [World.setCell], fun k _ hne => Below.heap_setCell _ _ _ _ (fun e => hne (by rw [e]))⟩
theorem galloc {w w' : World} {p : Nat} (h : w.grownBy w' (some p)) (o : Obj) : w.grownBy (w'.alloc o) (some p) :=
  ⟨h.os, h.tape, h.output, by have := h.size; simp; omega, fun k hk hne => by rw [Below.heap_alloc _ _ _ (by have := h.size; omega)]; exact h.block k hk hne⟩
theorem ROk.toBelow {w w' : World} {B p : Nat} {a : Option Addr} {c : Nat} {l : List UInt8} {err : Int} (h : ROk w B p a c l err) (hg : w.grownBy w' (some p)) : Below B w w' :=
  (Below.refl _ _).grown hg (by have := lt_of_block h.blk; have := h.base; omega) (fun k hk => by simp at hk; subst hk; exact h.base)

/-- A store above the Reader's own block. -/
theorem ROk.setHigh {w : World} {B p : Nat} {a : Option Addr} {c : Nat} {l : List UInt8} {err : Int} (h : ROk w B p a c l err) {q j : Nat} (hq : p < q) (u : Value) : ROk (w.setCell ⟨q, j, none⟩ u) B p a c l err :=
  ⟨h.base, by rw [Below.heap_setCell _ _ _ _ (by simp; omega)]; exact h.blk, h.sl.setCell (fun x hx => by have := h.row x hx; omega) _, fun x hx => by have := h.row x hx; simpa [World.setCell] using this, h.len, h.cap, h.nil⟩

/-- Fail. -/
theorem rfail_ok (B p : Nat) (a : Option Addr) (c : Nat) (l : List UInt8) (e : Int) (w : World) (h : ROk w B p a c l 0) :
    Calls Try.prog 89 #[.pointer (some ⟨p, 0, none⟩), .int .i64 e] w fun en w' => en = .returned (.tuple #[]) ∧ w' = w.setCell ⟨p, 1, none⟩ (.int .i64 e) := by
  obtain ⟨c0, c1, f0, f1⟩ := two_cells h.blk
  go_enter Try.func89, Try.ntmps89
  go_wp2
  go_end0
  exact ⟨rfl, rfl⟩

theorem rfail_err (B p : Nat) (a : Option Addr) (c : Nat) (l : List UInt8) (err e : Int) (w : World) (h : ROk w B p a c l err) (he : err ≠ 0) :
    Calls Try.prog 89 #[.pointer (some ⟨p, 0, none⟩), .int .i64 e] w fun en w' => en = .returned (.tuple #[]) ∧ w' = w := by
  obtain ⟨c0, c1, f0, f1⟩ := two_cells h.blk
  have hb : (err == 0) = false := by simp [he]
  clear he
  go_enter Try.func89, Try.ntmps89
  go_wp2
  go_end0
  exact ⟨rfl, rfl⟩

theorem rfail_nil (e : Int) (w : World) :
    Calls Try.prog 89 #[.pointer none, .int .i64 e] w fun en w' => en = .returned (.tuple #[]) ∧ w' = w := by
  go_enter Try.func89, Try.ntmps89
  go_wp2
  go_end0
  exact ⟨rfl, rfl⟩

/-- has. -/
theorem rhas_yes (B p : Nat) (a : Option Addr) (c : Nat) (l : List UInt8) (k : Int) (w : World) (h : ROk w B p a c l 0) (hk : k ≤ l.length) :
    Calls Try.prog 86 #[.pointer (some ⟨p, 0, none⟩), .int .i64 k] w fun en w' => en = .returned (.bool true) ∧ w' = w := by
  obtain ⟨c0, c1, f0, f1⟩ := two_cells h.blk
  go_enter Try.func86, Try.ntmps86
  go_wp2_with fail
  go_ret
  exact ⟨rfl, rfl⟩

theorem rhas_short (B p : Nat) (a : Option Addr) (c : Nat) (l : List UInt8) (k : Int) (w : World) (h : ROk w B p a c l 0) (hk : (l.length : Int) < k) :
    Calls Try.prog 86 #[.pointer (some ⟨p, 0, none⟩), .int .i64 k] w fun en w' => en = .returned (.bool false) ∧ w' = w.setCell ⟨p, 1, none⟩ (.int .i64 4) := by
  obtain ⟨c0, c1, f0, f1⟩ := two_cells h.blk
  have hr := rfail_ok B p a c l 4 w h
  go_enter Try.func86, Try.ntmps86
  go_wp2_with (go_at_call 89; go_must (refine hr.mono ?_); rintro e w' ⟨rfl, rfl⟩)
  go_ret
  exact ⟨rfl, rfl⟩

theorem rhas_err (B p : Nat) (a : Option Addr) (c : Nat) (l : List UInt8) (err k : Int) (w : World) (h : ROk w B p a c l err) (he : err ≠ 0) :
    Calls Try.prog 86 #[.pointer (some ⟨p, 0, none⟩), .int .i64 k] w fun en w' => en = .returned (.bool false) ∧ w' = w := by
  obtain ⟨c0, c1, f0, f1⟩ := two_cells h.blk
  have hr := rfail_err B p a c l err 4 w h he
  have hb : (err == 0) = false := by simp [he]
  clear he
  by_cases hk : (l.length : Int) < k
  · go_enter Try.func86, Try.ntmps86
    go_wp2_with (go_at_call 89; go_must (refine hr.mono ?_); rintro e w' ⟨rfl, rfl⟩)
    go_ret
    exact ⟨rfl, rfl⟩
  · go_enter Try.func86, Try.ntmps86
    go_wp2_with fail
    go_ret
    exact ⟨rfl, rfl⟩

theorem rhas_nil (k : Int) (w : World) :
    Calls Try.prog 86 #[.pointer none, .int .i64 k] w fun en w' => en = .returned (.bool false) ∧ w' = w := by
  go_enter Try.func86, Try.ntmps86
  go_wp2
  go_ret
  exact ⟨rfl, rfl⟩

theorem rleft_any (B p : Nat) (a : Option Addr) (c : Nat) (l : List UInt8) (err : Int) (w : World) (h : ROk w B p a c l err) :
    Calls Try.prog 85 #[.pointer (some ⟨p, 0, none⟩)] w fun en w' => en = .returned (.int .i64 l.length) ∧ w' = w := by
  obtain ⟨c0, c1, f0, f1⟩ := two_cells h.blk
  go_enter Try.func85, Try.ntmps85
  go_wp2
  go_ret
  exact ⟨rfl, rfl⟩

theorem rleft_nil (w : World) :
    Calls Try.prog 85 #[.pointer none] w fun en w' => en = .returned (.int .i64 0) ∧ w' = w := by
  go_enter Try.func85, Try.ntmps85
  go_wp2
  go_ret
  exact ⟨rfl, rfl⟩

theorem rerr_any (B p : Nat) (a : Option Addr) (c : Nat) (l : List UInt8) (err : Int) (w : World) (h : ROk w B p a c l err) :
    Calls Try.prog 84 #[.pointer (some ⟨p, 0, none⟩)] w fun en w' => en = .returned (.int .i64 err) ∧ w' = w := by
  obtain ⟨c0, c1, f0, f1⟩ := two_cells h.blk
  go_enter Try.func84, Try.ntmps84
  go_wp2
  go_ret
  exact ⟨rfl, rfl⟩

theorem rerr_nil (w : World) :
    Calls Try.prog 84 #[.pointer none] w fun en w' => en = .returned (.int .i64 1) ∧ w' = w := by
  go_enter Try.func84, Try.ntmps84
  go_wp2
  go_ret
  exact ⟨rfl, rfl⟩

theorem rend_any (B p : Nat) (a : Option Addr) (c : Nat) (l : List UInt8) (err : Int) (w : World) (h : ROk w B p a c l err) :
    Calls Try.prog 72 #[.pointer (some ⟨p, 0, none⟩)] w fun en w' => en = .returned (.int .i64 (endOf l err)) ∧ w' = w := by
  have h1 := rerr_any B p a c l err w h
  have h2 := rleft_any B p a c l err w h
  by_cases he : err = 0
  · subst he
    by_cases hl : l.length = 0
    · have hE : endOf l 0 = 0 := by simp [endOf, hl]
      have hl' : ((l.length : Int) == 0) = true := by simp [hl]
      rw [hE]
      rw [hl] at h2
      clear hl
      go_enter Try.func72, Try.ntmps72
      go_wp2_with (first | (go_at_call 84; go_must (refine h1.mono ?_); rintro e w' ⟨rfl, rfl⟩) | (go_at_call 85; go_must (refine h2.mono ?_); rintro e w' ⟨rfl, rfl⟩))
      go_ret
      exact ⟨rfl, rfl⟩
    · have hE : endOf l 0 = 5 := by simp [endOf]; intro h; simp [h] at hl
      rw [hE]
      have hl' : 0 < (l.length : Int) := by omega
      clear hl
      go_enter Try.func72, Try.ntmps72
      go_wp2_with (first | (go_at_call 84; go_must (refine h1.mono ?_); rintro e w' ⟨rfl, rfl⟩) | (go_at_call 85; go_must (refine h2.mono ?_); rintro e w' ⟨rfl, rfl⟩))
      go_ret
      exact ⟨rfl, rfl⟩
  · have hE : endOf l err = err := by simp [endOf, he]
    rw [hE]
    have hb : (err != 0) = true := by simp [he]
    clear he
    go_enter Try.func72, Try.ntmps72
    go_wp2_with (first | (go_at_call 84; go_must (refine h1.mono ?_); rintro e w' ⟨rfl, rfl⟩) | (go_at_call 85; go_must (refine h2.mono ?_); rintro e w' ⟨rfl, rfl⟩))
    go_ret
    exact ⟨rfl, rfl⟩

theorem rend_nil (w : World) :
    Calls Try.prog 72 #[.pointer none] w fun en w' => en = .returned (.int .i64 1) ∧ w' = w := by
  go_enter Try.func72, Try.ntmps72
  go_wp2_with (go_at_call 84; go_must (refine (rerr_nil _).mono ?_); rintro e w' ⟨rfl, rfl⟩)
  go_ret
  exact ⟨rfl, rfl⟩

theorem SlB.at {w : World} {g o : Nat} {l : List UInt8} (h : SlB w (some ⟨g, o, none⟩) l) (j : Nat) (hj : j < l.length) : w.cell? ⟨g, o + j, none⟩ = some (.int .u8 ((l[j]'hj).toNat : Nat)) := by
  have := h.cells _ rfl j (.int .u8 ((l[j]'hj).toNat : Nat)) (by simp [bcells, List.getElem?_eq_getElem hj])
  rw [← this]
  congr 1
  unfold Addr.add
  split <;> simp_all

/-- The first bytes as a number. -/
theorem rfirst_any (a : Option Addr) (c : Nat) (l : List UInt8) (k : Nat) (w : World) (h : SlB w a l) (hsp : ∀ x, a = some x → x.spot = none) (hm : l.length ≤ maxLen) (hk : k ≤ l.length) (hk8 : k ≤ 8) :
    Calls Try.prog 87 #[.agg #[.slice a l.length c], .int .i64 k] w fun en w' => en = .returned (.int .u64 (leV (l.take k) : Nat)) ∧ w' = w.alloc (.cells #[.slice a l.length c] 91) := by
  unfold maxLen at hm
  go_enter Try.func87, Try.ntmps87
  go_wp2
  go_loop [5, 8] (fun n i => ∃ j : Nat, j ≤ k ∧ i = .int .i64 j ∧ n = .int .u64 (leV (l.take j) : Nat)) (fun _ i => k - (intOf i).toNat)
  case atStart => exact ⟨0, Nat.zero_le _, rfl, by simp [leV]⟩
  case round =>
    obtain ⟨j, hj, rfl, rfl⟩ := hrel
    by_cases hlt : j < k
    · have hjl : j < l.length := by omega
      cases a with
      | none => have := h.nonil rfl; subst this; simp at hjl
      | some x =>
        obtain ⟨g, o, sp⟩ := x
        obtain rfl : sp = none := hsp _ rfl
        have hcell := h.at j hjl
        have hg := World.block_lt_of_cell? _ _ hcell
        have hl0 : (l.take j).length = j := by simp; omega
        have hor : Hid (bits .or .u64 ((leV (l.take j) : Nat) : Int) (IntKind.u64.wrap (IntKind.u64.wrap ((l[j].toNat : Nat) : Int) * 2 ^ (8 * j))) = ((leV (l.take (j + 1)) : Nat) : Int)) := by
          have := or_step (l.take j) l[j] (by omega)
          rw [hl0, show (8 * (j : Int)).toNat = 8 * j by omega] at this
          have hb := l[j].toNat_lt
          unfold Hid
          rw [List.take_succ_eq_append_getElem hjl, IntKind.wrap_u64 (l[j].toNat : Int), show ((l[j].toNat : Int)) % 18446744073709551616 = l[j].toNat by omega]
          exact this
        clear hl0 hsp
        go_wp2
        go_round
        case rel => exact ⟨j + 1, by omega, by go_num, by rw [hor.out]⟩
        case measure => simp [intOf]; omega
    · go_wp2
      go_ret
      obtain rfl : j = k := by omega
      exact ⟨rfl, rfl⟩

theorem ROk.spot {w : World} {B p : Nat} {a : Option Addr} {c : Nat} {l : List UInt8} {err : Int} (h : ROk w B p a c l err) : ∀ x, a = some x → x.spot = none := fun x hx => (h.row x hx).1

theorem ROk.slide {w : World} {B p g o : Nat} {c c' : Nat} {l : List UInt8} {err : Int} (h : ROk w B p (some ⟨g, o, none⟩) c l err) (q : Nat) (l' : List UInt8) (n : Nat) (hn : n = l'.length) (hsl : SlB w (some ⟨g, q, none⟩) l') (hl : l'.length ≤ c') (hc : c' ≤ maxLen) :
    ROk (w.setCell ⟨p, 0, none⟩ (.slice (some ⟨g, q, none⟩) n c')) B p (some ⟨g, q, none⟩) c' l' err := by
  obtain ⟨_, r2, r3, r4⟩ := h.row _ rfl
  subst hn
  exact ⟨h.base, two_set0 h.blk, hsl.setCell (fun x hx => by simp at hx; subst hx; exact Nat.ne_of_lt r2) _, fun x hx => by simp at hx; subst hx; exact ⟨rfl, r2, by simpa [World.setCell] using r3, r4⟩, hl, hc, fun h => by simp at h⟩

theorem SlB.shift' {w : World} {g o : Nat} {l : List UInt8} (h : SlB w (some ⟨g, o, none⟩) l) (k : Nat) : SlB w (some ⟨g, o + k, none⟩) (l.drop k) := by
  have := h.shift (k := k) rfl
  have e : (⟨g, o, none⟩ : Addr).add k = ⟨g, o + k, none⟩ := by unfold Addr.add; split <;> simp_all
  rwa [e] at this

theorem ROk.adv {w : World} {B p g o : Nat} {c : Nat} {l : List UInt8} {err : Int} (h : ROk w B p (some ⟨g, o, none⟩) c l err) (k : Nat) :
    ROk (w.setCell ⟨p, 0, none⟩ (.slice (some ⟨g, o + k, none⟩) (l.length - k) (c - k))) B p (some ⟨g, o + k, none⟩) (c - k) (l.drop k) err :=
  h.slide (o + k) (l.drop k) _ (by simp) (h.sl.shift' k) (by have := h.len; simp; omega) (by have := h.cap; omega)

theorem ROk.adv0 {w : World} {B p g o : Nat} {c : Nat} {l : List UInt8} {err : Int} (h : ROk w B p (some ⟨g, o, none⟩) c l err) (k : Nat) (hc : c = k) :
    ROk (w.setCell ⟨p, 0, none⟩ (.slice (some ⟨g, o, none⟩) (l.length - k) 0)) B p (some ⟨g, o, none⟩) 0 (l.drop k) err := by
  have hl := h.len
  have e : l.drop k = [] := List.drop_eq_nil_of_le (by omega)
  rw [e]
  exact h.slide o [] _ (by simp; omega) SlB.empty (by simp) (by simp)

set_option maxHeartbeats 400000 in
theorem rnumber_yes (B p : Nat) (a : Option Addr) (c : Nat) (l : List UInt8) (k : Nat) (w : World) (hR : ROk w B p a c l 0) (hk8 : k ≤ 8) (hk : k ≤ l.length) (hk0 : 0 < k) :
    Calls Try.prog 75 #[.pointer (some ⟨p, 0, none⟩), .int .i64 k] w fun en w' => en = .returned (.int .u64 (leV (l.take k) : Nat)) ∧ (∃ a' c', ROk w' B p a' c' (l.drop k) 0) ∧ w.grownBy w' (some p) := by
  have hm : l.length ≤ maxLen := Nat.le_trans hR.len hR.cap
  have h1 := rhas_yes B p a c l k w hR (by omega)
  have h2 := rfirst_any a c l k w hR.sl hR.spot hm hk hk8
  have hlen := hR.len
  have hcap := hR.cap
  unfold maxLen at hm hcap
  obtain ⟨c0, c1, f0, f1⟩ := two_cells hR.blk
  have hpl := lt_of_block hR.blk
  cases a with
  | none => have := hR.sl.nonil rfl; subst this; simp at hk; omega
  | some x =>
    obtain ⟨g, o, sp⟩ := x
    obtain rfl : sp = none := hR.spot _ rfl
    go_enter Try.func75, Try.ntmps75
    go_wp2_with (first | (go_at_call 86; go_must (refine h1.mono ?_); rintro e w' ⟨rfl, rfl⟩) | (go_at_call 87; go_must (refine h2.mono ?_); rintro e w' ⟨rfl, rfl⟩))
    all_goals go_ret
    · have hck : c = k := by assumption
      have R := hR.adv0 k hck
      exact ⟨rfl, ⟨_, _, R.below ((Below.refl _ _).alloc (Nat.le_refl _) _) (Nat.le_refl _)⟩, galloc (gset _ _ _ _) _⟩
    · have R := hR.adv k
      exact ⟨rfl, ⟨_, _, R.below ((Below.refl _ _).alloc (Nat.le_refl _) _) (Nat.le_refl _)⟩, galloc (gset _ _ _ _) _⟩

theorem rnumber_no (B p : Nat) (a : Option Addr) (c : Nat) (l : List UInt8) (k : Nat) (err : Int) (w : World) (hR : ROk w B p a c l err) (hno : err ≠ 0 ∨ l.length < k) :
    Calls Try.prog 75 #[.pointer (some ⟨p, 0, none⟩), .int .i64 k] w fun en w' => en = .returned (.int .u64 0) ∧ ROk w' B p a c l (if err = 0 then 4 else err) ∧ w.grownBy w' (some p) := by
  by_cases he : err = 0
  · subst he
    rw [if_pos rfl]
    have h1 := rhas_short B p a c l k w hR (by omega)
    go_enter Try.func75, Try.ntmps75
    go_wp2_with (go_at_call 86; go_must (refine h1.mono ?_); rintro e w' ⟨rfl, rfl⟩)
    go_ret
    exact ⟨rfl, hR.fail 4, gset _ _ _ _⟩
  · have h1 := rhas_err B p a c l err k w hR he
    rw [if_neg he]
    clear he hno
    go_enter Try.func75, Try.ntmps75
    go_wp2_with (go_at_call 86; go_must (refine h1.mono ?_); rintro e w' ⟨rfl, rfl⟩)
    go_ret
    exact ⟨rfl, hR, grefl _ _⟩

theorem rnumber_any (B p : Nat) (a : Option Addr) (c : Nat) (l : List UInt8) (k : Nat) (err : Int) (w : World) (h : ROk w B p a c l err) (hk8 : k ≤ 8) (hk0 : 0 < k) :
    Calls Try.prog 75 #[.pointer (some ⟨p, 0, none⟩), .int .i64 k] w fun en w' => en = .returned (.int .u64 ((takeN k l err).2.2 : Nat)) ∧ (∃ a' c', ROk w' B p a' c' (takeN k l err).1 (takeN k l err).2.1) ∧ w.grownBy w' (some p) := by
  by_cases hno : err ≠ 0 ∨ l.length < k
  · refine (rnumber_no B p a c l k err w h hno).mono ?_
    rintro e w' ⟨rfl, h1, h2⟩
    have : takeN k l err = (l, if err = 0 then 4 else err, 0) := by
      unfold takeN
      by_cases he : err = 0
      · simp [he]; omega
      · simp [he]
    rw [this]
    exact ⟨rfl, ⟨a, c, h1⟩, h2⟩
  · obtain rfl : err = 0 := by omega
    refine (rnumber_yes B p a c l k w h hk8 (by omega) hk0).mono ?_
    rintro e w' ⟨rfl, h1, h2⟩
    have : takeN k l 0 = (l.drop k, 0, leV (l.take k)) := by
      unfold takeN
      simp
      omega
    rw [this]
    exact ⟨rfl, h1, h2⟩

theorem rnumber_nil (k : Int) (w : World) :
    Calls Try.prog 75 #[.pointer none, .int .i64 k] w fun en w' => en = .returned (.int .u64 0) ∧ w' = w := by
  go_enter Try.func75, Try.ntmps75
  go_wp2_with (go_at_call 86; go_must (refine (rhas_nil _ _).mono ?_); rintro e w' ⟨rfl, rfl⟩)
  go_ret
  exact ⟨rfl, rfl⟩

theorem takeN_lt (k : Nat) (l : List UInt8) (err : Int) : (takeN k l err).2.2 < 256 ^ k := by
  have h0 : 0 < 256 ^ k := Nat.pow_pos (by decide)
  unfold takeN
  split
  · exact h0
  · split
    · exact h0
    · have := leV_lt (l.take k)
      have e : (l.take k).length = k := by simp; omega
      rwa [e] at this

theorem rbyte_any (B p : Nat) (a : Option Addr) (c : Nat) (l : List UInt8) (err : Int) (w : World) (h : ROk w B p a c l err) :
    Calls Try.prog 67 #[.pointer (some ⟨p, 0, none⟩)] w fun en w' => en = .returned (.int .u8 ((takeN 1 l err).2.2 : Nat)) ∧ (∃ a' c', ROk w' B p a' c' (takeN 1 l err).1 (takeN 1 l err).2.1) ∧ w.grownBy w' (some p) := by
  have h1 := rnumber_any B p a c l 1 err w h (by decide) (by decide)
  have h2 := takeN_lt 1 l err
  generalize takeN 1 l err = R at *
  obtain ⟨R1, R2, R3⟩ := R
  simp only at h1 h2 ⊢
  have h3 : (R3 : Int) < 256 := by omega
  go_enter Try.func67, Try.ntmps67
  go_wp2_with (go_at_call 75; go_must (refine h1.mono ?_); rintro e w' ⟨rfl, hq⟩)
  go_ret
  exact ⟨rfl, hq⟩

theorem rbyte_nil (w : World) :
    Calls Try.prog 67 #[.pointer none] w fun en w' => en = .returned (.int .u8 0) ∧ w' = w := by
  go_enter Try.func67, Try.ntmps67
  go_wp2_with (go_at_call 75; go_must (refine (rnumber_nil _ _).mono ?_); rintro e w' ⟨rfl, rfl⟩)
  go_ret
  exact ⟨rfl, rfl⟩

theorem rtwo_any (B p : Nat) (a : Option Addr) (c : Nat) (l : List UInt8) (err : Int) (w : World) (h : ROk w B p a c l err) :
    Calls Try.prog 51 #[.pointer (some ⟨p, 0, none⟩)] w fun en w' => en = .returned (.int .u16 ((takeN 2 l err).2.2 : Nat)) ∧ (∃ a' c', ROk w' B p a' c' (takeN 2 l err).1 (takeN 2 l err).2.1) ∧ w.grownBy w' (some p) := by
  have h1 := rnumber_any B p a c l 2 err w h (by decide) (by decide)
  have h2 := takeN_lt 2 l err
  generalize takeN 2 l err = R at *
  obtain ⟨R1, R2, R3⟩ := R
  simp only at h1 h2 ⊢
  have h3 : (R3 : Int) < 65536 := by omega
  go_enter Try.func51, Try.ntmps51
  go_wp2_with (go_at_call 75; go_must (refine h1.mono ?_); rintro e w' ⟨rfl, hq⟩)
  go_ret
  exact ⟨rfl, hq⟩

theorem rtwo_nil (w : World) :
    Calls Try.prog 51 #[.pointer none] w fun en w' => en = .returned (.int .u16 0) ∧ w' = w := by
  go_enter Try.func51, Try.ntmps51
  go_wp2_with (go_at_call 75; go_must (refine (rnumber_nil _ _).mono ?_); rintro e w' ⟨rfl, rfl⟩)
  go_ret
  exact ⟨rfl, rfl⟩

theorem rfour_any (B p : Nat) (a : Option Addr) (c : Nat) (l : List UInt8) (err : Int) (w : World) (h : ROk w B p a c l err) :
    Calls Try.prog 69 #[.pointer (some ⟨p, 0, none⟩)] w fun en w' => en = .returned (.int .u32 ((takeN 4 l err).2.2 : Nat)) ∧ (∃ a' c', ROk w' B p a' c' (takeN 4 l err).1 (takeN 4 l err).2.1) ∧ w.grownBy w' (some p) := by
  have h1 := rnumber_any B p a c l 4 err w h (by decide) (by decide)
  have h2 := takeN_lt 4 l err
  generalize takeN 4 l err = R at *
  obtain ⟨R1, R2, R3⟩ := R
  simp only at h1 h2 ⊢
  have h3 : (R3 : Int) < 4294967296 := by omega
  go_enter Try.func69, Try.ntmps69
  go_wp2_with (go_at_call 75; go_must (refine h1.mono ?_); rintro e w' ⟨rfl, hq⟩)
  go_ret
  exact ⟨rfl, hq⟩

theorem rfour_nil (w : World) :
    Calls Try.prog 69 #[.pointer none] w fun en w' => en = .returned (.int .u32 0) ∧ w' = w := by
  go_enter Try.func69, Try.ntmps69
  go_wp2_with (go_at_call 75; go_must (refine (rnumber_nil _ _).mono ?_); rintro e w' ⟨rfl, rfl⟩)
  go_ret
  exact ⟨rfl, rfl⟩

theorem reight_any (B p : Nat) (a : Option Addr) (c : Nat) (l : List UInt8) (err : Int) (w : World) (h : ROk w B p a c l err) :
    Calls Try.prog 68 #[.pointer (some ⟨p, 0, none⟩)] w fun en w' => en = .returned (.int .u64 ((takeN 8 l err).2.2 : Nat)) ∧ (∃ a' c', ROk w' B p a' c' (takeN 8 l err).1 (takeN 8 l err).2.1) ∧ w.grownBy w' (some p) := by
  have h1 := rnumber_any B p a c l 8 err w h (by decide) (by decide)
  have h2 := takeN_lt 8 l err
  generalize takeN 8 l err = R at *
  obtain ⟨R1, R2, R3⟩ := R
  simp only at h1 h2 ⊢
  have h3 : (R3 : Int) < 18446744073709551616 := by omega
  go_enter Try.func68, Try.ntmps68
  go_wp2_with (go_at_call 75; go_must (refine h1.mono ?_); rintro e w' ⟨rfl, hq⟩)
  go_ret
  exact ⟨rfl, hq⟩

theorem reight_nil (w : World) :
    Calls Try.prog 68 #[.pointer none] w fun en w' => en = .returned (.int .u64 0) ∧ w' = w := by
  go_enter Try.func68, Try.ntmps68
  go_wp2_with (go_at_call 75; go_must (refine (rnumber_nil _ _).mono ?_); rintro e w' ⟨rfl, rfl⟩)
  go_ret
  exact ⟨rfl, rfl⟩

end Go.Proofs.Ytjhjicokbdloiaa
