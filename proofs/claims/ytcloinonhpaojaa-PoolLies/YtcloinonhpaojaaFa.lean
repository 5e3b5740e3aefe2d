/-
  Of no program: frames, rings, which may be, and where the hand goes: the plain mathematics of a clock.
-/
import Derived.WalkKit
import Derived.Test.YtcloinonhpaojaaRows
import Derived.WalkSpells
import Derived.WalkLawsBesides
import Derived.Below
import Derived.Lib.Walk
import Derived.Lib.Hide
import Derived.Laws.MakeOwn
import Derived.Laws.ResultCell
namespace Go.Proofs.Ytcloinonhpaojaa.Ck

/-- A frame: its page (-1: none), whether it was used, its pins. -/
structure Fr where
  page : Int
  used : Bool
  pins : Int
deriving DecidableEq
instance : Inhabited Fr := ⟨⟨0, false, 0⟩⟩

/-- A ring: its frames and its hand. -/
structure Rg where
  fr : List Fr
  hand : Int
deriving DecidableEq
def Rg.zero : Rg := ⟨[], 0⟩

def knownB (p : Int) : Bool := decide (0 ≤ p) && decide (p < 16)
def mayF (f : Fr) : Bool := if f.page = -1 then (!f.used && decide (f.pins = 0)) else (knownB f.page && decide (0 ≤ f.pins) && decide (f.pins ≤ 1048576))

/-- The first n frames of a row may be, and no page but -1 is there twice. -/
structure Up (l : List Fr) (n : Nat) : Prop where
  may : ∀ j (hj : j < l.length), j < n → mayF l[j] = true
  apart : ∀ i j (hi : i < l.length) (hj : j < l.length), i < j → j < n → l[j].page ≠ -1 → l[i].page ≠ l[j].page

theorem Up.zero (l : List Fr) : Up l 0 := ⟨fun _ _ h => absurd h (by omega), fun _ _ _ _ _ h => absurd h (by omega)⟩
theorem Up.succ {l : List Fr} {n : Nat} (h : Up l n) (hn : n < l.length) (hm : mayF l[n] = true) (ha : l[n].page = -1 ∨ ∀ i (hi : i < l.length), i < n → l[i].page ≠ l[n].page) : Up l (n + 1) := by
  refine ⟨fun j hj hjn => ?_, fun i j hi hj hij hjn hp => ?_⟩
  · by_cases e : j = n
    · subst e; exact hm
    · exact h.may j hj (by omega)
  · by_cases e : j = n
    · subst e
      rcases ha with ha | ha
      · exact absurd ha hp
      · exact ha i hi hij
    · exact h.apart i j hi hj hij (by omega) hp
theorem Up.le {l : List Fr} {n m : Nat} (h : Up l n) (hm : m ≤ n) : Up l m := ⟨fun j hj hjn => h.may j hj (by omega), fun i j hi hj hij hjn => h.apart i j hi hj hij (by omega)⟩

/-- A ring that may be. -/
structure MayR (r : Rg) : Prop where
  one : 1 ≤ r.fr.length
  most : r.fr.length ≤ 16
  h0 : 0 ≤ r.hand
  h1 : r.hand < r.fr.length
  up : Up r.fr r.fr.length
open Classical in
noncomputable def mayB (r : Rg) : Bool := decide (MayR r)
theorem mayB_true {r : Rg} : mayB r = true ↔ MayR r := by simp [mayB]
theorem mayB_false {r : Rg} : mayB r = false ↔ ¬ MayR r := by simp [mayB]

theorem mayF_none {f : Fr} (h : mayF f = true) (hp : f.page = -1) : f.used = false ∧ f.pins = 0 := by
  simp [mayF, hp] at h
  exact h
theorem mayF_some {f : Fr} (h : mayF f = true) (hp : f.page ≠ -1) : 0 ≤ f.page ∧ f.page < 16 ∧ 0 ≤ f.pins ∧ f.pins ≤ 1048576 := by
  simp [mayF, hp, knownB] at h
  omega
theorem mayF_pins {f : Fr} (h : mayF f = true) : 0 ≤ f.pins ∧ f.pins ≤ 1048576 := by
  by_cases hp : f.page = -1
  · have := mayF_none h hp; omega
  · have := mayF_some h hp; omega
theorem mayF_page {f : Fr} (h : mayF f = true) : -1 ≤ f.page ∧ f.page < 16 := by
  by_cases hp : f.page = -1
  · omega
  · have := mayF_some h hp; omega

def ixI : Option Nat → Int
  | none => -1
  | some k => (k : Int)
def hasP (p : Int) (f : Fr) : Bool := decide (f.page = p)
/-- The first frame with a page. -/
def firI (l : List Fr) (p : Int) : Int := ixI (l.findIdx? (hasP p))
theorem firI_some {l : List Fr} {p : Int} {k : Nat} (hk : k < l.length) (hp : l[k].page = p) (hup : ∀ j (hj : j < l.length), j < k → l[j].page ≠ p) : firI l p = (k : Int) := by
  have : l.findIdx? (hasP p) = some k := by
    rw [List.findIdx?_eq_some_iff_getElem]
    exact ⟨hk, by simp [hasP, hp], fun j hj => by simpa [hasP] using hup j (by omega) hj⟩
  simp [firI, this, ixI]
theorem firI_none {l : List Fr} {p : Int} (hup : ∀ j (hj : j < l.length), l[j].page ≠ p) : firI l p = -1 := by
  have : l.findIdx? (hasP p) = none := by
    rw [List.findIdx?_eq_none_iff]
    intro x hx
    obtain ⟨j, hj, rfl⟩ := List.getElem_of_mem hx
    simpa [hasP] using hup j hj
  simp [firI, this, ixI]
theorem firI_cases (l : List Fr) (p : Int) : (firI l p = -1 ∧ ∀ j (hj : j < l.length), l[j].page ≠ p) ∨ ∃ k, ∃ hk : k < l.length, firI l p = (k : Int) ∧ l[k].page = p ∧ ∀ j (hj : j < l.length), j < k → l[j].page ≠ p := by
  cases h : l.findIdx? (hasP p) with
  | none =>
    left
    refine ⟨by simp [firI, h, ixI], fun j hj => ?_⟩
    rw [List.findIdx?_eq_none_iff] at h
    have := h l[j] (List.getElem_mem hj)
    simpa [hasP] using this
  | some k =>
    right
    rw [List.findIdx?_eq_some_iff_getElem] at h
    obtain ⟨hk, h1, h2⟩ := h
    refine ⟨k, hk, ?_, by simpa [hasP] using h1, fun j hj hjk => by simpa [hasP] using h2 j hjk⟩
    exact firI_some hk (by simpa [hasP] using h1) (fun j hj hjk => by simpa [hasP] using h2 j hjk)

/-- A ring, in which one frame is another. -/
def withR (r : Rg) (k : Nat) (f : Fr) : Rg := ⟨r.fr.set k f, r.hand⟩

/-- Where a page is. -/
noncomputable def atR (r : Rg) (p : Int) : Int := if mayB r = true ∧ knownB p = true then firI r.fr p else -1

noncomputable def putR (r : Rg) (p : Int) : Rg × Int :=
  if mayB r = true ∧ knownB p = true then
    if firI r.fr p ≠ -1 then (.zero, 9)
    else if firI r.fr (-1) = -1 then (.zero, 15) else (withR r (firI r.fr (-1)).toNat ⟨p, true, 0⟩, 0)
  else (.zero, 1)
noncomputable def placeR (r : Rg) (p : Int) : Int × Int := if mayB r = true then (if atR r p = -1 then (0, 8) else (atR r p, 0)) else (0, 1)
noncomputable def dropR (r : Rg) (p : Int) : Rg × Int :=
  if (placeR r p).2 ≠ 0 then (.zero, (placeR r p).2)
  else if 0 < (r.fr.getD (placeR r p).1.toNat default).pins then (.zero, 10) else (withR r (placeR r p).1.toNat ⟨-1, false, 0⟩, 0)
noncomputable def pinR (r : Rg) (p n : Int) (t : Bool) : Rg × Int :=
  if (placeR r p).2 ≠ 0 then (.zero, (placeR r p).2)
  else
    let f := r.fr.getD (placeR r p).1.toNat default
    if n < -f.pins ∨ 1048576 - f.pins < n then (.zero, 10) else (withR r (placeR r p).1.toNat ⟨f.page, f.used || t, f.pins + n⟩, 0)

/-- The hand goes on, so many looks at most: which frame is told, the frames and the hand then. -/
def lookN (n : Nat) : Nat → List Fr → Nat → Option (Nat × List Fr × Nat)
  | 0, _, _ => none
  | k + 1, l, h =>
    if 0 < (l.getD h default).pins then lookN n k l ((h + 1) % n)
    else if (l.getD h default).used = true then lookN n k (l.set h { l.getD h default with used := false }) ((h + 1) % n)
    else some (h, l, (h + 1) % n)

noncomputable def nextR (r : Rg) : Int × Rg × Int :=
  if mayB r = true then
    match lookN r.fr.length (2 * r.fr.length) r.fr r.hand.toNat with
    | none => (0, .zero, 15)
    | some (i, l, h) => ((i : Int), ⟨l, (h : Int)⟩, 0)
  else (0, .zero, 1)

theorem getD_at {l : List Fr} {h : Nat} (hh : h < l.length) : l.getD h default = l[h] := by
  rw [List.getD_eq_getElem?_getD, List.getElem?_eq_getElem hh, Option.getD_some]
theorem lookN_zero (n : Nat) (l : List Fr) (h : Nat) : lookN n 0 l h = none := rfl
theorem lookN_pin {n k : Nat} {l : List Fr} {h : Nat} (hh : h < l.length) (hp : 0 < l[h].pins) : lookN n (k + 1) l h = lookN n k l ((h + 1) % n) := by
  simp only [lookN, getD_at hh, if_pos hp]
theorem lookN_used {n k : Nat} {l : List Fr} {h : Nat} (hh : h < l.length) (hp : ¬ 0 < l[h].pins) (hu : l[h].used = true) : lookN n (k + 1) l h = lookN n k (l.set h ⟨l[h].page, false, l[h].pins⟩) ((h + 1) % n) := by
  simp only [lookN, getD_at hh, if_neg hp, if_pos hu]
theorem lookN_told {n k : Nat} {l : List Fr} {h : Nat} (hh : h < l.length) (hp : ¬ 0 < l[h].pins) (hu : l[h].used = false) : lookN n (k + 1) l h = some (h, l, (h + 1) % n) := by
  simp only [lookN, getD_at hh, if_neg hp, hu, Bool.false_eq_true, if_false]

theorem mod_next {h n : Nat} (hh : h < n) : (h + 1) % n = if h + 1 = n then 0 else h + 1 := by
  split
  · rename_i e; rw [e]; exact Nat.mod_self n
  · exact Nat.mod_eq_of_lt (by omega)

/-- How far a place lies ahead of the hand. -/
def dst (n h j : Nat) : Nat := if h ≤ j then j - h else j + n - h

theorem look_free {n : Nat} : ∀ (k : Nat) (l : List Fr) (h j : Nat) (_ : l.length = n) (_ : h < n) (hj : j < l.length), ¬ 0 < l[j].pins → l[j].used = false → dst n h j < k → ∃ x, lookN n k l h = some x
  | 0, _, _, _, _, _, _, _, _, hk => absurd hk (by omega)
  | k + 1, l, h, j, hl, hh, hj, hp, hu, hk => by
    have hh' : h < l.length := by omega
    have hm := mod_next hh
    by_cases e : h = j
    · subst e
      exact ⟨_, lookN_told hh' hp hu⟩
    · have hd : dst n ((h + 1) % n) j < k := by
        rw [hm]
        unfold dst at hk ⊢
        split <;> split at hk <;> split <;> omega
      have hb : (h + 1) % n < n := Nat.mod_lt _ (by omega)
      by_cases hp' : 0 < l[h].pins
      · rw [lookN_pin hh' hp']
        exact look_free k l _ j hl hb hj hp hu hd
      · cases hu' : l[h].used
        · exact ⟨_, lookN_told hh' hp' hu'⟩
        · rw [lookN_used hh' hp' hu']
          have eq : (l.set h ⟨l[h].page, false, l[h].pins⟩)[j]'(by simpa using hj) = l[j] := by rw [List.getElem_set_ne e]
          exact look_free k _ _ j (by simpa using hl) hb (by simpa using hj) (by rw [eq]; exact hp) (by rw [eq]; exact hu) hd

theorem look_some {n : Nat} : ∀ (k : Nat) (l : List Fr) (h j : Nat) (_ : l.length = n) (_ : h < n) (hj : j < l.length), ¬ 0 < l[j].pins → dst n h j + n < k → ∃ x, lookN n k l h = some x
  | 0, _, _, _, _, _, _, _, hk => absurd hk (by omega)
  | k + 1, l, h, j, hl, hh, hj, hp, hk => by
    have hh' : h < l.length := by omega
    have hm := mod_next hh
    have hb : (h + 1) % n < n := Nat.mod_lt _ (by omega)
    by_cases e : h = j
    · subst e
      cases hu : l[h].used
      · exact ⟨_, lookN_told hh' hp hu⟩
      · rw [lookN_used hh' hp hu]
        have eq : (l.set h ⟨l[h].page, false, l[h].pins⟩)[h]'(by simpa using hj) = ⟨l[h].page, false, l[h].pins⟩ := by rw [List.getElem_set_self]
        refine look_free k _ _ h (by simpa using hl) hb (by simpa using hj) (by rw [eq]; exact hp) (by rw [eq]) ?_
        rw [hm]
        unfold dst at hk ⊢
        split <;> split <;> split at hk <;> omega
    · have hd : dst n ((h + 1) % n) j + n < k := by
        rw [hm]
        unfold dst at hk ⊢
        split <;> split at hk <;> split <;> omega
      by_cases hp' : 0 < l[h].pins
      · rw [lookN_pin hh' hp']
        exact look_some k l _ j hl hb hj hp hd
      · cases hu' : l[h].used
        · exact ⟨_, lookN_told hh' hp' hu'⟩
        · rw [lookN_used hh' hp' hu']
          have eq : (l.set h ⟨l[h].page, false, l[h].pins⟩)[j]'(by simpa using hj) = l[j] := by rw [List.getElem_set_ne e]
          exact look_some k _ _ j (by simpa using hl) hb (by simpa using hj) (by rw [eq]; exact hp) hd

theorem look_all {n : Nat} : ∀ (k : Nat) (l : List Fr) (h : Nat) (_ : l.length = n) (_ : h < n), (∀ j (hj : j < l.length), 0 < l[j].pins) → lookN n k l h = none
  | 0, _, _, _, _, _ => rfl
  | k + 1, l, h, hl, hh, hp => by
    rw [lookN_pin (by omega) (hp h (by omega))]
    exact look_all k l _ hl (Nat.mod_lt _ (by omega)) hp

/-- What was told, and what it left. -/
structure Told (n : Nat) (l : List Fr) (i : Nat) (l' : List Fr) (h' : Nat) : Prop where
  lt : i < n
  hand : h' = (i + 1) % n
  len : l'.length = l.length
  loose : (l.getD i default).pins ≤ 0
  unused : (l'.getD i default).used = false
  page : ∀ j, j < n → (l'.getD j default).page = (l.getD j default).page
  pins : ∀ j, j < n → (l'.getD j default).pins = (l.getD j default).pins
  used : ∀ j, j < n → (l'.getD j default).used = true → (l.getD j default).used = true

theorem look_told {n : Nat} : ∀ (k : Nat) (l : List Fr) (h : Nat) (_ : l.length = n) (_ : h < n) (i : Nat) (l' : List Fr) (h' : Nat), lookN n k l h = some (i, l', h') → Told n l i l' h'
  | 0, _, _, _, _, _, _, _, e => by simp [lookN] at e
  | k + 1, l, h, hl, hh, i, l', h', e => by
    have hh' : h < l.length := by omega
    have hb : (h + 1) % n < n := Nat.mod_lt _ (by omega)
    by_cases hp : 0 < l[h].pins
    · rw [lookN_pin hh' hp] at e
      exact look_told k l _ hl hb i l' h' e
    · cases hu : l[h].used
      · rw [lookN_told hh' hp hu] at e
        simp only [Option.some.injEq, Prod.mk.injEq] at e
        obtain ⟨rfl, rfl, rfl⟩ := e
        have g : l.getD h default = l[h] := getD_at hh'
        exact ⟨hh, rfl, rfl, by rw [g]; omega, by rw [g]; exact hu, fun _ _ => rfl, fun _ _ => rfl, fun _ _ h => h⟩
      · rw [lookN_used hh' hp hu] at e
        have T := look_told k _ _ (by simpa using hl) hb i l' h' e
        have g : ∀ j, j < n → (l.set h ⟨l[h].page, false, l[h].pins⟩).getD j default = if h = j then ⟨l[h].page, false, l[h].pins⟩ else l.getD j default := fun j hj => by
          rw [getD_at (by simp; omega), List.getElem_set]
          split
          · rfl
          · rw [getD_at (by omega)]
        have gh : l.getD h default = l[h] := getD_at hh'
        refine ⟨T.lt, T.hand, by simpa using T.len, ?_, T.unused, fun j hj => ?_, fun j hj => ?_, fun j hj hx => ?_⟩
        · have := T.loose
          rw [g i T.lt] at this
          split at this
          · rename_i e'; subst e'; rw [gh]; exact this
          · exact this
        · rw [T.page j hj, g j hj]
          split
          · rename_i e'; subst e'; rw [gh]
          · rfl
        · rw [T.pins j hj, g j hj]
          split
          · rename_i e'; subst e'; rw [gh]
          · rfl
        · have := T.used j hj hx
          rw [g j hj] at this
          split at this
          · simp at this
          · exact this
end Go.Proofs.Ytcloinonhpaojaa.Ck

/-
  Frames in memory; which may be; the first frame with a page; whether a ring may be.
-/
namespace Go.Proofs.Ytcloinonhpaojaa.Ck
open Go.RowKit

theorem toHid {p : Prop} (h : p) : Hid p := h
theorem below_on {w W W' : World} (h : Below w.heap.size w W) (h' : Below W.heap.size W W') : Below w.heap.size w W' := h.trans (h'.mono h.size)

/-- A frame's cells, a ring's value. -/
def frV (f : Fr) : Array Value := #[.int .i64 f.page, .bool f.used, .int .i64 f.pins]
abbrev rgC (a : Option Addr) (c : Nat) (r : Rg) : Array Value := #[.slice a r.fr.length c, .int .i64 r.hand]
abbrev rgV (a : Option Addr) (c : Nat) (r : Rg) : Value := .agg (rgC a c r)

/-- A slice of frames. -/
structure SlF (w : World) (a : Option Addr) (l : List Fr) : Prop where
  nonil : a = none → l = []
  cells : ∀ x, a = some x → ∀ i t, l[i]? = some t → x.spot = none ∧ w.cell? ⟨x.block, x.off + i * 3, none⟩ = some (.int .i64 t.page) ∧ w.cell? ⟨x.block, x.off + i * 3 + 1, none⟩ = some (.bool t.used) ∧ w.cell? ⟨x.block, x.off + i * 3 + 2, none⟩ = some (.int .i64 t.pins)

theorem SlF.below {w w' : World} {a : Option Addr} {l : List Fr} (h : SlF w a l) (hb : Below w.heap.size w w') : SlF w' a l :=
  ⟨h.nonil, fun x hx i t ht => by
    obtain ⟨h0, h1, h2, h3⟩ := h.cells x hx i t ht
    have hlt := World.block_lt_of_cell? _ _ h1
    exact ⟨h0, by rw [hb.cell (by exact hlt)]; exact h1, by rw [hb.cell (by exact hlt)]; exact h2, by rw [hb.cell (by exact hlt)]; exact h3⟩⟩
theorem SlF.nil (w : World) : SlF w none [] := ⟨fun _ => rfl, fun _ h => by simp at h⟩

theorem SlF.at {w : World} {a : Option Addr} {l : List Fr} (h : SlF w a l) (i : Nat) (hi : i < l.length) : ∃ b o, a = some ⟨b, o, none⟩ ∧ b < w.heap.size ∧
    w.cell? ⟨b, o + i * 3, none⟩ = some (.int .i64 l[i].page) ∧ w.cell? ⟨b, o + i * 3 + 1, none⟩ = some (.bool l[i].used) ∧ w.cell? ⟨b, o + i * 3 + 2, none⟩ = some (.int .i64 l[i].pins) := by
  cases a with
  | none => have := h.nonil rfl; subst this; simp at hi
  | some x =>
    obtain ⟨b, o, sp⟩ := x
    obtain ⟨h0, h1, h2, h3⟩ := h.cells _ rfl i _ (List.getElem?_eq_getElem hi)
    simp only at h0 h1 h2 h3
    subst h0
    exact ⟨b, o, rfl, World.block_lt_of_cell? _ _ h1, h1, h2, h3⟩

theorem known_any (p : Int) (w : World) : Calls Try.prog 59 #[.int .i64 p] w fun e w' => e = .returned (.bool (knownB p)) ∧ w' = w := by
  by_cases h : 0 ≤ p
  · go_enter Try.func59, Try.ntmps59
    go_wp2
    go_ret
    simp [h, knownB]
  · go_enter Try.func59, Try.ntmps59
    go_wp2
    go_ret
    simp [knownB]
    omega

theorem may_any (f : Fr) (w : World) : Calls Try.prog 84 #[.agg (frV f)] w fun e w' => e = .returned (.bool (mayF f)) ∧ Below w.heap.size w w' := by
  obtain ⟨pg, u, pn⟩ := f
  have hB := (Below.refl w.heap.size w).alloc (Nat.le_refl _) (.cells (frV ⟨pg, u, pn⟩) 123)
  simp only [frV] at hB ⊢
  by_cases hp : pg = -1
  · subst hp
    cases u
    · go_enter Try.func84, Try.ntmps84
      go_wp2
      go_ret
      exact ⟨by simp [mayF]; rfl, hB⟩
    · go_enter Try.func84, Try.ntmps84
      go_wp2
      go_ret
      exact ⟨by simp [mayF], hB⟩
  · cases hk : knownB pg
    · go_enter Try.func84, Try.ntmps84
      go_wp2_with fail
      refine (known_any pg _).mono ?_
      rintro e w' ⟨rfl, hw⟩
      obtain rfl := hw.symm
      rw [hk]
      go_wp2
      go_ret
      exact ⟨by simp [mayF, hp, hk], hB⟩
    · by_cases h0 : 0 ≤ pn
      · go_enter Try.func84, Try.ntmps84
        go_wp2_with fail
        refine (known_any pg _).mono ?_
        rintro e w' ⟨rfl, hw⟩
        obtain rfl := hw.symm
        rw [hk]
        go_wp2
        go_ret
        exact ⟨by simp [mayF, hp, hk, h0], hB⟩
      · go_enter Try.func84, Try.ntmps84
        go_wp2_with fail
        refine (known_any pg _).mono ?_
        rintro e w' ⟨rfl, hw⟩
        obtain rfl := hw.symm
        rw [hk]
        go_wp2
        go_ret
        exact ⟨by simp [mayF, hp, hk]; omega, hB⟩

set_option maxHeartbeats 1000000 in
theorem first_any (a : Option Addr) (c : Nat) (l : List Fr) (p : Int) (w : World) (h : SlF w a l) (hl : l.length ≤ 1000000) :
    Calls Try.prog 60 #[.slice a l.length c, .int .i64 p] w fun e w' => e = .returned (.int .i64 (firI l p)) ∧ Below w.heap.size w w' := by
  go_enter Try.func60, Try.ntmps60
  go_wp2_with fail
  go_loopw [9] (fun i wr => ∃ k : Nat, k ≤ l.length ∧ i = .int .i64 k ∧ (∀ j (hj : j < l.length), j < k → l[j].page ≠ p) ∧ Below w.heap.size w wr) (fun i _ => l.length - (intOf i).toNat)
  case atStart => exact ⟨0, Nat.zero_le _, rfl, fun j _ hj => absurd hj (by omega), Below.refl _ _⟩
  case round =>
    obtain ⟨k, hk, rfl, hup, hB⟩ := hrel
    have HU := toHid hup
    clear hup
    have hsl := h.below hB
    by_cases hlt : k < l.length
    · obtain ⟨b, o, rfl, hbl, c0, c1, c2⟩ := hsl.at k hlt
      have hB' := hB.alloc hB.size (.cells #[.int .i64 l[k].page, .bool l[k].used, .int .i64 l[k].pins] 123)
      have HB := toHid hB'
      clear hB hB'
      by_cases hp : l[k].page = p
      · have HP := toHid hp
        rw [hp] at c0 HB
        clear hp
        go_wp2
        go_ret
        exact ⟨by rw [firI_some hlt HP.out HU.out]; rfl, HB.out⟩
      · go_wp2_with fail
        go_roundw
        case rel =>
          refine ⟨k + 1, by omega, by simp, fun j hj hjk => ?_, HB.out⟩
          by_cases e : j = k
          · subst e; exact hp
          · exact HU.out j hj (by omega)
        case measure => first | omega | (simp only [intOf]; omega)
    · obtain rfl : k = l.length := by omega
      go_wp2
      go_ret
      exact ⟨by rw [firI_none fun j hj => HU.out j hj hj]; rfl, hB⟩
end Go.Proofs.Ytcloinonhpaojaa.Ck
