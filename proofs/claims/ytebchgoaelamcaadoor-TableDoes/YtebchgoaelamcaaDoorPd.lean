/-
  A page in memory; its free bytes, a key's value, its number and LSN.
-/
import Derived.Test.YtebchgoaelamcaaDoorPc
import Derived.OneCell
namespace Go.Proofs.YtebchgoaelamcaaDoor
open Go.RowKit
set_option maxRecDepth 100000

/-- Slots as cells. -/
def cellsV (l : List Cl) : List Value := l.flatMap fun c => [.bool c.used, .string (txt c.key), .string (txt c.val)]
theorem cellsV_length (l : List Cl) : (cellsV l).length = l.length * 3 := by
  induction l with
  | nil => rfl
  | cons c r ih => simp [cellsV] at *; omega
theorem cellsV_append (l m : List Cl) : cellsV (l ++ m) = cellsV l ++ cellsV m := by simp [cellsV]
theorem cellsV_at (l : List Cl) (i : Nat) (t : Cl) (h : l[i]? = some t) :
    (cellsV l)[i * 3]? = some (.bool t.used) ∧ (cellsV l)[i * 3 + 1]? = some (.string (txt t.key)) ∧ (cellsV l)[i * 3 + 2]? = some (.string (txt t.val)) := by
  induction l generalizing i with
  | nil => simp at h
  | cons c r ih =>
    cases i with
    | zero => simp at h; subst h; simp [cellsV]
    | succ i =>
      have := ih i (by simpa using h)
      have e : cellsV (c :: r) = [.bool c.used, .string (txt c.key), .string (txt c.val)] ++ cellsV r := rfl
      rw [e]
      have e0 : (i + 1) * 3 = i * 3 + 3 := by omega
      rw [e0]
      simpa using this

theorem addr_add (g j : Nat) : (⟨g, 0, none⟩ : Addr).add j = ⟨g, j, none⟩ := by unfold Addr.add; split <;> simp_all

theorem slC_of_own {w : World} {B : Nat} {a : Option Addr} {n c : Nat} {l : List Cl} (h : w.ownsRow B 55 3 (.slice a n c) l.length (cellsV l)) : SlC w a l ∧ n = l.length ∧ l.length ≤ c ∧ l.length ≤ maxLen := by
  rcases h.2 with ⟨h1, h2⟩ | ⟨g, cap, cur, h1, hB, hh, hc, hm, _⟩
  · simp at h1
    obtain ⟨rfl, rfl, rfl⟩ := h1
    have : l = [] := List.eq_nil_of_length_eq_zero h2
    subst this
    exact ⟨⟨fun _ => rfl, fun x hx => by simp at hx⟩, rfl, by simp, by simp⟩
  · simp at h1
    obtain ⟨rfl, rfl, rfl⟩ := h1
    refine ⟨⟨fun h => by simp at h, fun x hx i t ht => ?_⟩, rfl, hc, by omega⟩
    simp at hx
    subst hx
    obtain ⟨e0, e1, e2⟩ := cellsV_at l i t ht
    have k0 := h.cells (g := g) rfl _ _ e0
    have k1 := h.cells (g := g) rfl _ _ e1
    have k2 := h.cells (g := g) rfl _ _ e2
    refine ⟨rfl, ?_, ?_, ?_⟩
    · simpa [addr_add] using k0
    · simpa [addr_add] using k1
    · simpa [addr_add] using k2

/-- A page lies in block p, its slots in a row of its own. -/
structure PgOk (w : World) (B p : Nat) (id : Int) (lsn : Nat) (v : Value) (l : List Cl) : Prop where
  blk : w.heap[p]? = some (.cells #[.int .i64 id, .int .u64 (lsn : Int), v] 88)
  own : w.ownsRow B 55 3 v l.length (cellsV l)
  ne : v.ownBlock ≠ some p
  base : B ≤ p

theorem lt_of_blk {w : World} {p : Nat} {o : Obj} (h : w.heap[p]? = some o) : p < w.heap.size := (Array.getElem?_eq_some_iff.mp h).1

theorem PgOk.below {w w' : World} {B D p : Nat} {id : Int} {lsn : Nat} {v : Value} {l : List Cl} (h : PgOk w B p id lsn v l) (hb : Below D w w') (hD : w.heap.size ≤ D) : PgOk w' B p id lsn v l :=
  ⟨by rw [hb.block p (Nat.lt_of_lt_of_le (lt_of_blk h.blk) hD)]; exact h.blk, ownsRow_below h.own hb (fun k hk => Nat.lt_of_lt_of_le (ownsRow_lt h.own k hk) hD), h.ne, h.base⟩

theorem PgOk.cells {w : World} {B p : Nat} {id : Int} {lsn : Nat} {v : Value} {l : List Cl} (h : PgOk w B p id lsn v l) :
    w.cell? ⟨p, 0, none⟩ = some (.int .i64 id) ∧ w.cell? ⟨p, 1, none⟩ = some (.int .u64 (lsn : Int)) ∧ w.cell? ⟨p, 2, none⟩ = some v ∧ w.frozen? ⟨p, 0, none⟩ = false ∧ w.frozen? ⟨p, 1, none⟩ = false ∧ w.frozen? ⟨p, 2, none⟩ = false ∧ p < w.heap.size := cell3 h.blk

theorem sumC_take (l : List Cl) (k : Nat) (hk : k < l.length) : sumC (l.take (k + 1)) = sumC (l.take k) + sizeC l[k] := by
  rw [List.take_add_one, List.getElem?_eq_getElem hk, sumC_append]
  simp [sumC]
theorem sumC_le (l : List Cl) (k : Nat) : sumC (l.take k) ≤ sumC l := by
  have : sumC l = sumC (l.take k) + sumC (l.drop k) := by rw [← sumC_append, List.take_append_drop]
  omega

theorem GoodL.small {l : List Cl} (h : GoodL l) (c : Cl) (hc : c ∈ l) : c.key.length ≤ 16 ∧ c.val.length ≤ 32 := by
  have := h.cells c hc
  unfold goodC at this
  split at this
  · omega
  · rw [this.1, this.2]; simp

set_option maxHeartbeats 1000000 in
theorem free_any (B p : Nat) (id : Int) (lsn : Nat) (v : Value) (l : List Cl) (w : World) (h : PgOk w B p id lsn v l) (hg : GoodL l) :
    Calls Tryd.prog 80 #[.pointer (some ⟨p, 0, none⟩)] w fun e w' => e = .returned (.int .i64 (freeL l)) ∧ Below w.heap.size w w' := by
  obtain ⟨a, c, rfl⟩ := ownsRow_shape h.own
  obtain ⟨hsl, _, hlc, _⟩ := slC_of_own h.own
  have hfew := hg.few
  have hroom := hg.room
  obtain ⟨p0, p1, p2, f0, f1, f2, hz⟩ := h.cells
  have HG := (show Hid _ from hg.small)
  have HP := (show Hid _ from h)
  clear h hg
  go_enter Tryd.func80, Tryd.ntmps80
  go_wp2_with fail
  refine (slotAt_any l.length _ (by omega)).mono ?_
  rintro e w1 ⟨rfl, hw1⟩
  obtain rfl := hw1.symm
  go_wp2_with fail
  go_loopw [3, 20] (fun f i wr => ∃ k : Nat, k ≤ l.length ∧ i = .int .i64 k ∧ f = .int .i64 (496 - 4 * (l.length : Int) - (sumC (l.take k) : Int)) ∧ Below w.heap.size w wr) (fun _ i _ => l.length - (intOf i).toNat)
  case atStart => exact ⟨0, Nat.zero_le _, rfl, by simp [sumC]; omega, Below.refl _ _⟩
  case round =>
    obtain ⟨k, hk, rfl, rfl, hB⟩ := hrel
    have hsl' := hsl.below hB
    have hle := sumC_le l k
    unfold freeL at hroom
    by_cases hlt : k < l.length
    · obtain ⟨b, o, rfl, hbl, c0, c1, c2⟩ := hsl'.at k hlt
      have hst := sumC_take l k hlt
      have hle1 := sumC_le l (k + 1)
      have hsm := HG.out l[k] (List.getElem_mem hlt)
      have hBA := hB.alloc hB.size (.cells (cellV l[k]) 55)
      have HX := (show Hid _ from cellSize_any l[k] (wr.alloc (.cells (cellV l[k]) 55)) (by omega))
      simp only [cellV] at hBA HX
      go_wp2_with fail
      refine Calls.mono HX.out ?_
      rintro e w2 ⟨rfl, hb2⟩
      have hB2 := below_on hBA hb2
      clear HX hb2 hBA
      go_wp2_with fail
      go_roundw
      case rel => exact ⟨k + 1, by omega, by simp, by rw [hst]; congr 1; omega, hB2⟩
      case measure => first | omega | (simp only [intOf]; omega)
    · have : k = l.length := by omega
      subst this
      go_wp2
      go_ret
      exact ⟨by simp [freeL], hB⟩

end Go.Proofs.YtebchgoaelamcaaDoor
