/-
  A page's slots, its number and LSN, a key's value; a new page; its stamp.
-/
import Derived.Test.YtcloinonhpaojaaPd
namespace Go.Proofs.Ytcloinonhpaojaa
open Go.RowKit

theorem Try.info98 : (Try.prog.info? 98).map (fun i => (i.zero, i.size, i.bytes)) = some (some (.agg #[.bool false, .string ⟨#[]⟩, .string ⟨#[]⟩]), 3, 40) := by kernel_rfl

theorem cellsV_one (l : List Cl) : ∀ u ∈ cellsV l, u.oneCell' = true := by
  intro u hu
  simp [cellsV] at hu
  obtain ⟨c, _, h | h | h⟩ := hu <;> (subst h; rfl)

theorem own_nilcap {w : World} {B : Nat} {a : Option Addr} {n c : Nat} {e : TypeId} {size : Nat} {xs : List Value} {m : Nat} (h : w.ownsRow B e size (.slice a n c) m xs) : a = none → c = 0 := by
  rintro rfl
  rcases h.2 with ⟨h, _⟩ | ⟨_, _, _, h, _⟩ <;> simp at h
  exact h.2

/-- The cells of a slice of slots, one behind the other. -/
theorem SlC.flat {w : World} {x : Addr} {l : List Cl} (h : SlC w (some x) l) : ∀ j u, (cellsV l)[j]? = some u → w.cell? (x.add j) = some u := by
  intro j u hu
  have hj : j < l.length * 3 := by
    have := (List.getElem?_eq_some_iff.mp hu).1
    rw [cellsV_length] at this
    exact this
  have hi : j / 3 < l.length := by omega
  obtain ⟨h0, h1, h2, h3⟩ := h.cells x rfl (j / 3) l[j / 3] (List.getElem?_eq_getElem hi)
  obtain ⟨e0, e1, e2⟩ := cellsV_at l (j / 3) l[j / 3] (List.getElem?_eq_getElem hi)
  obtain ⟨b, o, sp⟩ := x
  simp only at h0
  subst h0
  have ea : (⟨b, o, none⟩ : Addr).add j = ⟨b, o + j, none⟩ := by unfold Addr.add; split <;> simp_all
  rw [ea]
  have hr : j % 3 = 0 ∨ j % 3 = 1 ∨ j % 3 = 2 := by omega
  rcases hr with hr | hr | hr
  · have : j = j / 3 * 3 := by omega
    rw [← this] at e0 h1
    rw [e0] at hu
    simp at hu
    rw [← hu]; exact h1
  · have : j = j / 3 * 3 + 1 := by omega
    rw [← this] at e1
    rw [e1] at hu
    simp at hu
    rw [← hu]
    have e : o + j = o + j / 3 * 3 + 1 := by omega
    rw [e]
    exact h2
  · have : j = j / 3 * 3 + 2 := by omega
    rw [← this] at e2
    rw [e2] at hu
    simp at hu
    rw [← hu]
    have e : o + j = o + j / 3 * 3 + 2 := by omega
    rw [e]
    exact h3

theorem id_any (B p : Nat) (id : Int) (lsn : Nat) (v : Value) (l : List Cl) (w : World) (h : PgOk w B p id lsn v l) :
    Calls Try.prog 57 #[.pointer (some ⟨p, 0, none⟩)] w fun e w' => e = .returned (.int .i64 id) ∧ w' = w := by
  obtain ⟨p0, p1, p2, f0, f1, f2, hz⟩ := h.cells
  clear h
  go_enter Try.func57, Try.ntmps57
  go_wp2
  go_ret
  exact ⟨rfl, rfl⟩
theorem lsn_any (B p : Nat) (id : Int) (lsn : Nat) (v : Value) (l : List Cl) (w : World) (h : PgOk w B p id lsn v l) :
    Calls Try.prog 70 #[.pointer (some ⟨p, 0, none⟩)] w fun e w' => e = .returned (.int .u64 (lsn : Int)) ∧ w' = w := by
  obtain ⟨p0, p1, p2, f0, f1, f2, hz⟩ := h.cells
  clear h
  go_enter Try.func70, Try.ntmps70
  go_wp2
  go_ret
  exact ⟨rfl, rfl⟩

/-- What Get tells. -/
def getL (l : List Cl) (k : List UInt8) : Option (List UInt8) := (l.findIdx? (isKey k)).map fun i => (l[i]?.getD Cl.none).val

theorem new_no (id : Int) (w : World) (h : ¬ (0 ≤ id ∧ id < 16)) :
    Calls Try.prog 40 #[.int .i64 id] w fun e w' => e = .returned (.tuple #[.pointer none, .int .i64 1]) ∧ w' = w := by
  have hk := known_any id w
  rw [show (decide (0 ≤ id) && decide (id < 16)) = false by simp; omega] at hk
  go_enter Try.func40, Try.ntmps40
  go_wp2_with fail
  refine Calls.mono hk ?_
  rintro e w1 ⟨rfl, hw1⟩
  obtain rfl := hw1.symm
  go_wp2
  exact bodyPost_ret (v := .tuple #[.pointer none, .int .i64 1]) (by simp [results, Try.results40, go_sem]) rfl ⟨rfl, rfl⟩

theorem new_yes (id : Int) (w : World) (h : 0 ≤ id ∧ id < 16) :
    Calls Try.prog 40 #[.int .i64 id] w fun e w' => e = .returned (.tuple #[.pointer (some ⟨w.heap.size, 0, none⟩), .int .i64 0]) ∧ w' = w.alloc (.cells #[.int .i64 id, .int .u64 0, .slice none 0 0] 96) := by
  have hk := known_any id w
  rw [show (decide (0 ≤ id) && decide (id < 16)) = true by simp; omega] at hk
  go_enter Try.func40, Try.ntmps40
  go_wp2_with fail
  refine Calls.mono hk ?_
  rintro e w1 ⟨rfl, hw1⟩
  obtain rfl := hw1.symm
  go_wp2
  exact bodyPost_ret (v := .tuple #[.pointer (some ⟨w.heap.size, 0, none⟩), .int .i64 0]) (by simp [results, Try.results40, go_sem]) rfl ⟨rfl, rfl⟩

theorem PgOk.new (id : Int) (w : World) : PgOk (w.alloc (.cells #[.int .i64 id, .int .u64 0, .slice none 0 0] 96)) w.heap.size w.heap.size id 0 (.slice none 0 0) [] :=
  ⟨heap_alloc_new _ _, World.ownsRow_nil _ _ _ _, by simp [Value.ownBlock], Nat.le_refl _⟩

end Go.Proofs.Ytcloinonhpaojaa
