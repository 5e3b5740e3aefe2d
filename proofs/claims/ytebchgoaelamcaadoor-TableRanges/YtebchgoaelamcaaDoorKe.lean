/-
  What a round of TableDoes keeps.
-/
import Derived.Test.YtebchgoaelamcaaDoorKd
import Derived.Test.YtebchgoaelamcaaDoorPw
import Derived.Test.YtebchgoaelamcaaDoorHd
import Derived.Test.YtebchgoaelamcaaDoorAk
namespace Go.Proofs.YtebchgoaelamcaaDoor
open Go.RowKit
set_option maxRecDepth 100000

theorem Tryd.held46 : Tryd.prog.stoodInHeld 46 = false := by kernel_rfl
theorem Tryd.struct46 : Tryd.prog.underlying 46 = some (.struct (Tryd.prog.fieldsOf 46)) := by kernel_rfl
theorem neq46 (k : Int) (a b c : ByteArray) (w : World) : (binOp .neq 46 (.agg #[.int .i64 k, .string a, .string b, .string c]) (.agg #[.int .i64 k, .string a, .string b, .string c])).run Tryd.prog w = .ok (.bool false) w := by
  have h : (Op.equalIn 10000 46 (.agg #[.int .i64 k, .string a, .string b, .string c]) (.agg #[.int .i64 k, .string a, .string b, .string c])).run Tryd.prog w = .ok true w := by
    rw [show (10000 : Nat) = 9999 + 1 from rfl, run_equalIn_struct w 9999 46 _ _ Tryd.struct46 Tryd.held46]
    simp [Program.fieldsOf, Tryd.underlying46, Op.eqFields, go_sem, Tryd.underlying9]
  rw [run_neq_struct, h]
  simp [Result.andThen]

/-- A page, and what was new in a round. -/
structure St (w wq : World) (n1 p : Nat) (v : Value) (l : List Cl) (W : World) : Prop where
  bel : Below w.heap.size w W
  pg : PgOk W (w.heap.size + 1) p 0 0 v l
  kp : ∀ b, n1 ≤ b → b < wq.heap.size → W.heap[b]? = wq.heap[b]?
  sz : wq.heap.size ≤ W.heap.size
theorem St.step {w wq W W' : World} {n1 p : Nat} {v : Value} {l : List Cl} (h : St w wq n1 p v l W) (hb : Below W.heap.size W W') : St w wq n1 p v l W' :=
  ⟨h.bel.trans (hb.mono h.bel.size), h.pg.below hb (Nat.le_refl _), fun b h1 h2 => (hb.block b (Nat.lt_of_lt_of_le h2 h.sz)).trans (h.kp b h1 h2), Nat.le_trans h.sz hb.size⟩
theorem St.go {w wq W W' : World} {n1 p : Nat} {v v' : Value} {l l' : List Cl} (h : St w wq n1 p v l W) (ht : Touch p v.ownBlock W W') (hp : PgOk W' (w.heap.size + 1) p 0 0 v' l') (h1 : p < n1) (h2 : ∀ k, v.ownBlock = some k → k < n1) : St w wq n1 p v' l' W' :=
  ⟨h.bel.trans ((h.pg.touched ht).mono (Nat.le_succ _)), hp, fun b hb hz => (ht.block b (Nat.lt_of_lt_of_le hz h.sz) (by omega) (fun e => by have := h2 b e.symm; omega)).trans (h.kp b hb hz), Nat.le_trans h.sz ht.size⟩
theorem SlQ.touch {w w' : World} {p : Nat} {o : Option Nat} {a : Option Addr} {l : List Pq} (h : SlQ w a l) (ht : Touch p o w w') (hs : ∀ y, a = some y → l ≠ [] → y.block ≠ p ∧ o ≠ some y.block) : SlQ w' a l :=
  ⟨h.nonil, fun x hx i t hti => by
    obtain ⟨h0, h1, h2⟩ := h.cells x hx i t hti
    have hne := hs x hx (by rintro rfl; simp at hti)
    have hlt := World.block_lt_of_cell? _ _ h1
    have e : ∀ j, w'.cell? ⟨x.block, j, none⟩ = w.cell? ⟨x.block, j, none⟩ := fun j => World.cell?_of_block (w := w) (a := ⟨x.block, j, none⟩) (ht.block _ hlt hne.1 (fun e => hne.2 e.symm))
    exact ⟨h0, by rw [e]; exact h1, by rw [e]; exact h2⟩⟩
/-- A row of one's own lies in a new block. -/
theorem own_new {w : World} {B : Nat} {t : TypeId} {s n : Nat} {a : Option Addr} {m c : Nat} {xs : List Value} (h : w.ownsRow B t s (.slice a m c) n xs) (y : Addr) (hy : a = some y) : B ≤ y.block := by
  subst hy
  exact (World.ownsRow.lt h y.block rfl).1
end Go.Proofs.YtebchgoaelamcaaDoor
