/-
  The walk of takeTables.
-/
import Derived.Test.YtjhjicokbdloiaaTc
namespace Go.Proofs.Ytjhjicokbdloiaa
open Go.RowKit

theorem Try.info71 : (Try.prog.info? 71).map (fun i => (i.zero, i.size, i.bytes)) = some (some (.agg #[.int .i64 0, .int .i64 0, .int .u64 0]), 3, 24) := by kernel_rfl
theorem Try.info73 : (Try.prog.info? 73).map (fun i => (i.zero, i.size, i.bytes)) = some (some (.agg #[.int .i64 0, .int .u64 0]), 2, 16) := by kernel_rfl

/-- Rows as cells. -/
def txC (t : Tx) : List Value := [.int .i64 t.id, .int .i64 t.st, .int .u64 (t.last : Nat)]
def diC (t : Di) : List Value := [.int .i64 t.page, .int .u64 (t.lsn : Nat)]
def txsC : List Tx → List Value
  | [] => []
  | t :: r => txC t ++ txsC r
def disC : List Di → List Value
  | [] => []
  | t :: r => diC t ++ disC r
theorem txsC_snoc (l : List Tx) (t : Tx) : txsC (l ++ [t]) = txsC l ++ txC t := by
  induction l with
  | nil => simp [txsC]
  | cons a r ih => simp [txsC, ih]
theorem disC_snoc (l : List Di) (t : Di) : disC (l ++ [t]) = disC l ++ diC t := by
  induction l with
  | nil => simp [disC]
  | cons a r ih => simp [disC, ih]

theorem ownsRow_read {w w' : World} {D p : Nat} {e : TypeId} {size : Nat} {v : Value} {n : Nat} {xs : List Value} (h : w.ownsRow D e size v n xs) (hp : p < D) (hg : w.grownBy w' (some p)) : w'.ownsRow D e size v n xs := by
  refine ⟨h.1, ?_⟩
  rcases h.2 with h2 | ⟨g, cap, cur, hv, hD, hh, r⟩
  · exact .inl h2
  · refine .inr ⟨g, cap, cur, hv, hD, ?_, r⟩
    rw [hg.block g (lt_of_block hh) (by simp; omega)]
    exact hh

theorem own_ge {w : World} {D : Nat} {e : TypeId} {size : Nat} {v : Value} {n : Nat} {xs : List Value} (h : w.ownsRow D e size v n xs) : ∀ k, v.ownBlock = some k → D ≤ k ∧ k < w.heap.size := fun k hk => h.lt k hk

/-- A row is not touched by the growth of another one. -/
theorem ownsRow_apart {w w' : World} {D D' : Nat} {e e' : TypeId} {size size' : Nat} {v v' : Value} {n n' : Nat} {xs xs' : List Value} (h : w.ownsRow D e size v n xs) (h' : w.ownsRow D' e' size' v' n' xs') (he : e ≠ e') (hg : w.grownBy w' v'.ownBlock) : w'.ownsRow D e size v n xs := by
  refine ⟨h.1, ?_⟩
  rcases h.2 with h2 | ⟨g, cap, cur, hv, hD, hh, r⟩
  · exact .inl h2
  · refine .inr ⟨g, cap, cur, hv, hD, ?_, r⟩
    rw [hg.block g (lt_of_block hh) (fun e0 => ?_)]
    · exact hh
    · rcases h'.2 with ⟨rfl, _⟩ | ⟨g', cap', cur', rfl, _, hh', _⟩
      · simp [Value.ownBlock] at e0
      · simp [Value.ownBlock] at e0
        subst e0
        rw [hh] at hh'
        simp at hh'
        exact he hh'.2

/-- A Reader in block p, a record in block q, whose rows lie behind it. -/
structure TW (w0 w : World) (B p q : Nat) (s : St) (r : Rc) (ta : Option Addr) (tc : Nat) (da : Option Addr) (dc : Nat) : Prop where
  rw : RW w0 w B p q s (recC r ta tc da dc)
  own1 : w.ownsRow (q + 1) 71 3 (.slice ta r.txns.length tc) r.txns.length (txsC r.txns)
  own2 : w.ownsRow (q + 1) 73 2 (.slice da r.dirty.length dc) r.dirty.length (disC r.dirty)

theorem TW.read {w0 w w' : World} {B p q : Nat} {s s' : St} {r : Rc} {ta : Option Addr} {tc : Nat} {da : Option Addr} {dc : Nat} (h : TW w0 w B p q s r ta tc da dc) (hs : RS w' B p s') (hg : w.grownBy w' (some p)) : TW w0 w' B p q s' r ta tc da dc :=
  ⟨h.rw.read hs hg, ownsRow_read h.own1 (by have := h.rw.lt; omega) hg, ownsRow_read h.own2 (by have := h.rw.lt; omega) hg⟩
theorem RW.alloc {w0 w : World} {B p q : Nat} {s : St} {cs : Array Value} (h : RW w0 w B p q s cs) (o : Obj) : RW w0 (w.alloc o) B p q s cs := by
  obtain ⟨a, c, hr⟩ := h.rs
  exact ⟨⟨a, c, hr.below ((Below.refl _ _).alloc (Nat.le_refl _) o) (Nat.le_refl _)⟩, by rw [Below.heap_alloc _ _ _ h.q]; exact h.blk, h.lt, h.kq.alloc (Nat.le_of_lt h.q) o⟩
theorem RW.drew {w0 w : World} {B p q : Nat} {s : St} {cs : Array Value} (h : RW w0 w B p q s cs) : RW w0 w.drew B p q s cs := by
  obtain ⟨a, c, hr⟩ := h.rs
  exact ⟨⟨a, c, hr.below (Below.refl _ _).drew (Nat.le_refl _)⟩, h.blk, h.lt, h.kq.drew⟩
theorem RW.high {w0 w : World} {B p q b i : Nat} {s : St} {cs : Array Value} (h : RW w0 w B p q s cs) (hb : q < b) (u : Value) : RW w0 (w.setCell ⟨b, i, none⟩ u) B p q s cs := by
  obtain ⟨a, c, hr⟩ := h.rs
  exact ⟨⟨a, c, hr.setHigh (by have := h.lt; omega) u⟩, by rw [Below.heap_setCell _ _ _ _ (by simp; omega)]; exact h.blk, h.lt, h.kq.set (Nat.le_of_lt hb) u⟩
theorem RW.grown {w0 w w' : World} {B p q : Nat} {s : St} {cs : Array Value} {v : Option Nat} (h : RW w0 w B p q s cs) (hv : ∀ k, v = some k → q + 1 ≤ k) (hg : w.grownBy w' v) : RW w0 w' B p q s cs := by
  obtain ⟨a, c, hr⟩ := h.rs
  have hb : Below (q + 1) w w' := (Below.refl _ _).grown hg (by have := h.q; omega) hv
  refine ⟨⟨a, c, ⟨hr.base, ?_, ?_, ?_, hr.len, hr.cap, hr.nil⟩⟩, ?_, h.lt, h.kq.grown (Nat.le_of_lt h.q) (fun k hk => by have := hv k hk; omega) hg⟩
  · rw [hb.block p (by have := h.lt; omega)]; exact hr.blk
  · exact ⟨hr.sl.nonil, fun x hx j u hu => by
      have h1 := hr.sl.cells x hx j u hu
      have h2 : (x.add j).block = x.block := by unfold Addr.add; split <;> rfl
      rw [hb.cell (by rw [h2]; have := (hr.row x hx).2.1; have := h.lt; omega)]
      exact h1⟩
  · exact fun x hx => by obtain ⟨r1, r2, r3, r4⟩ := hr.row x hx; have := hg.size; exact ⟨r1, r2, by omega, r4⟩
  · rw [hb.block q (by omega)]; exact h.blk
theorem TW.alloc {w0 w : World} {B p q : Nat} {s : St} {r : Rc} {ta : Option Addr} {tc : Nat} {da : Option Addr} {dc : Nat} (h : TW w0 w B p q s r ta tc da dc) (o : Obj) : TW w0 (w.alloc o) B p q s r ta tc da dc :=
  ⟨h.rw.alloc o, h.own1.alloc _, h.own2.alloc _⟩
theorem TW.drew {w0 w : World} {B p q : Nat} {s : St} {r : Rc} {ta : Option Addr} {tc : Nat} {da : Option Addr} {dc : Nat} (h : TW w0 w B p q s r ta tc da dc) : TW w0 w.drew B p q s r ta tc da dc :=
  ⟨h.rw.drew, h.own1.drew, h.own2.drew⟩
/-- A store into a block that is no row of the record's. -/
theorem TW.high {w0 w : World} {B p q b i : Nat} {s : St} {r : Rc} {ta : Option Addr} {tc : Nat} {da : Option Addr} {dc : Nat} (h : TW w0 w B p q s r ta tc da dc) (hb : q < b) (h1 : ∀ k, (Value.slice ta r.txns.length tc).ownBlock = some k → k ≠ b) (h2 : ∀ k, (Value.slice da r.dirty.length dc).ownBlock = some k → k ≠ b) (u : Value) : TW w0 (w.setCell ⟨b, i, none⟩ u) B p q s r ta tc da dc :=
  ⟨h.rw.high hb u, ownsRow_setCell_other h.own1 (a := ⟨b, i, none⟩) (fun e => h1 _ e rfl) u, ownsRow_setCell_other h.own2 (a := ⟨b, i, none⟩) (fun e => h2 _ e rfl) u⟩

theorem three_new (w : World) (a b c : Value) (t : TypeId) : ∀ j u, [a, b, c][j]? = some u → (w.alloc (.cells #[a, b, c] t)).cell? ((⟨w.heap.size, 0, none⟩ : Addr).add j) = some u := by
  intro j u hu
  match j, hu with
  | 0, hu => simp at hu; subst hu; simp [Addr.add]
  | 1, hu => simp at hu; subst hu; simp [Addr.add]
  | 2, hu => simp at hu; subst hu; simp [Addr.add]
theorem two_new (w : World) (a b : Value) (t : TypeId) : ∀ j u, [a, b][j]? = some u → (w.alloc (.cells #[a, b] t)).cell? ((⟨w.heap.size, 0, none⟩ : Addr).add j) = some u := by
  intro j u hu
  match j, hu with
  | 0, hu => simp at hu; subst hu; simp [Addr.add]
  | 1, hu => simp at hu; subst hu; simp [Addr.add]

/-- One row of transactions more. -/
theorem TW.txn {w0 w w1 : World} {B p q : Nat} {s : St} {r : Rc} {ta ay : Option Addr} {tc cy : Nat} {da : Option Addr} {dc : Nat} {t : Tx} (h : TW w0 w B p q s r ta tc da dc) (hg : w.grownBy w1 (Value.slice ta r.txns.length tc).ownBlock)
    (ho : w1.ownsRow (q + 1) 71 3 (.slice ay (r.txns.length + 1) cy) (r.txns.length + 1) (txsC r.txns ++ txC t)) :
    TW w0 (w1.setCell ⟨q, 10, none⟩ (.slice ay (r.txns.length + 1) cy)) B p q s { r with txns := r.txns ++ [t] } ay cy da dc := by
  have hl : (r.txns ++ [t]).length = r.txns.length + 1 := by simp
  have h1 := h.rw.grown (fun k hk => (own_ge h.own1 k hk).1) hg
  have hq1 : ∀ k, (Value.slice ay (r.txns.length + 1) cy).ownBlock = some k → k ≠ q := fun k hk => by have := own_ge ho k hk; omega
  have ho2 := ownsRow_apart h.own2 h.own1 (by decide) hg
  have hq2 : ∀ k, (Value.slice da r.dirty.length dc).ownBlock = some k → k ≠ q := fun k hk => by have := own_ge ho2 k hk; omega
  refine ⟨h1.put ?_, ?_, ownsRow_setCell_other ho2 (a := ⟨q, 10, none⟩) (fun e => hq2 _ e rfl) _⟩
  · show _ = recC { r with txns := r.txns ++ [t] } ay cy da dc
    unfold recC
    simp only [hl]
    rfl
  · show World.ownsRow _ _ _ _ (.slice ay (r.txns ++ [t]).length cy) (r.txns ++ [t]).length (txsC (r.txns ++ [t]))
    rw [hl, txsC_snoc]
    exact ownsRow_setCell_other ho (a := ⟨q, 10, none⟩) (fun e => hq1 _ e rfl) _
theorem TW.dir {w0 w w1 : World} {B p q : Nat} {s : St} {r : Rc} {ta ay : Option Addr} {tc cy : Nat} {da : Option Addr} {dc : Nat} {t : Di} (h : TW w0 w B p q s r ta tc da dc) (hg : w.grownBy w1 (Value.slice da r.dirty.length dc).ownBlock)
    (ho : w1.ownsRow (q + 1) 73 2 (.slice ay (r.dirty.length + 1) cy) (r.dirty.length + 1) (disC r.dirty ++ diC t)) :
    TW w0 (w1.setCell ⟨q, 11, none⟩ (.slice ay (r.dirty.length + 1) cy)) B p q s { r with dirty := r.dirty ++ [t] } ta tc ay cy := by
  have hl : (r.dirty ++ [t]).length = r.dirty.length + 1 := by simp
  have h1 := h.rw.grown (fun k hk => (own_ge h.own2 k hk).1) hg
  have hq1 : ∀ k, (Value.slice ay (r.dirty.length + 1) cy).ownBlock = some k → k ≠ q := fun k hk => by have := own_ge ho k hk; omega
  have ho2 := ownsRow_apart h.own1 h.own2 (by decide) hg
  have hq2 : ∀ k, (Value.slice ta r.txns.length tc).ownBlock = some k → k ≠ q := fun k hk => by have := own_ge ho2 k hk; omega
  refine ⟨h1.put ?_, ownsRow_setCell_other ho2 (a := ⟨q, 11, none⟩) (fun e => hq2 _ e rfl) _, ?_⟩
  · show _ = recC { r with dirty := r.dirty ++ [t] } ta tc ay cy
    unfold recC
    simp only [hl]
    rfl
  · show World.ownsRow _ _ _ _ (.slice ay (r.dirty ++ [t]).length cy) (r.dirty ++ [t]).length (disC (r.dirty ++ [t]))
    rw [hl, disC_snoc]
    exact ownsRow_setCell_other ho (a := ⟨q, 11, none⟩) (fun e => hq1 _ e rfl) _

end Go.Proofs.Ytjhjicokbdloiaa
