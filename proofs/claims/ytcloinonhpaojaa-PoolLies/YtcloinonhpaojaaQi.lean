/-
  A pool, its store and all its pages in memory, and what each kind of turn leaves of them.
-/
import Derived.Test.YtcloinonhpaojaaQh
import Derived.Test.YtcloinonhpaojaaQc
import Derived.Test.YtcloinonhpaojaaQd
import Derived.Test.YtcloinonhpaojaaLv
namespace Go.Proofs.Ytcloinonhpaojaa
open Go.RowKit

/-- A page: its block, its LSN, its row of slots. -/
structure Pg where
  b : Nat
  lsn : Nat
  v : Value
  l : List Cl

/-- Nothing below B has turned, and no block but pools, stores, pages and their rows. -/
structure Stp (B : Nat) (w w' : World) : Prop where
  below : Below B w w'
  keep : ∀ (q : Nat) (M : Array Value) (t : TypeId), w.heap[q]? = some (.cells M t) → t ≠ 91 ∧ t ≠ 59 ∧ t ≠ 96 ∧ t ≠ 98 → w'.heap[q]? = some (.cells M t)
theorem Stp.trans {B : Nat} {a b c : World} (h : Stp B a b) (k : Stp B b c) : Stp B a c := ⟨h.below.trans k.below, fun q M t hq ht => k.keep q M t (h.keep q M t hq ht) ht⟩
theorem Stp.refl (B : Nat) (w : World) : Stp B w w := ⟨Below.refl _ _, fun _ _ _ h _ => h⟩
theorem Stp.of {B : Nat} {w w' : World} (h : Below w.heap.size w w') (hB : B ≤ w.heap.size) : Stp B w w' := ⟨h.mono hB, fun q M t hq _ => by rw [h.block q (blk_lt hq)]; exact hq⟩
theorem Stp.one {B p : Nat} {w w' : World} (h : One p w w') (hp : B ≤ p) (hB : B ≤ w.heap.size) {M : Array Value} {t : TypeId} (hM : w.heap[p]? = some (.cells M t)) (h1 : t = 91 ∨ t = 59) : Stp B w w' :=
  ⟨h.below hp hB, fun q N u hq hu => by
    rw [h.block q (blk_lt hq) fun e => ?_]
    · exact hq
    · rw [e, hM] at hq
      simp at hq
      rw [hq.2] at h1
      rcases h1 with h1 | h1
      · exact hu.1 h1
      · exact hu.2.1 h1⟩

structure Mem (w : World) (B p d : Nat) (s : Po) (k : Dk) (h : Nat → Pg) : Prop where
  po : PoIn w p (stV d) s
  dk : DkIn w d k
  pB : B ≤ p
  dB : B ≤ d
  pg : ∀ i : Nat, i < 16 → here s.r (i : Int) → s.P i = some ⟨(h i).b, 0, none⟩ ∧ PgOk w B (h i).b (i : Int) (h i).lsn (h i).v (h i).l ∧ GoodL (h i).l ∧ (h i).lsn < 18446744073709551616
  ap : ∀ i j : Nat, i < 16 → j < 16 → i ≠ j → here s.r (i : Int) → here s.r (j : Int) → (h i).b ≠ (h j).b ∧ ∀ q, (h i).v.ownBlock = some q → (h j).v.ownBlock ≠ some q
  rg : ∀ x, s.a = some x → x.block ≠ p ∧ x.block ≠ d ∧ ∀ i : Nat, i < 16 → here s.r (i : Int) → x.block ≠ (h i).b ∧ (h i).v.ownBlock ≠ some x.block

theorem Mem.B_le {w : World} {B p d : Nat} {s : Po} {k : Dk} {h : Nat → Pg} (m : Mem w B p d s k h) : B ≤ w.heap.size := by have := m.po.lt; have := m.pB; omega
theorem Mem.pd {w : World} {B p d : Nat} {s : Po} {k : Dk} {h : Nat → Pg} (m : Mem w B p d s k h) : p ≠ d := fun e => by
  obtain ⟨M, h1, -⟩ := m.po.blk
  obtain ⟨N, h2, -⟩ := m.dk.blk
  rw [e, h2] at h1
  simp at h1
theorem Mem.rp {w : World} {B p d : Nat} {s : Po} {k : Dk} {h : Nat → Pg} (m : Mem w B p d s k h) : ∀ x, s.a = some x → x.block ≠ p := fun x hx => (m.rg x hx).1
theorem row_lt {w : World} {B p : Nat} {id : Int} {lsn : Nat} {v : Value} {l : List Cl} (h : PgOk w B p id lsn v l) : ∀ q, v.ownBlock = some q → q < w.heap.size := fun q hq => by
  obtain ⟨c, fz, hc⟩ := Lib.ownsRow_kind h.own q hq
  exact blk_lt hc
theorem row_B {w : World} {B p : Nat} {id : Int} {lsn : Nat} {v : Value} {l : List Cl} (h : PgOk w B p id lsn v l) : ∀ q, v.ownBlock = some q → B ≤ q := fun q hq => by
  rcases h.own.2 with ⟨e, _⟩ | ⟨g, cap, cur, e, hb, _⟩
  · rw [e] at hq; simp [Value.ownBlock] at hq
  · rw [e] at hq; simp [Value.ownBlock] at hq; omega

theorem Mem.below {w w' : World} {B p d : Nat} {s : Po} {k : Dk} {h : Nat → Pg} (m : Mem w B p d s k h) (hb : Below w.heap.size w w') : Mem w' B p d s k h :=
  ⟨m.po.below hb, m.dk.below hb, m.pB, m.dB, fun i hi hh => ⟨(m.pg i hi hh).1, (m.pg i hi hh).2.1.below hb (Nat.le_refl _), (m.pg i hi hh).2.2⟩, m.ap, m.rg⟩

theorem Mem.stp {w w' : World} {B p d : Nat} {s : Po} {k : Dk} {h : Nat → Pg} (m : Mem w B p d s k h) (ho : One p w w') : Stp B w w' := by
  obtain ⟨M, hM, -⟩ := m.po.blk
  exact Stp.one ho m.pB m.B_le hM (.inl rfl)
theorem Mem.stpD {w w' : World} {B p d : Nat} {s : Po} {k : Dk} {h : Nat → Pg} (m : Mem w B p d s k h) (ho : One d w w') : Stp B w w' := by
  obtain ⟨M, hM, -⟩ := m.dk.blk
  exact Stp.one ho m.dB m.B_le hM (.inr rfl)

/-- The pool alone has turned. -/
theorem Mem.turn {w w' : World} {B p d : Nat} {s s' : Po} {k : Dk} {h : Nat → Pg} (m : Mem w B p d s k h) (ho : One p w w') (hp : PoIn w' p (stV d) s') (hh : ∀ i : Nat, i < 16 → here s'.r (i : Int) → here s.r (i : Int)) (hP : ∀ i : Nat, i < 16 → here s'.r (i : Int) → s'.P i = s.P i)
    (hr : ∀ x, s'.a = some x → w.heap.size ≤ x.block ∨ s.a = some x) : Mem w' B p d s' k h := by
  obtain ⟨M, hM, -⟩ := m.po.blk
  refine ⟨hp, m.dk.kept (ho.block d m.dk.lt (fun e => m.pd e.symm)), m.pB, m.dB, fun i hi hx => ?_, fun i j hi hj hij h1 h2 => m.ap i j hi hj hij (hh i hi h1) (hh j hj h2), fun x hx => ?_⟩
  · obtain ⟨a1, a2, a3⟩ := m.pg i hi (hh i hi hx)
    exact ⟨by rw [hP i hi hx]; exact a1, a2.one ho hM (by decide) (by decide), a3⟩
  · rcases hr x hx with e | e
    · refine ⟨by have := m.po.lt; omega, by have := m.dk.lt; omega, fun i hi hx => ?_⟩
      have q := (m.pg i hi (hh i hi hx)).2.1
      refine ⟨by have := blk_lt q.blk; omega, fun e2 => ?_⟩
      have := row_lt q _ e2
      omega
    · exact ⟨(m.rg x e).1, (m.rg x e).2.1, fun i hi hx => (m.rg x e).2.2 i hi (hh i hi hx)⟩

/-- The store alone has turned. -/
theorem Mem.disk {w w' : World} {B p d : Nat} {s : Po} {k k' : Dk} {h : Nat → Pg} (m : Mem w B p d s k h) (ho : One d w w') (hd : DkIn w' d k') : Mem w' B p d s k' h := by
  obtain ⟨N, hN, -⟩ := m.dk.blk
  obtain ⟨M, hM, hPM⟩ := m.po.blk
  refine ⟨⟨⟨M, by rw [ho.block p m.po.lt m.pd]; exact hM, hPM⟩, m.po.may, m.po.np, slF_one m.po.ring ho (fun x hx => (m.rg x hx).2.1)⟩, hd, m.pB, m.dB, fun i hi hx => ?_, m.ap, m.rg⟩
  obtain ⟨a1, a2, a3⟩ := m.pg i hi hx
  exact ⟨a1, a2.one ho hN (by decide) (by decide), a3⟩

/-- A page alone has turned. -/
theorem Mem.page {w w' : World} {B p d : Nat} {s : Po} {k : Dk} {h : Nat → Pg} (m : Mem w B p d s k h) (i : Nat) (hi : i < 16) (hh : here s.r (i : Int)) {lsn : Nat} {v : Value} {l : List Cl}
    (ht : Touch (h i).b (h i).v.ownBlock w w') (hpg : PgOk w' B (h i).b (i : Int) lsn v l) (hg : GoodL l) (hl : lsn < 18446744073709551616) (hf : Fresh w (h i).v v) : Mem w' B p d s k (upd h i ⟨(h i).b, lsn, v, l⟩) ∧ Stp B w w' := by
  obtain ⟨N, hN, hDM⟩ := m.dk.blk
  obtain ⟨M, hM, hPM⟩ := m.po.blk
  obtain ⟨b1, b2, b3, b4⟩ := m.pg i hi hh
  have hk : ∀ (q : Nat) (X : Array Value) (t : TypeId), w.heap[q]? = some (.cells X t) → t ≠ 96 → t ≠ 98 → w'.heap[q]? = some (.cells X t) := fun q X t hq h1 h2 => by
    rw [ht.block q (blk_lt hq) (fun e => ?_) (fun e => ?_)]
    · exact hq
    · have := b2.blk
      rw [← e, hq] at this
      simp at this
      exact h1 this.2
    · obtain ⟨c, fz, hc⟩ := Lib.ownsRow_kind b2.own q e.symm
      rw [hq] at hc
      simp at hc
      exact h2 hc.2.1
  refine ⟨⟨⟨⟨M, hk p M 91 hM (by decide) (by decide), hPM⟩, m.po.may, m.po.np, ?_⟩, ⟨⟨N, hk d N 59 hN (by decide) (by decide), hDM⟩, m.dk.good, m.dk.low, m.dk.off⟩, m.pB, m.dB, fun j hj hx => ?_, fun a c ha hc hac h1 h2 => ?_, fun x hx => ⟨(m.rg x hx).1, (m.rg x hx).2.1, fun j hj hy => ?_⟩⟩, ⟨ht.below b2.base (row_B b2) m.B_le, fun q X t hq hx => hk q X t hq hx.2.2.1 hx.2.2.2⟩⟩
  · refine ⟨m.po.ring.nonil, fun x hx i' t ht' => ?_⟩
    obtain ⟨h0, h1, h2, h3⟩ := m.po.ring.cells x hx i' t ht'
    have hlt := World.block_lt_of_cell? _ _ h1
    have hr := (m.rg x hx).2.2 i hi hh
    have e : ∀ j, w'.cell? ⟨x.block, j, none⟩ = w.cell? ⟨x.block, j, none⟩ := fun j => by
      have := ht.block x.block hlt hr.1 (fun e => hr.2 e.symm)
      simp only [World.cell?, this]
    exact ⟨h0, by rw [e]; exact h1, by rw [e]; exact h2, by rw [e]; exact h3⟩
  · by_cases e : j = i
    · subst e
      simp only [upd_self]
      exact ⟨b1, hpg, hg, hl⟩
    · simp only [upd_ne _ _ e]
      obtain ⟨a1, a2, a3⟩ := m.pg j hj hx
      obtain ⟨x1, x2⟩ := m.ap i j hi hj (fun y => e y.symm) hh hx
      refine ⟨a1, a2.kept (ht.block _ (blk_lt a2.blk) (fun y => x1 y.symm) (fun y => ?_)) (fun q hq => ht.block q (row_lt a2 q hq) (fun y => ?_) (fun y => x2 q y.symm hq)), a3⟩
      · obtain ⟨c, fz, hc⟩ := Lib.ownsRow_kind b2.own _ y.symm
        rw [a2.blk] at hc
        simp at hc
      · obtain ⟨c, fz, hc⟩ := Lib.ownsRow_kind a2.own _ hq
        rw [y, b2.blk] at hc
        simp at hc
  · have key : ∀ j, j < 16 → j ≠ i → here s.r (j : Int) → (h i).b ≠ (h j).b ∧ (∀ q, v.ownBlock = some q → (h j).v.ownBlock ≠ some q) := fun j hj hji hx => by
      obtain ⟨x1, x2⟩ := m.ap i j hi hj (fun y => hji y.symm) hh hx
      refine ⟨x1, fun q hq e => ?_⟩
      rcases hf q hq with e1 | e1
      · exact x2 q e1 e
      · have := row_lt (m.pg j hj hx).2.1 q e
        omega
    by_cases ea : a = i
    · subst ea
      have hc' : c ≠ a := fun y => hac y.symm
      simp only [upd_self, upd_ne _ _ hc']
      exact key c hc hc' h2
    · by_cases ec : c = i
      · subst ec
        simp only [upd_self, upd_ne _ _ ea]
        obtain ⟨x1, x2⟩ := key a ha ea h1
        exact ⟨fun y => x1 y.symm, fun q h3 h4 => x2 q h4 h3⟩
      · simp only [upd_ne _ _ ea, upd_ne _ _ ec]
        exact m.ap a c ha hc hac h1 h2
  · by_cases e : j = i
    · subst e
      simp only [upd_self]
      refine ⟨((m.rg x hx).2.2 j hj hy).1, fun e2 => ?_⟩
      rcases hf _ e2 with e1 | e1
      · exact ((m.rg x hx).2.2 j hj hy).2 e1
      · obtain ⟨y, hy1, hy2⟩ := m.po.at
        rw [hx] at hy1
        simp at hy1
        subst hy1
        omega
    · simp only [upd_ne _ _ e]
      exact (m.rg x hx).2.2 j hj hy

/-- A page that was made comes in. -/
theorem Mem.load {w w1 w2 : World} {B p d : Nat} {s s' : Po} {k : Dk} {h : Nat → Pg} (m : Mem w B p d s k h) (hb : Below w.heap.size w w1) (i : Nat) (hi : i < 16) {b lsn : Nat} {v : Value} {l : List Cl}
    (hpg : PgOk w1 w.heap.size b (i : Int) lsn v l) (hg : GoodL l) (hl : lsn < 18446744073709551616) (ho : One p w1 w2) (hp : PoIn w2 p (stV d) s') (hP : s'.P = upd s.P i (some ⟨b, 0, none⟩)) (hh : ∀ j : Int, 0 ≤ j → (here s'.r j ↔ j = i ∨ here s.r j))
    (hr : ∀ x, s'.a = some x → w1.heap.size ≤ x.block) : Mem w2 B p d s' k (upd h i ⟨b, lsn, v, l⟩) := by
  have m1 := m.below hb
  obtain ⟨M, hM, -⟩ := m1.po.blk
  have old : ∀ j : Nat, j < 16 → j ≠ i → here s'.r (j : Int) → here s.r (j : Int) := fun j hj hji hx => by
    rcases (hh j (by omega)).1 hx with e | e
    · exact absurd (by omega : j = i) hji
    · exact e
  have hB := m.B_le
  refine ⟨hp, m1.dk.kept (ho.block d m1.dk.lt (fun e => m1.pd e.symm)), m.pB, m.dB, fun j hj hx => ?_, fun a c ha hc hac h1 h2 => ?_, fun x hx => ?_⟩
  · by_cases e : j = i
    · subst e
      simp only [upd_self, hP]
      have q := hpg.one ho hM (by decide) (by decide)
      exact ⟨trivial, ⟨q.blk, q.own.mono hB, q.ne, Nat.le_trans hB q.base⟩, hg, hl⟩
    · simp only [upd_ne _ _ e, hP]
      obtain ⟨a1, a2, a3⟩ := m1.pg j hj (old j hj e hx)
      exact ⟨a1, a2.one ho hM (by decide) (by decide), a3⟩
  · have key : ∀ j, j < 16 → j ≠ i → here s'.r (j : Int) → b ≠ (h j).b ∧ (∀ q, v.ownBlock = some q → (h j).v.ownBlock ≠ some q) := fun j hj hji hx => by
      have q := (m.pg j hj (old j hj hji hx)).2.1
      refine ⟨by have := blk_lt q.blk; have := hpg.base; omega, fun x h1 h2 => ?_⟩
      have := row_lt q x h2
      have := row_B hpg x h1
      omega
    by_cases ea : a = i
    · subst ea
      have hc' : c ≠ a := fun y => hac y.symm
      simp only [upd_self, upd_ne _ _ hc']
      exact key c hc hc' h2
    · by_cases ec : c = i
      · subst ec
        simp only [upd_self, upd_ne _ _ ea]
        obtain ⟨x1, x2⟩ := key a ha ea h1
        exact ⟨fun y => x1 y.symm, fun q h3 h4 => x2 q h4 h3⟩
      · simp only [upd_ne _ _ ea, upd_ne _ _ ec]
        exact m.ap a c ha hc hac (old a ha ea h1) (old c hc ec h2)
  · have e := hr x hx
    refine ⟨by have := m1.po.lt; omega, by have := m1.dk.lt; omega, fun j hj hy => ?_⟩
    by_cases ej : j = i
    · subst ej
      simp only [upd_self]
      exact ⟨by have := blk_lt hpg.blk; omega, fun e2 => by have := row_lt hpg _ e2; omega⟩
    · simp only [upd_ne _ _ ej]
      have q := (m1.pg j hj (old j hj ej hy)).2.1
      exact ⟨by have := blk_lt q.blk; omega, fun e2 => by have := row_lt q _ e2; omega⟩
end Go.Proofs.Ytcloinonhpaojaa
