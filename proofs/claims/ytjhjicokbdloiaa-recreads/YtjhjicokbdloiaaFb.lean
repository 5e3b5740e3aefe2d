/-
  The walk of the document's tables.
-/
import Derived.Test.YtjhjicokbdloiaaFa
import Derived.Test.YtjhjicokbdloiaaTv
namespace Go.Proofs.Ytjhjicokbdloiaa
open Go.RowKit

theorem QW.grown {w0 w w' : World} {Z : List (Nat × Obj)} {p q k : Nat} {S : ByteArray} {s : St} {cs : Array Value} {v : Option Nat} (h : QW w0 w Z p q S k s cs) (hg : w.grownBy w' v) (hv : ∀ b, v = some b → w0.heap.size ≤ b ∧ b ≠ p ∧ b ≠ q ∧ ∀ x ∈ Z, b ≠ x.1) : QW w0 w' Z p q S k s cs :=
  ⟨h.le, h.at_, by rw [hg.block p (lt_of_block h.rd) (fun e => (hv p e.symm).2.1 rfl)]; exact h.rd, by rw [hg.block q (lt_of_block h.blk) (fun e => (hv q e.symm).2.2.1 rfl)]; exact h.blk, h.ne, h.hp, h.hq,
    fun x hx => ⟨by rw [hg.block _ (lt_of_block (h.zs x hx).1) (fun e => (hv _ e.symm).2.2.2 x hx rfl)]; exact (h.zs x hx).1, (h.zs x hx).2⟩, h.bel.grown hg h.bel.size (fun b hb => (hv b hb).1)⟩

/-- The reader and a record whose rows lie from block D on. -/
structure TQ (w0 w : World) (Z : List (Nat × Obj)) (p q D : Nat) (S : ByteArray) (k : Nat) (s : St) (r : Rc) (ta : Option Addr) (tc : Nat) (da : Option Addr) (dc : Nat) : Prop where
  qw : QW w0 w Z p q S k s (recC r ta tc da dc)
  own1 : w.ownsRow D 71 3 (.slice ta r.txns.length tc) r.txns.length (txsC r.txns)
  own2 : w.ownsRow D 73 2 (.slice da r.dirty.length dc) r.dirty.length (disC r.dirty)
  far : w0.heap.size ≤ D ∧ p < D ∧ q < D ∧ ∀ x ∈ Z, x.1 < D
  size : D ≤ w.heap.size

theorem own_below {w w' : World} {D : Nat} {e : TypeId} {size : Nat} {v : Value} {n : Nat} {xs : List Value} (h : w.ownsRow D e size v n xs) (hb : Below w.heap.size w w') : w'.ownsRow D e size v n xs :=
  ownsRow_below h hb (fun k hk => (own_ge h k hk).2)
theorem own_set {w : World} {D p i : Nat} {e : TypeId} {size : Nat} {v x : Value} {n : Nat} {xs : List Value} (h : w.ownsRow D e size v n xs) (hp : p < D) : (w.setCell ⟨p, i, none⟩ x).ownsRow D e size v n xs :=
  ownsRow_setCell_other h (a := ⟨p, i, none⟩) (fun e => by have := own_ge h _ e; dsimp only at this; omega) _
theorem TQ.call {w0 w w' : World} {Z : List (Nat × Obj)} {p q D k : Nat} {S : ByteArray} {s : St} {r : Rc} {ta : Option Addr} {tc : Nat} {da : Option Addr} {dc : Nat} (h : TQ w0 w Z p q D S k s r ta tc da dc) (hb : Below w.heap.size w w') : TQ w0 w' Z p q D S k s r ta tc da dc :=
  ⟨h.qw.call hb, own_below h.own1 hb, own_below h.own2 hb, h.far, Nat.le_trans h.size hb.size⟩
theorem TQ.rset {w0 w : World} {Z : List (Nat × Obj)} {p q D k : Nat} {S : ByteArray} {s : St} {r : Rc} {ta : Option Addr} {tc : Nat} {da : Option Addr} {dc : Nat} (h : TQ w0 w Z p q D S k s r ta tc da dc) {k' : Nat} {s' : St} (hk : k' ≤ S.size) (hs : s'.1 = S.data.toList.drop k') :
    TQ w0 (((w.setCell ⟨p, 0, none⟩ (.string S)).setCell ⟨p, 1, none⟩ (.int .i64 k')).setCell ⟨p, 2, none⟩ (.int .i64 s'.2)) Z p q D S k' s' r ta tc da dc :=
  ⟨h.qw.rset hk hs, own_set (own_set (own_set h.own1 h.far.2.1) h.far.2.1) h.far.2.1, own_set (own_set (own_set h.own2 h.far.2.1) h.far.2.1) h.far.2.1, h.far, by simpa [World.setCell] using h.size⟩
theorem TQ.alloc {w0 w : World} {Z : List (Nat × Obj)} {p q D k : Nat} {S : ByteArray} {s : St} {r : Rc} {ta : Option Addr} {tc : Nat} {da : Option Addr} {dc : Nat} (h : TQ w0 w Z p q D S k s r ta tc da dc) (o : Obj) : TQ w0 (w.alloc o) Z p q D S k s r ta tc da dc :=
  h.call ((Below.refl _ _).alloc (Nat.le_refl _) o)
theorem TQ.g1 {w0 w w1 : World} {Z : List (Nat × Obj)} {p q D k : Nat} {S : ByteArray} {s : St} {r : Rc} {ta : Option Addr} {tc : Nat} {da : Option Addr} {dc : Nat} (h : TQ w0 w Z p q D S k s r ta tc da dc) (hg : w.grownBy w1 (Value.slice ta r.txns.length tc).ownBlock) : QW w0 w1 Z p q S k s (recC r ta tc da dc) := by
  obtain ⟨f0, f1, f2, f3⟩ := h.far
  exact h.qw.grown hg (fun b hb => by have := own_ge h.own1 b hb; exact ⟨by omega, by omega, by omega, fun x hx => by have := f3 x hx; omega⟩)
theorem TQ.g2 {w0 w w1 : World} {Z : List (Nat × Obj)} {p q D k : Nat} {S : ByteArray} {s : St} {r : Rc} {ta : Option Addr} {tc : Nat} {da : Option Addr} {dc : Nat} (h : TQ w0 w Z p q D S k s r ta tc da dc) (hg : w.grownBy w1 (Value.slice da r.dirty.length dc).ownBlock) : QW w0 w1 Z p q S k s (recC r ta tc da dc) := by
  obtain ⟨f0, f1, f2, f3⟩ := h.far
  exact h.qw.grown hg (fun b hb => by have := own_ge h.own2 b hb; exact ⟨by omega, by omega, by omega, fun x hx => by have := f3 x hx; omega⟩)
theorem TQ.txn {w0 w w1 : World} {Z : List (Nat × Obj)} {p q D k : Nat} {S : ByteArray} {s : St} {r : Rc} {ta ay : Option Addr} {tc cy : Nat} {da : Option Addr} {dc : Nat} {t : Tx} (h : TQ w0 w Z p q D S k s r ta tc da dc) (hg : w.grownBy w1 (Value.slice ta r.txns.length tc).ownBlock)
    (ho : w1.ownsRow D 71 3 (.slice ay (r.txns.length + 1) cy) (r.txns.length + 1) (txsC r.txns ++ txC t)) :
    TQ w0 (w1.setCell ⟨q, 10, none⟩ (.slice ay (r.txns.length + 1) cy)) Z p q D S k s { r with txns := r.txns ++ [t] } ay cy da dc := by
  have hl : (r.txns ++ [t]).length = r.txns.length + 1 := by simp
  obtain ⟨f0, f1, f2, f3⟩ := h.far
  have h1 := h.qw.grown hg (fun b hb => by have := own_ge h.own1 b hb; exact ⟨by omega, by omega, by omega, fun x hx => by have := f3 x hx; omega⟩)
  have ho2 := ownsRow_apart h.own2 h.own1 (by decide) hg
  refine ⟨h1.put ?_, ?_, own_set ho2 f2, h.far, by have := hg.size; have := h.size; simp [World.setCell]; omega⟩
  · show _ = recC { r with txns := r.txns ++ [t] } ay cy da dc
    unfold recC
    simp only [hl]
    rfl
  · show World.ownsRow _ _ _ _ (.slice ay (r.txns ++ [t]).length cy) (r.txns ++ [t]).length (txsC (r.txns ++ [t]))
    rw [hl, txsC_snoc]
    exact own_set ho f2
theorem TQ.dir {w0 w w1 : World} {Z : List (Nat × Obj)} {p q D k : Nat} {S : ByteArray} {s : St} {r : Rc} {ta ay : Option Addr} {tc cy : Nat} {da : Option Addr} {dc : Nat} {t : Di} (h : TQ w0 w Z p q D S k s r ta tc da dc) (hg : w.grownBy w1 (Value.slice da r.dirty.length dc).ownBlock)
    (ho : w1.ownsRow D 73 2 (.slice ay (r.dirty.length + 1) cy) (r.dirty.length + 1) (disC r.dirty ++ diC t)) :
    TQ w0 (w1.setCell ⟨q, 11, none⟩ (.slice ay (r.dirty.length + 1) cy)) Z p q D S k s { r with dirty := r.dirty ++ [t] } ta tc ay cy := by
  have hl : (r.dirty ++ [t]).length = r.dirty.length + 1 := by simp
  obtain ⟨f0, f1, f2, f3⟩ := h.far
  have h1 := h.qw.grown hg (fun b hb => by have := own_ge h.own2 b hb; exact ⟨by omega, by omega, by omega, fun x hx => by have := f3 x hx; omega⟩)
  have ho2 := ownsRow_apart h.own1 h.own2 (by decide) hg
  refine ⟨h1.put ?_, own_set ho2 f2, ?_, h.far, by have := hg.size; have := h.size; simp [World.setCell]; omega⟩
  · show _ = recC { r with dirty := r.dirty ++ [t] } ta tc ay cy
    unfold recC
    simp only [hl]
    rfl
  · show World.ownsRow _ _ _ _ (.slice ay (r.dirty ++ [t]).length cy) (r.dirty ++ [t]).length (disC (r.dirty ++ [t]))
    rw [hl, disC_snoc]
    exact own_set ho f2

set_option maxRecDepth 20000 in
set_option maxHeartbeats 4000000 in
theorem reftables_any (S : ByteArray) (k : Nat) (s : St) (r : Rc) (w : World) (hS : S.size ≤ maxLen) (hk : k ≤ S.size) (hs : s.1 = S.data.toList.drop k) (hr1 : r.txns = []) (hr2 : r.dirty = []) :
    Calls Try.prog 49 #[.agg #[.string S, .int .i64 k, .int .i64 s.2], recV r none 0 none 0] w fun e w' => ∃ k' ta tc da dc, k' ≤ S.size ∧ (tabS s).1 = S.data.toList.drop k' ∧
      e = .returned (.tuple #[.agg #[.string S, .int .i64 (k' : Nat), .int .i64 (tabS s).2], recV (tabR s r) ta tc da dc]) ∧
      w'.ownsRow w.heap.size 71 3 (.slice ta (tabR s r).txns.length tc) (tabR s r).txns.length (txsC (tabR s r).txns) ∧ w'.ownsRow w.heap.size 73 2 (.slice da (tabR s r).dirty.length dc) (tabR s r).dirty.length (disC (tabR s r).dirty) ∧ Below w.heap.size w w' := by
  obtain ⟨i1, hi1, hz10, hz11, hz12⟩ := info_parts Try.info71
  obtain ⟨i2, hi2, hz20, hz21, hz22⟩ := info_parts Try.info73
  have Hr : Hid (r.txns = [] ∧ r.dirty = []) := ⟨hr1, hr2⟩
  have b1 := rN_bd 1 s
  simp only [Nat.reducePow] at b1
  have H0 : Hid (TQ w _ [(w.heap.size + 1 + 1, Obj.cells #[.string ⟨#[]⟩, .int .i64 0, .int .i64 0] 78), (w.heap.size + 1 + 1 + 1, Obj.cells (recC Rc.zero none 0 none 0) 31)] (w.heap.size) (w.heap.size + 1) (w.heap.size + 4) S k s r none 0 none 0) := ⟨QW.start w S k s (recC r none 0 none 0) hk hs, by rw [hr1]; exact World.ownsRow_nil _ _ _ _, by rw [hr2]; exact World.ownsRow_nil _ _ _ _, ⟨by omega, by omega, by omega, by simp⟩, by simp⟩
  clear hr1 hr2
  go_enter Try.func49, Try.ntmps49
  go_wp2_with fail
  refine Calls.mono (tk_any S k 1 (s) _ hS hk hs (by decide) (by decide)) ?_
  rintro e w1 ⟨kw1, hkw1, hsw1, rfl, hb⟩
  have h := H0.out.call hb
  obtain ⟨⟨c0, c1, c2⟩, f0, f1, f2⟩ := h.qw.cells
  obtain ⟨⟨q0, q1, q2, q3, q4, q5, q6, q7, q8, q9, q10, q11⟩, hf⟩ := rw_cells h.qw.blk
  have Hw1 : Hid _ := h.rset (s' := sN 1 (s)) hkw1 hsw1
  clear h hb
  clear H0
  obtain ⟨n1, Hn1⟩ : ∃ n, Hid (n = rN 1 s) := ⟨_, rfl⟩
  rw [← Hn1.out] at b1 ⊢
  go_wp2_with fail
  clear c0 c1 c2 f0 f1 f2 q0 q1 q2 q3 q4 q5 q6 q7 q8 q9 q10 q11 hf
  obtain ⟨V1, HW⟩ : ∃ W, W = (((w1.setCell ⟨w.heap.size, 0, none⟩ (.string S)).setCell ⟨w.heap.size, 1, none⟩ (.int .i64 kw1)).setCell ⟨w.heap.size, 2, none⟩ (.int .i64 (sN 1 (s)).2)) := ⟨_, rfl⟩
  rw [← HW] at Hw1 ⊢
  clear HW
  obtain ⟨s1, Hs1⟩ : ∃ x, Hid (x = sN 1 s) := ⟨_, rfl⟩
  rw [← Hs1.out] at Hw1
  go_loopw [10] (fun i W => ∃ j : Nat, j ≤ n1 ∧ i = .int .u64 j ∧ ∃ k' ta tc, TQ w W [(w.heap.size + 1 + 1, Obj.cells #[.string ⟨#[]⟩, .int .i64 0, .int .i64 0] 78), (w.heap.size + 1 + 1 + 1, Obj.cells (recC Rc.zero none 0 none 0) 31)] (w.heap.size) (w.heap.size + 1) (w.heap.size + 4) S k' (txsS j s1) { r with txns := txsR j s1 } ta tc none 0) (fun i _ => n1 - (intOf i).toNat)
  case atStart =>
    refine ⟨0, Nat.zero_le _, rfl, kw1, none, 0, ?_⟩
    have := Hw1.out
    rw [show r = { r with txns := [] } by rw [← Hr.out.1]] at this
    exact this
  case round =>
    obtain ⟨j, hj, rfl, k2, ta, tc, hT⟩ := hrel
    clear Hw1
    by_cases hlt : j < n1
    · have hkl : (txsR j s1).length = j := txsR_length j s1
      obtain ⟨X, HX⟩ : ∃ x, Hid (x = txsS j s1) := ⟨_, rfl⟩
      obtain ⟨L, HL⟩ : ∃ x, Hid (x = txsR j s1) := ⟨_, rfl⟩
      rw [← HL.out] at hkl hT
      rw [← HX.out] at hT
      have hLn : L.length < 256 := by omega
      clear hkl
      have c1' := rN_bd 4 X
      have c2' := rN_bd 1 (sN 4 X)
      simp only [Nat.reducePow] at c1' c2'
      have hk2 := hT.qw.le
      have hs2 := hT.qw.at_
      obtain ⟨⟨c0, c1, c2⟩, f0, f1, f2⟩ := hT.qw.cells
      have HT : Hid _ := hT
      clear hT
      go_wp2_with fail
      clear c0 c1 c2 f0 f1 f2
      refine Calls.mono (tk_any S k2 4 (X) _ hS hk2 hs2 (by decide) (by decide)) ?_
      rintro e x1 ⟨kx1, hkx1, hsx1, rfl, hb⟩
      have h := HT.out.call hb
      obtain ⟨⟨c0, c1, c2⟩, f0, f1, f2⟩ := h.qw.cells
      obtain ⟨⟨q0, q1, q2, q3, q4, q5, q6, q7, q8, q9, q10, q11⟩, hf⟩ := rw_cells h.qw.blk
      have Hx1 : Hid _ := h.rset (s' := sN 4 (X)) hkx1 hsx1
      clear h hb
      clear HT
      go_wp2_with fail
      clear c0 c1 c2 f0 f1 f2 q0 q1 q2 q3 q4 q5 q6 q7 q8 q9 q10 q11 hf
      obtain ⟨V2, HW⟩ : ∃ W, W = (((x1.setCell ⟨w.heap.size, 0, none⟩ (.string S)).setCell ⟨w.heap.size, 1, none⟩ (.int .i64 kx1)).setCell ⟨w.heap.size, 2, none⟩ (.int .i64 (sN 4 (X)).2)) := ⟨_, rfl⟩
      rw [← HW] at Hx1 ⊢
      clear HW
      refine Calls.mono (tk_any S kx1 1 (sN 4 X) _ hS hkx1 hsx1 (by decide) (by decide)) ?_
      rintro e x2 ⟨kx2, hkx2, hsx2, rfl, hb⟩
      have h := Hx1.out.call hb
      obtain ⟨⟨c0, c1, c2⟩, f0, f1, f2⟩ := h.qw.cells
      obtain ⟨⟨q0, q1, q2, q3, q4, q5, q6, q7, q8, q9, q10, q11⟩, hf⟩ := rw_cells h.qw.blk
      have Hx2 : Hid _ := h.rset (s' := sN 1 (sN 4 X)) hkx2 hsx2
      clear h hb
      clear Hx1
      go_wp2_with fail
      clear c0 c1 c2 f0 f1 f2 q0 q1 q2 q3 q4 q5 q6 q7 q8 q9 q10 q11 hf
      obtain ⟨V3, HW⟩ : ∃ W, W = (((x2.setCell ⟨w.heap.size, 0, none⟩ (.string S)).setCell ⟨w.heap.size, 1, none⟩ (.int .i64 kx2)).setCell ⟨w.heap.size, 2, none⟩ (.int .i64 (sN 1 (sN 4 X)).2)) := ⟨_, rfl⟩
      rw [← HW] at Hx2 ⊢
      clear HW
      refine Calls.mono (tk_any S kx2 8 (sN 1 (sN 4 X)) _ hS hkx2 hsx2 (by decide) (by decide)) ?_
      rintro e x3 ⟨kx3, hkx3, hsx3, rfl, hb⟩
      have h := Hx2.out.call hb
      obtain ⟨⟨c0, c1, c2⟩, f0, f1, f2⟩ := h.qw.cells
      obtain ⟨⟨q0, q1, q2, q3, q4, q5, q6, q7, q8, q9, q10, q11⟩, hf⟩ := rw_cells h.qw.blk
      have Hx3 : Hid _ := h.rset (s' := sN 8 (sN 1 (sN 4 X))) hkx3 hsx3
      clear h hb
      clear Hx2
      have Hsz : Hid (w.heap.size + 4 ≤ x3.heap.size) := by have := Hx3.out.size; simp [World.setCell] at this; exact this
      have Ho : Hid (World.ownsRow _ (w.heap.size + 4) 71 3 (.slice ta L.length tc) L.length (txsC L)) := (Hx3.out.alloc (.cells #[.int .i64 (rN 4 X : Nat), .int .i64 (rN 1 (sN 4 X) : Nat), .int .u64 (rN 8 (sN 1 (sN 4 X)) : Nat)] 71)).own1
      have Hsz2 : Hid ((((x3.setCell ⟨w.heap.size, 0, none⟩ (.string S)).setCell ⟨w.heap.size, 1, none⟩ (.int .i64 kx3)).setCell ⟨w.heap.size, 2, none⟩ (.int .i64 (sN 8 (sN 1 (sN 4 X))).2)).heap.size = x3.heap.size) := by show _ = _; simp [World.setCell]
      have Hn : Hid (∀ (j : Nat) (u : Value), ([.int .i64 (rN 4 X : Nat), .int .i64 (rN 1 (sN 4 X) : Nat), .int .u64 (rN 8 (sN 1 (sN 4 X)) : Nat)] : List Value)[j]? = some u → ((((x3.setCell ⟨w.heap.size, 0, none⟩ (.string S)).setCell ⟨w.heap.size, 1, none⟩ (.int .i64 kx3)).setCell ⟨w.heap.size, 2, none⟩ (.int .i64 (sN 8 (sN 1 (sN 4 X))).2)).alloc (.cells #[.int .i64 (rN 4 X : Nat), .int .i64 (rN 1 (sN 4 X) : Nat), .int .u64 (rN 8 (sN 1 (sN 4 X)) : Nat)] 71)).cell? ((⟨x3.heap.size, 0, none⟩ : Addr).add j) = some u) := by
        have := three_new (((x3.setCell ⟨w.heap.size, 0, none⟩ (.string S)).setCell ⟨w.heap.size, 1, none⟩ (.int .i64 kx3)).setCell ⟨w.heap.size, 2, none⟩ (.int .i64 (sN 8 (sN 1 (sN 4 X))).2)) (.int .i64 (rN 4 X : Nat)) (.int .i64 (rN 1 (sN 4 X) : Nat)) (.int .u64 (rN 8 (sN 1 (sN 4 X)) : Nat)) 71
        rw [Hsz2.out] at this
        exact this
      have Hbs : Hid (w.heap.size + 4 ≤ ((((x3.setCell ⟨w.heap.size, 0, none⟩ (.string S)).setCell ⟨w.heap.size, 1, none⟩ (.int .i64 kx3)).setCell ⟨w.heap.size, 2, none⟩ (.int .i64 (sN 8 (sN 1 (sN 4 X))).2)).alloc (.cells #[.int .i64 (rN 4 X : Nat), .int .i64 (rN 1 (sN 4 X) : Nat), .int .u64 (rN 8 (sN 1 (sN 4 X)) : Nat)] 71)).heap.size) := by show _ ≤ _; have := Hsz.out; have := Hsz2.out; simp at this ⊢; omega
      clear Hsz2
      go_wp2_with (at_builtin; refine wpList_append_own _ rfl _ _ 28 rfl (w.heap.size + 4) 71 i1 _ 3 24 Try.underlying28 hi1 hz10 hz11 hz12 rfl (by decide) (.slice ta L.length tc) L.length (txsC L) rfl Ho.out ⟨x3.heap.size, 0, none⟩ 1 1 [.int .i64 (rN 4 X : Nat), .int .i64 (rN 1 (sN 4 X) : Nat), .int .u64 (rN 8 (sN 1 (sN 4 X)) : Nat)] rfl rfl Hn.out (by intro u hu; simp at hu; rcases hu with rfl | rfl | rfl <;> rfl) (by unfold maxLen; omega) (by omega) Hbs.out ?_; intro v' y1 hown' hgrow _; obtain ⟨ay, cy, rfl⟩ := ownsRow_shape hown'; have HG : Hid _ := hgrow; have HO : Hid (y1.ownsRow (w.heap.size + 4) 71 3 (.slice ay (L.length + 1) cy) (L.length + 1) _) := hown'; clear hown' hgrow; obtain ⟨⟨_, _, _, _, _, _, _, _, _, _, p10, _⟩, hfy⟩ := rw_cells ((Hx3.out.alloc _).g1 HG.out).blk)
      have HT7 : Hid _ := (Hx3.out.alloc _).txn (t := txR X) HG.out HO.out
      clear HG HO Ho Hn Hbs Hx3
      go_roundw
      case rel =>
        refine ⟨j + 1, by omega, by go_num, kx3, ay, cy, ?_⟩
        show TQ w _ [(w.heap.size + 1 + 1, Obj.cells #[.string ⟨#[]⟩, .int .i64 0, .int .i64 0] 78), (w.heap.size + 1 + 1 + 1, Obj.cells (recC Rc.zero none 0 none 0) 31)] (w.heap.size) (w.heap.size + 1) (w.heap.size + 4) S kx3 (txS (txsS j s1)) { r with txns := txsR j s1 ++ [txR (txsS j s1)] } ay cy none 0
        rw [← HX.out, ← HL.out]
        exact HT7.out
      case measure => simp [intOf]; omega
    · obtain rfl : j = n1 := by omega
      obtain ⟨s2, Hs2⟩ : ∃ x, Hid (x = txsS j s1) := ⟨_, rfl⟩
      obtain ⟨r2, Hr2⟩ : ∃ x : Rc, Hid (x = ({ r with txns := txsR j s1 } : Rc)) := ⟨_, rfl⟩
      rw [← Hs2.out, ← Hr2.out] at hT
      have hd2 : Hid (r2.dirty = []) := by show _ = _; rw [Hr2.out]; exact Hr.out.2
      have b2 := rN_bd 1 s2
      simp only [Nat.reducePow] at b2
      have hk2 := hT.qw.le
      have hs2 := hT.qw.at_
      obtain ⟨⟨c0, c1, c2⟩, f0, f1, f2⟩ := hT.qw.cells
      have HT : Hid _ := hT
      clear hT
      go_wp2_with fail
      clear c0 c1 c2 f0 f1 f2
      refine Calls.mono (tk_any S k2 1 (s2) _ hS hk2 hs2 (by decide) (by decide)) ?_
      rintro e w2 ⟨kw2, hkw2, hsw2, rfl, hb⟩
      have h := HT.out.call hb
      obtain ⟨⟨c0, c1, c2⟩, f0, f1, f2⟩ := h.qw.cells
      obtain ⟨⟨q0, q1, q2, q3, q4, q5, q6, q7, q8, q9, q10, q11⟩, hf⟩ := rw_cells h.qw.blk
      have Hw2 : Hid _ := h.rset (s' := sN 1 (s2)) hkw2 hsw2
      clear h hb
      clear HT
      obtain ⟨n2, Hn2⟩ : ∃ n, Hid (n = rN 1 s2) := ⟨_, rfl⟩
      rw [← Hn2.out] at b2 ⊢
      go_wp2_with fail
      clear c0 c1 c2 f0 f1 f2 q0 q1 q2 q3 q4 q5 q6 q7 q8 q9 q10 q11 hf
      obtain ⟨V4, HW⟩ : ∃ W, W = (((w2.setCell ⟨w.heap.size, 0, none⟩ (.string S)).setCell ⟨w.heap.size, 1, none⟩ (.int .i64 kw2)).setCell ⟨w.heap.size, 2, none⟩ (.int .i64 (sN 1 (s2)).2)) := ⟨_, rfl⟩
      rw [← HW] at Hw2 ⊢
      clear HW
      obtain ⟨s3, Hs3⟩ : ∃ x, Hid (x = sN 1 s2) := ⟨_, rfl⟩
      rw [← Hs3.out] at Hw2
      go_loopw [11] (fun i W => ∃ m : Nat, m ≤ n2 ∧ i = .int .u64 m ∧ ∃ k' da dc, TQ w W [(w.heap.size + 1 + 1, Obj.cells #[.string ⟨#[]⟩, .int .i64 0, .int .i64 0] 78), (w.heap.size + 1 + 1 + 1, Obj.cells (recC Rc.zero none 0 none 0) 31)] (w.heap.size) (w.heap.size + 1) (w.heap.size + 4) S k' (disS m s3) { r2 with dirty := disR m s3 } ta tc da dc) (fun i _ => n2 - (intOf i).toNat)
      case atStart =>
        refine ⟨0, Nat.zero_le _, rfl, kw2, none, 0, ?_⟩
        have := Hw2.out
        rw [show r2 = { r2 with dirty := [] } by rw [← hd2.out]] at this
        exact this
      case round =>
        obtain ⟨m, hm, rfl, k3, da, dc, hT⟩ := hrel
        clear Hw2
        by_cases hlt2 : m < n2
        · have hkl : (disR m s3).length = m := disR_length m s3
          obtain ⟨X, HX⟩ : ∃ x, Hid (x = disS m s3) := ⟨_, rfl⟩
          obtain ⟨L, HL⟩ : ∃ x, Hid (x = disR m s3) := ⟨_, rfl⟩
          rw [← HL.out] at hkl hT
          rw [← HX.out] at hT
          have hLn : L.length < 256 := by omega
          clear hkl
          have c1' := rN_bd 2 X
          simp only [Nat.reducePow] at c1'
          have hk3 := hT.qw.le
          have hs3 := hT.qw.at_
          obtain ⟨⟨c0, c1, c2⟩, f0, f1, f2⟩ := hT.qw.cells
          have HT : Hid _ := hT
          clear hT
          go_wp2_with fail
          clear c0 c1 c2 f0 f1 f2
          refine Calls.mono (tk_any S k3 2 (X) _ hS hk3 hs3 (by decide) (by decide)) ?_
          rintro e x1 ⟨kx1, hkx1, hsx1, rfl, hb⟩
          have h := HT.out.call hb
          obtain ⟨⟨c0, c1, c2⟩, f0, f1, f2⟩ := h.qw.cells
          obtain ⟨⟨q0, q1, q2, q3, q4, q5, q6, q7, q8, q9, q10, q11⟩, hf⟩ := rw_cells h.qw.blk
          have Hx1 : Hid _ := h.rset (s' := sN 2 (X)) hkx1 hsx1
          clear h hb
          clear HT
          go_wp2_with fail
          clear c0 c1 c2 f0 f1 f2 q0 q1 q2 q3 q4 q5 q6 q7 q8 q9 q10 q11 hf
          obtain ⟨V5, HW⟩ : ∃ W, W = (((x1.setCell ⟨w.heap.size, 0, none⟩ (.string S)).setCell ⟨w.heap.size, 1, none⟩ (.int .i64 kx1)).setCell ⟨w.heap.size, 2, none⟩ (.int .i64 (sN 2 (X)).2)) := ⟨_, rfl⟩
          rw [← HW] at Hx1 ⊢
          clear HW
          refine Calls.mono (tk_any S kx1 8 (sN 2 X) _ hS hkx1 hsx1 (by decide) (by decide)) ?_
          rintro e x2 ⟨kx2, hkx2, hsx2, rfl, hb⟩
          have h := Hx1.out.call hb
          obtain ⟨⟨c0, c1, c2⟩, f0, f1, f2⟩ := h.qw.cells
          obtain ⟨⟨q0, q1, q2, q3, q4, q5, q6, q7, q8, q9, q10, q11⟩, hf⟩ := rw_cells h.qw.blk
          have Hx2 : Hid _ := h.rset (s' := sN 8 (sN 2 X)) hkx2 hsx2
          clear h hb
          clear Hx1
          have Hsz : Hid (w.heap.size + 4 ≤ x2.heap.size) := by have := Hx2.out.size; simp [World.setCell] at this; exact this
          have Ho : Hid (World.ownsRow _ (w.heap.size + 4) 73 2 (.slice da L.length dc) L.length (disC L)) := (Hx2.out.alloc (.cells #[.int .i64 (rN 2 X : Nat), .int .u64 (rN 8 (sN 2 X) : Nat)] 73)).own2
          have Hsz2 : Hid ((((x2.setCell ⟨w.heap.size, 0, none⟩ (.string S)).setCell ⟨w.heap.size, 1, none⟩ (.int .i64 kx2)).setCell ⟨w.heap.size, 2, none⟩ (.int .i64 (sN 8 (sN 2 X)).2)).heap.size = x2.heap.size) := by show _ = _; simp [World.setCell]
          have Hn : Hid (∀ (j : Nat) (u : Value), ([.int .i64 (rN 2 X : Nat), .int .u64 (rN 8 (sN 2 X) : Nat)] : List Value)[j]? = some u → ((((x2.setCell ⟨w.heap.size, 0, none⟩ (.string S)).setCell ⟨w.heap.size, 1, none⟩ (.int .i64 kx2)).setCell ⟨w.heap.size, 2, none⟩ (.int .i64 (sN 8 (sN 2 X)).2)).alloc (.cells #[.int .i64 (rN 2 X : Nat), .int .u64 (rN 8 (sN 2 X) : Nat)] 73)).cell? ((⟨x2.heap.size, 0, none⟩ : Addr).add j) = some u) := by
            have := two_new (((x2.setCell ⟨w.heap.size, 0, none⟩ (.string S)).setCell ⟨w.heap.size, 1, none⟩ (.int .i64 kx2)).setCell ⟨w.heap.size, 2, none⟩ (.int .i64 (sN 8 (sN 2 X)).2)) (.int .i64 (rN 2 X : Nat)) (.int .u64 (rN 8 (sN 2 X) : Nat)) 73
            rw [Hsz2.out] at this
            exact this
          have Hbs : Hid (w.heap.size + 4 ≤ ((((x2.setCell ⟨w.heap.size, 0, none⟩ (.string S)).setCell ⟨w.heap.size, 1, none⟩ (.int .i64 kx2)).setCell ⟨w.heap.size, 2, none⟩ (.int .i64 (sN 8 (sN 2 X)).2)).alloc (.cells #[.int .i64 (rN 2 X : Nat), .int .u64 (rN 8 (sN 2 X) : Nat)] 73)).heap.size) := by show _ ≤ _; have := Hsz.out; have := Hsz2.out; simp at this ⊢; omega
          clear Hsz2
          go_wp2_with (at_builtin; refine wpList_append_own _ rfl _ _ 29 rfl (w.heap.size + 4) 73 i2 _ 2 16 Try.underlying29 hi2 hz20 hz21 hz22 rfl (by decide) (.slice da L.length dc) L.length (disC L) rfl Ho.out ⟨x2.heap.size, 0, none⟩ 1 1 [.int .i64 (rN 2 X : Nat), .int .u64 (rN 8 (sN 2 X) : Nat)] rfl rfl Hn.out (by intro u hu; simp at hu; rcases hu with rfl | rfl <;> rfl) (by unfold maxLen; omega) (by omega) Hbs.out ?_; intro v' y1 hown' hgrow _; obtain ⟨ay, cy, rfl⟩ := ownsRow_shape hown'; have HG : Hid _ := hgrow; have HO : Hid (y1.ownsRow (w.heap.size + 4) 73 2 (.slice ay (L.length + 1) cy) (L.length + 1) _) := hown'; clear hown' hgrow; obtain ⟨⟨_, _, _, _, _, _, _, _, _, _, _, p11⟩, hfy⟩ := rw_cells ((Hx2.out.alloc _).g2 HG.out).blk)
          have HT7 : Hid _ := (Hx2.out.alloc _).dir (t := diR X) HG.out HO.out
          clear HG HO Ho Hn Hbs Hx2
          go_roundw
          case rel =>
            refine ⟨m + 1, by omega, by go_num, kx2, ay, cy, ?_⟩
            show TQ w _ [(w.heap.size + 1 + 1, Obj.cells #[.string ⟨#[]⟩, .int .i64 0, .int .i64 0] 78), (w.heap.size + 1 + 1 + 1, Obj.cells (recC Rc.zero none 0 none 0) 31)] (w.heap.size) (w.heap.size + 1) (w.heap.size + 4) S kx2 (diS (disS m s3)) { r2 with dirty := disR m s3 ++ [diR (disS m s3)] } ta tc ay cy
            rw [← HX.out, ← HL.out]
            exact HT7.out
          case measure => simp [intOf]; omega
        · obtain rfl : m = n2 := by omega
          have e1 : tabS s = disS m s3 := by
            unfold tabS
            rw [← Hn1.out, ← Hs1.out, ← Hs2.out, ← Hn2.out, ← Hs3.out]
          have e2 : tabR s r = { r2 with dirty := disR m s3 } := by
            unfold tabR
            rw [← Hn1.out, ← Hs1.out, ← Hs2.out, ← Hn2.out, ← Hs3.out, Hr2.out]
            simp only [Hr.out.1, Hr.out.2, List.nil_append]
          rw [← e1, ← e2] at hT
          clear e1 e2
          obtain ⟨R, HR⟩ : ∃ x, Hid (x = tabR s r) := ⟨_, rfl⟩
          obtain ⟨T, HTs⟩ : ∃ x, Hid (x = tabS s) := ⟨_, rfl⟩
          rw [← HR.out, ← HTs.out] at hT
          obtain ⟨⟨c0, c1, c2⟩, f0, f1, f2⟩ := hT.qw.cells
          obtain ⟨⟨q0, q1, q2, q3, q4, q5, q6, q7, q8, q9, q10, q11⟩, hf⟩ := rw_cells hT.qw.blk
          obtain ⟨⟨z0, z1, z2⟩, g0, g1, g2⟩ := cells3 (hT.qw.zs _ (List.mem_cons_self ..)).1
          obtain ⟨⟨r0, r1, r2', r3, r4, r5, r6, r7, r8, r9, r10, r11⟩, hg⟩ := rw_cells (hT.qw.zs _ (List.mem_cons_of_mem _ (List.mem_cons_self ..))).1
          dsimp only at z0 z1 z2 g0 g1 g2 r0 r1 r2' r3 r4 r5 r6 r7 r8 r9 r10 r11 hg
          have HA : Hid (wr.heap[w.heap.size + 1 + 1]? = _) := (hT.qw.zs _ (List.mem_cons_self ..)).1
          have HC : Hid (wr.heap[w.heap.size + 1 + 1 + 1]? = _) := (hT.qw.zs _ (List.mem_cons_of_mem _ (List.mem_cons_self ..))).1
          have HT : Hid _ := hT
          clear hT
          go_wp2_with fail
          go_region
          all_goals go_wp2
          have hne : w.heap.size + 1 + 1 ≠ w.heap.size + 1 + 1 + 1 := by omega
          refine bodyPost_ret (v := .tuple #[.agg #[.string S, .int .i64 k3, .int .i64 T.2], recV R ta tc da dc]) (results_two rfl _ rfl rfl (fin_ab HA.out HC.out hne).1 (fin_ab HA.out HC.out hne).2) rfl ?_
          rw [← HR.out, ← HTs.out]
          refine ⟨k3, ta, tc, da, dc, HT.out.qw.le, HT.out.qw.at_, rfl, ?_, ?_, ?_⟩
          · exact (ownsRow_base (set12_own _ _ _ _ _ _ _ _ _ _ _ _ (own_set (own_set (own_set HT.out.own1 (by omega)) (by omega)) (by omega)) (by omega)) (by omega)).drew
          · exact (ownsRow_base (set12_own _ _ _ _ _ _ _ _ _ _ _ _ (own_set (own_set (own_set HT.out.own2 (by omega)) (by omega)) (by omega)) (by omega)) (by omega)).drew
          · exact (set12_below _ _ _ _ _ _ _ _ _ _ _ _ (below_set (below_set (below_set HT.out.qw.bel (by omega)) (by omega)) (by omega)) (by omega)).drew

end Go.Proofs.Ytjhjicokbdloiaa
