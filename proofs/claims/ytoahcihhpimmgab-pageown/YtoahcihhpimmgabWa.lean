/-
  PageOwn: what was told is written over.
-/
import Derived.Test.YtoahcihhpimmgabNl
import Derived.Test.YtoahcihhpimmgabSs
namespace Go.Proofs.Ytoahcihhpimmgab
open Go.RowKit

theorem own_addr {w : World} {B e size n c : Nat} {a : Option Addr} {xs : List Value} (h : w.ownsRow B e size (.slice a n c) n xs) : (a = none ∧ n = 0 ∧ c = 0) ∨ ∃ g cur, a = some ⟨g, 0, none⟩ ∧ B ≤ g ∧ w.heap[g]? = some (.cells cur e) ∧ n ≤ c ∧ cur.size = c * size := by
  rcases h.2 with ⟨e1, e2⟩ | ⟨g, cap, cur, e1, h1, h2, h3, _, h5, _⟩
  · simp at e1
    exact .inl ⟨e1.1, e2, e1.2.2⟩
  · simp at e1
    obtain ⟨rfl, rfl⟩ := e1
    exact .inr ⟨g, cur, rfl, h1, h2, h3, h5⟩
theorem kind_ne {w : World} {k q e t : Nat} {c d : Array Value} (h1 : w.heap[k]? = some (Obj.cells c e)) (h2 : w.heap[q]? = some (Obj.cells d t)) (hne : e ≠ t) : k ≠ q := by
  intro h
  subst h
  rw [h1] at h2
  simp at h2
  exact hne h2.2
theorem cell_of {W : World} {g t i : Nat} {cs : Array Value} (h : W.heap[g]? = some (.cells cs t)) (hi : i < cs.size) : (∃ v, W.cell? ⟨g, i, none⟩ = some v) ∧ W.frozen? ⟨g, i, none⟩ = false := ⟨⟨cs[i], by simp [World.cell?, h, hi]⟩, by simp [World.frozen?, h]⟩

/-- A row from block E on that may be written. -/
def Wr (E : Nat) (W : World) (a : Option Addr) (e n : Nat) : Prop := 0 < n → ∃ g cs, a = some ⟨g, 0, none⟩ ∧ E ≤ g ∧ W.heap[g]? = some (.cells cs e) ∧ n ≤ cs.size
theorem own_wr {W : World} {E B e size n c : Nat} {a : Option Addr} {xs : List Value} (h : W.ownsRow B e size (.slice a n c) n xs) (hE : E ≤ B) : Wr E W a e (n * size) := fun hn => by
  rcases own_addr h with ⟨_, e1, _⟩ | ⟨g, cur, rfl, hb, hg, h1, h2⟩
  · rw [e1] at hn; simp at hn
  · exact ⟨g, cur, rfl, by omega, hg, by rw [h2]; exact Nat.mul_le_mul_right _ h1⟩
theorem Wr.set {E : Nat} {W : World} {a : Option Addr} {e n g t : Nat} {cs : Array Value} (h : Wr E W a e n) (hg : W.heap[g]? = some (.cells cs t)) (i : Nat) (v : Value) : Wr E (W.setCell ⟨g, i, none⟩ v) a e n := fun hn => by
  obtain ⟨g', cs', h1, h0, h2, h3⟩ := h hn
  by_cases e' : g' = g
  · subst e'
    exact ⟨g', _, h1, h0, heap_setCell_same _ _ _ _ _ _ h2, by simpa using h3⟩
  · exact ⟨g', cs', h1, h0, by rw [heap_setCell_other _ _ _ _ e']; exact h2, h3⟩
theorem Wr.below {E D : Nat} {W W' : World} {a : Option Addr} {e n : Nat} (h : Wr E W a e n) (hb : Below D W W') (hD : W.heap.size ≤ D) : Wr E W' a e n := fun hn => by
  obtain ⟨g, cs, h1, h0, h2, h3⟩ := h hn
  exact ⟨g, cs, h1, h0, (hb.block g (by have := (Array.getElem?_eq_some_iff.1 h2).1; omega)).trans h2, h3⟩

/-- Bytes, whatever they are. -/
def Bz (W : World) (G : Nat) : Prop := ∃ cs : Array Value, W.heap[G]? = some (.cells cs 5) ∧ cs.size = 512 ∧ ∀ j, j < 512 → ∃ z : Int, cs[j]? = some (.int .u8 z)
theorem Bz.of {W : World} {G : Nat} {L : List UInt8} (h : Buf W G L) (hl : L.length = 512) : Bz W G :=
  ⟨_, h, by simp [bcells, hl], fun j hj => ⟨(L[j]'(by omega)).toNat, by simp [bcells, hl, hj]⟩⟩
theorem Bz.below {D : Nat} {W W' : World} {G : Nat} (h : Bz W G) (hb : Below D W W') (hD : W.heap.size ≤ D) : Bz W' G := by
  obtain ⟨cs, h1, h2, h3⟩ := h
  exact ⟨cs, (hb.block G (by have := (Array.getElem?_eq_some_iff.1 h1).1; omega)).trans h1, h2, h3⟩

/-- The memory in which what was told is written over. -/
structure M3 (w4 : World) (G : Nat) (ac : Option Addr) (lc : Nat) (ad : Option Addr) (ld : Nat) (W : World) : Prop where
  hG : w4.heap.size ≤ G
  bel : Below w4.heap.size w4 W
  b : Bz W G
  c : Wr w4.heap.size W ac 38 (lc * 3)
  d : Wr w4.heap.size W ad 40 (ld * 2)
theorem M3.setB {w4 W : World} {G : Nat} {ac ad : Option Addr} {lc ld : Nat} (h : M3 w4 G ac lc ad ld W) (i : Nat) (z : Int) : M3 w4 G ac lc ad ld (W.setCell ⟨G, i, none⟩ (.int .u8 z)) := by
  obtain ⟨cs, h1, h2, h3⟩ := h.b
  refine ⟨h.hG, h.bel.setCell (p := ⟨G, i, none⟩) h.hG _, ⟨_, heap_setCell_same _ _ _ _ _ _ h1, by simpa using h2, fun j hj => ?_⟩, h.c.set h1 _ _, h.d.set h1 _ _⟩
  by_cases e : i = j
  · subst e
    exact ⟨z, by simp [h2, hj]⟩
  · obtain ⟨y, hy⟩ := h3 j hj
    exact ⟨y, by rw [Array.getElem?_setIfInBounds_ne e]; exact hy⟩
theorem M3.set {w4 W : World} {G g t i : Nat} {ac ad : Option Addr} {lc ld : Nat} {cs : Array Value} (h : M3 w4 G ac lc ad ld W) (hg : W.heap[g]? = some (.cells cs t)) (ht : t ≠ 5) (hE : w4.heap.size ≤ g) (v : Value) : M3 w4 G ac lc ad ld (W.setCell ⟨g, i, none⟩ v) := by
  obtain ⟨cs', h1, h2, h3⟩ := h.b
  exact ⟨h.hG, h.bel.setCell (p := ⟨g, i, none⟩) hE _, ⟨cs', by rw [heap_setCell_other _ _ _ _ (kind_ne h1 hg (fun e => ht e.symm))]; exact h1, h2, h3⟩, h.c.set hg _ _, h.d.set hg _ _⟩

structure Sl3 (B0 p q G : Nat) (was : ByteArray) (ac : Option Addr) (lc cc : Nat) (ad : Option Addr) (ld cd : Nat) (u : Nat → Value) : Prop where
  h5 : u 5 = .pointer (some ⟨B0, 0, none⟩)
  h7 : u 7 = .pointer (some ⟨p, 0, none⟩)
  h8 : u 8 = .string was
  h9 : u 9 = .pointer (some ⟨q, 0, none⟩)
  h10 : u 10 = .slice (some ⟨G, 0, none⟩) 512 512
  h11 : u 11 = .slice ac lc cc
  h12 : u 12 = .slice ad ld cd

noncomputable def loop3 (k : Nat) : Code := (((Try.f3.body.map loopsOf).getD [])[k]?).getD .skip
def I3 (k : Nat) (w4 : World) (B0 p q G : Nat) (was : ByteArray) (ac : Option Addr) (lc cc : Nat) (ad : Option Addr) (ld cd : Nat) (i : Nat) (A : Act) (W : World) : Prop :=
  ∃ u : Nat → Value, A = frameN 173 u ∧ Sl3 B0 p q G was ac lc cc ad ld cd u ∧ u k = .int .i64 (i : Nat) ∧ M3 w4 G ac lc ad ld W
theorem wp173 {c : Code} {Q : Exit → Act → World → Prop} {A : Act} {w : World} (hs : A.tmps.size = 173) (hd : A.defers = []) (h : c.wp Try.prog Q (frameN 173 fun i => A.tmps.getD i undef) w) : c.wp Try.prog Q A w := by
  rw [frameN_lit 173 A hs hd]; exact h

set_option maxRecDepth 100000 in
set_option maxHeartbeats 3000000 in
theorem round3a (w4 : World) (B0 p q G : Nat) (was : ByteArray) (ac : Option Addr) (lc cc : Nat) (ad : Option Addr) (ld cd : Nat) (i : Nat) (hi : i < 512) (_hL : 512 ≤ 1000000) (u : Nat → Value) (wr : World) (hu : Sl3 B0 p q G was ac lc cc ad ld cd u) (hk : u 13 = .int .i64 (i : Nat)) (hM : M3 w4 G ac lc ad ld wr) (Q0 : Exit → Act → World → Prop) :
    Code.wp Try.prog (loop3 0) (Exit.then (fun A W => I3 13 w4 B0 p q G was ac lc cc ad ld cd (i + 1) A W) Q0) (frameN 173 u) wr := by
  obtain ⟨h5, h7, h8, h9, h10, h11, h12⟩ := hu
  obtain ⟨cs, hb1, hb2, hb3⟩ := hM.b
  obtain ⟨z, hz⟩ := hb3 i hi
  have c0 : wr.cell? ⟨G, i, none⟩ = some (.int .u8 z) := by simp [World.cell?, hb1, hz]
  have f0 : wr.frozen? ⟨G, i, none⟩ = false := by simp [World.frozen?, hb1]
  have HM : Hid (∀ z : Int, M3 w4 G ac lc ad ld (wr.setCell ⟨G, i, none⟩ (.int .u8 z))) := fun z => hM.setB i z
  clear hb1 hb2 hb3 hz hM
  rw [frame_open173, h5, h7, h8, h9, h10, h11, h12, hk]
  clear h5 h7 h8 h9 h10 h11 h12 hk
  have HF : Hid (∀ (A : Act) (W : World), A.tmps.size = 173 → A.defers = [] → Sl3 B0 p q G was ac lc cc ad ld cd (fun i => A.tmps.getD i undef) → A.tmps.getD 13 undef = .int .i64 ((i + 1 : Nat) : Int) → M3 w4 G ac lc ad ld W → Exit.then (fun A W => I3 13 w4 B0 p q G was ac lc cc ad ld cd (i + 1) A W) Q0 .normal A W) := by
    intro A W hs hd hS hk hM
    exact ⟨_, frameN_lit 173 A hs hd, hS, hk, hM⟩
  generalize (Exit.then (fun A W => I3 13 w4 B0 p q G was ac lc cc ad ld cd (i + 1) A W) Q0) = QA at HF ⊢
  have e1 : (i : Int) < 512 := by omega
  have e2 : 0 ≤ (i : Int) := by omega
  unfold loop3
  conv => arg 2; whnf
  go_wp2_with fail
  exact HF.out _ _ rfl rfl ⟨rfl, rfl, rfl, rfl, rfl, rfl, rfl⟩ (by show Value.int .i64 _ = _; simp) (HM.out _)

set_option maxRecDepth 100000 in
theorem exit3a (_w4 : World) (B0 p q G : Nat) (was : ByteArray) (ac : Option Addr) (lc cc : Nat) (ad : Option Addr) (ld cd : Nat) (i : Nat) (hi : ¬ i < 512) (u : Nat → Value) (wr : World) (hu : Sl3 B0 p q G was ac lc cc ad ld cd u) (hk : u 13 = .int .i64 (i : Nat)) (Q0 : Exit → Act → World → Prop) (R : Act → World → Prop)
    (hexit : ∀ u' : Nat → Value, Sl3 B0 p q G was ac lc cc ad ld cd u' → Q0 (.exit 0) (frameN 173 u') wr) : Code.wp Try.prog (loop3 0) (Exit.then R Q0) (frameN 173 u) wr := by
  obtain ⟨h5, h7, h8, h9, h10, h11, h12⟩ := hu
  have HX := toHid hexit
  clear hexit
  rw [frame_open173, h5, h7, h8, h9, h10, h11, h12, hk]
  clear h5 h7 h8 h9 h10 h11 h12 hk
  have e1 : ¬ (i : Int) < 512 := by omega
  unfold loop3
  conv => arg 2; whnf
  go_wp2_with fail
  rw [frameN_lit 173 ⟨_, _⟩ rfl rfl]
  exact HX.out _ ⟨rfl, rfl, rfl, rfl, rfl, rfl, rfl⟩

theorem loop3a_wp (w4 : World) (B0 p q G : Nat) (was : ByteArray) (ac : Option Addr) (lc cc : Nat) (ad : Option Addr) (ld cd : Nat) (hL : 512 ≤ 1000000) (u : Nat → Value) (W : World) (hu : Sl3 B0 p q G was ac lc cc ad ld cd u) (hk : u 13 = .int .i64 0) (hM : M3 w4 G ac lc ad ld W) (Q0 : Exit → Act → World → Prop)
    (hexit : ∀ (u' : Nat → Value) (W' : World), Sl3 B0 p q G was ac lc cc ad ld cd u' → M3 w4 G ac lc ad ld W' → Q0 (.exit 0) (frameN 173 u') W') : Code.wp Try.prog (Code.loop (loop3 0)) Q0 (frameN 173 u) W := by
  refine wp_loop (fun A w' => ∃ j, j ≤ 512 ∧ I3 13 w4 B0 p q G was ac lc cc ad ld cd j A w') (fun A _ => 512 - (intOf (A.tmps.getD 13 undef)).toNat) ⟨0, by omega, u, rfl, hu, hk, hM⟩ ?_
  rintro A w' ⟨j, hjl, u', rfl, hu', hk', hM'⟩
  by_cases hj : j < 512
  · refine Code.wp_mono ?_ (round3a w4 B0 p q G was ac lc cc ad ld cd j hj hL u' w' hu' hk' hM' Q0)
    intro e A w'' h'
    cases e <;> first | exact h' | skip
    refine ⟨⟨j + 1, by omega, h'⟩, ?_⟩
    obtain ⟨u'', rfl, hu'', hk'', _⟩ := h'
    show 512 - (intOf (u'' 13)).toNat < 512 - (intOf (u' 13)).toNat
    rw [hk'', hk']
    simp only [intOf]
    omega
  · exact exit3a w4 B0 p q G was ac lc cc ad ld cd j hj u' w' hu' hk' Q0 _ (fun u'' k => hexit u'' w' k hM')

set_option maxRecDepth 100000 in
set_option maxHeartbeats 3000000 in
theorem round3b (w4 : World) (B0 p q G : Nat) (was : ByteArray) (ac : Option Addr) (lc cc : Nat) (ad : Option Addr) (ld cd : Nat) (i : Nat) (hi : i < lc) (_hL : lc ≤ 1000000) (u : Nat → Value) (wr : World) (hu : Sl3 B0 p q G was ac lc cc ad ld cd u) (hk : u 14 = .int .i64 (i : Nat)) (hM : M3 w4 G ac lc ad ld wr) (Q0 : Exit → Act → World → Prop) :
    Code.wp Try.prog (loop3 1) (Exit.then (fun A W => I3 14 w4 B0 p q G was ac lc cc ad ld cd (i + 1) A W) Q0) (frameN 173 u) wr := by
  obtain ⟨h5, h7, h8, h9, h10, h11, h12⟩ := hu
  obtain ⟨g, cs, rfl, hE, hg, hsz⟩ := hM.c (by omega)
  obtain ⟨⟨v0, c0⟩, f0⟩ := cell_of hg (i := i * 3) (by omega)
  obtain ⟨⟨v1, c1⟩, f1⟩ := cell_of hg (i := i * 3 + 1) (by omega)
  obtain ⟨⟨v2, c2⟩, f2⟩ := cell_of hg (i := i * 3 + 2) (by omega)
  have HM : Hid (∀ x y z : Value, M3 w4 G (some ⟨g, 0, none⟩) lc ad ld (((wr.setCell ⟨g, i * 3, none⟩ x).setCell ⟨g, i * 3 + 1, none⟩ y).setCell ⟨g, i * 3 + 2, none⟩ z)) := fun x y z =>
    ((hM.set hg (by decide) hE x).set (heap_setCell_same _ _ _ _ _ _ hg) (by decide) hE y).set (heap_setCell_same _ _ _ _ _ _ (heap_setCell_same _ _ _ _ _ _ hg)) (by decide) hE z
  clear hg hsz hM hE
  rw [frame_open173, h5, h7, h8, h9, h10, h11, h12, hk]
  clear h5 h7 h8 h9 h10 h11 h12 hk
  have HF : Hid (∀ (A : Act) (W : World), A.tmps.size = 173 → A.defers = [] → Sl3 B0 p q G was (some ⟨g, 0, none⟩) lc cc ad ld cd (fun i => A.tmps.getD i undef) → A.tmps.getD 14 undef = .int .i64 ((i + 1 : Nat) : Int) → M3 w4 G (some ⟨g, 0, none⟩) lc ad ld W → Exit.then (fun A W => I3 14 w4 B0 p q G was (some ⟨g, 0, none⟩) lc cc ad ld cd (i + 1) A W) Q0 .normal A W) := by
    intro A W hs hd hS hk hM
    exact ⟨_, frameN_lit 173 A hs hd, hS, hk, hM⟩
  generalize (Exit.then (fun A W => I3 14 w4 B0 p q G was (some ⟨g, 0, none⟩) lc cc ad ld cd (i + 1) A W) Q0) = QA at HF ⊢
  have e1 : (i : Int) < (lc : Int) := by omega
  have e2 : 0 ≤ (i : Int) := by omega
  unfold loop3
  conv => arg 2; whnf
  go_wp2_with fail
  exact HF.out _ _ rfl rfl ⟨rfl, rfl, rfl, rfl, rfl, rfl, rfl⟩ (by show Value.int .i64 _ = _; simp) (HM.out _ _ _)

set_option maxRecDepth 100000 in
theorem exit3b (_w4 : World) (B0 p q G : Nat) (was : ByteArray) (ac : Option Addr) (lc cc : Nat) (ad : Option Addr) (ld cd : Nat) (i : Nat) (hi : ¬ i < lc) (u : Nat → Value) (wr : World) (hu : Sl3 B0 p q G was ac lc cc ad ld cd u) (hk : u 14 = .int .i64 (i : Nat)) (Q0 : Exit → Act → World → Prop) (R : Act → World → Prop)
    (hexit : ∀ u' : Nat → Value, Sl3 B0 p q G was ac lc cc ad ld cd u' → Q0 (.exit 2) (frameN 173 u') wr) : Code.wp Try.prog (loop3 1) (Exit.then R Q0) (frameN 173 u) wr := by
  obtain ⟨h5, h7, h8, h9, h10, h11, h12⟩ := hu
  have HX := toHid hexit
  clear hexit
  rw [frame_open173, h5, h7, h8, h9, h10, h11, h12, hk]
  clear h5 h7 h8 h9 h10 h11 h12 hk
  have e1 : ¬ (i : Int) < (lc : Int) := by omega
  unfold loop3
  conv => arg 2; whnf
  go_wp2_with fail
  rw [frameN_lit 173 ⟨_, _⟩ rfl rfl]
  exact HX.out _ ⟨rfl, rfl, rfl, rfl, rfl, rfl, rfl⟩

theorem loop3b_wp (w4 : World) (B0 p q G : Nat) (was : ByteArray) (ac : Option Addr) (lc cc : Nat) (ad : Option Addr) (ld cd : Nat) (hL : lc ≤ 1000000) (u : Nat → Value) (W : World) (hu : Sl3 B0 p q G was ac lc cc ad ld cd u) (hk : u 14 = .int .i64 0) (hM : M3 w4 G ac lc ad ld W) (Q0 : Exit → Act → World → Prop)
    (hexit : ∀ (u' : Nat → Value) (W' : World), Sl3 B0 p q G was ac lc cc ad ld cd u' → M3 w4 G ac lc ad ld W' → Q0 (.exit 2) (frameN 173 u') W') : Code.wp Try.prog (Code.loop (loop3 1)) Q0 (frameN 173 u) W := by
  refine wp_loop (fun A w' => ∃ j, j ≤ lc ∧ I3 14 w4 B0 p q G was ac lc cc ad ld cd j A w') (fun A _ => lc - (intOf (A.tmps.getD 14 undef)).toNat) ⟨0, by omega, u, rfl, hu, hk, hM⟩ ?_
  rintro A w' ⟨j, hjl, u', rfl, hu', hk', hM'⟩
  by_cases hj : j < lc
  · refine Code.wp_mono ?_ (round3b w4 B0 p q G was ac lc cc ad ld cd j hj hL u' w' hu' hk' hM' Q0)
    intro e A w'' h'
    cases e <;> first | exact h' | skip
    refine ⟨⟨j + 1, by omega, h'⟩, ?_⟩
    obtain ⟨u'', rfl, hu'', hk'', _⟩ := h'
    show lc - (intOf (u'' 14)).toNat < lc - (intOf (u' 14)).toNat
    rw [hk'', hk']
    simp only [intOf]
    omega
  · exact exit3b w4 B0 p q G was ac lc cc ad ld cd j hj u' w' hu' hk' Q0 _ (fun u'' k => hexit u'' w' k hM')

set_option maxRecDepth 100000 in
set_option maxHeartbeats 3000000 in
theorem round3c (w4 : World) (B0 p q G : Nat) (was : ByteArray) (ac : Option Addr) (lc cc : Nat) (ad : Option Addr) (ld cd : Nat) (i : Nat) (hi : i < ld) (_hL : ld ≤ 1000000) (u : Nat → Value) (wr : World) (hu : Sl3 B0 p q G was ac lc cc ad ld cd u) (hk : u 15 = .int .i64 (i : Nat)) (hM : M3 w4 G ac lc ad ld wr) (Q0 : Exit → Act → World → Prop) :
    Code.wp Try.prog (loop3 2) (Exit.then (fun A W => I3 15 w4 B0 p q G was ac lc cc ad ld cd (i + 1) A W) Q0) (frameN 173 u) wr := by
  obtain ⟨h5, h7, h8, h9, h10, h11, h12⟩ := hu
  obtain ⟨g, cs, rfl, hE, hg, hsz⟩ := hM.d (by omega)
  obtain ⟨⟨v0, c0⟩, f0⟩ := cell_of hg (i := i * 2) (by omega)
  obtain ⟨⟨v1, c1⟩, f1⟩ := cell_of hg (i := i * 2 + 1) (by omega)
  have HM : Hid (∀ x y : Value, M3 w4 G ac lc (some ⟨g, 0, none⟩) ld ((wr.setCell ⟨g, i * 2, none⟩ x).setCell ⟨g, i * 2 + 1, none⟩ y)) := fun x y =>
    (hM.set hg (by decide) hE x).set (heap_setCell_same _ _ _ _ _ _ hg) (by decide) hE y
  clear hg hsz hM hE
  rw [frame_open173, h5, h7, h8, h9, h10, h11, h12, hk]
  clear h5 h7 h8 h9 h10 h11 h12 hk
  have HF : Hid (∀ (A : Act) (W : World), A.tmps.size = 173 → A.defers = [] → Sl3 B0 p q G was ac lc cc (some ⟨g, 0, none⟩) ld cd (fun i => A.tmps.getD i undef) → A.tmps.getD 15 undef = .int .i64 ((i + 1 : Nat) : Int) → M3 w4 G ac lc (some ⟨g, 0, none⟩) ld W → Exit.then (fun A W => I3 15 w4 B0 p q G was ac lc cc (some ⟨g, 0, none⟩) ld cd (i + 1) A W) Q0 .normal A W) := by
    intro A W hs hd hS hk hM
    exact ⟨_, frameN_lit 173 A hs hd, hS, hk, hM⟩
  generalize (Exit.then (fun A W => I3 15 w4 B0 p q G was ac lc cc (some ⟨g, 0, none⟩) ld cd (i + 1) A W) Q0) = QA at HF ⊢
  have e1 : (i : Int) < (ld : Int) := by omega
  have e2 : 0 ≤ (i : Int) := by omega
  unfold loop3
  conv => arg 2; whnf
  go_wp2_with fail
  exact HF.out _ _ rfl rfl ⟨rfl, rfl, rfl, rfl, rfl, rfl, rfl⟩ (by show Value.int .i64 _ = _; simp) (HM.out _ _)

set_option maxRecDepth 100000 in
theorem exit3c (_w4 : World) (B0 p q G : Nat) (was : ByteArray) (ac : Option Addr) (lc cc : Nat) (ad : Option Addr) (ld cd : Nat) (i : Nat) (hi : ¬ i < ld) (u : Nat → Value) (wr : World) (hu : Sl3 B0 p q G was ac lc cc ad ld cd u) (hk : u 15 = .int .i64 (i : Nat)) (Q0 : Exit → Act → World → Prop) (R : Act → World → Prop)
    (hexit : ∀ u' : Nat → Value, Sl3 B0 p q G was ac lc cc ad ld cd u' → Q0 (.exit 4) (frameN 173 u') wr) : Code.wp Try.prog (loop3 2) (Exit.then R Q0) (frameN 173 u) wr := by
  obtain ⟨h5, h7, h8, h9, h10, h11, h12⟩ := hu
  have HX := toHid hexit
  clear hexit
  rw [frame_open173, h5, h7, h8, h9, h10, h11, h12, hk]
  clear h5 h7 h8 h9 h10 h11 h12 hk
  have e1 : ¬ (i : Int) < (ld : Int) := by omega
  unfold loop3
  conv => arg 2; whnf
  go_wp2_with fail
  rw [frameN_lit 173 ⟨_, _⟩ rfl rfl]
  exact HX.out _ ⟨rfl, rfl, rfl, rfl, rfl, rfl, rfl⟩

theorem loop3c_wp (w4 : World) (B0 p q G : Nat) (was : ByteArray) (ac : Option Addr) (lc cc : Nat) (ad : Option Addr) (ld cd : Nat) (hL : ld ≤ 1000000) (u : Nat → Value) (W : World) (hu : Sl3 B0 p q G was ac lc cc ad ld cd u) (hk : u 15 = .int .i64 0) (hM : M3 w4 G ac lc ad ld W) (Q0 : Exit → Act → World → Prop)
    (hexit : ∀ (u' : Nat → Value) (W' : World), Sl3 B0 p q G was ac lc cc ad ld cd u' → M3 w4 G ac lc ad ld W' → Q0 (.exit 4) (frameN 173 u') W') : Code.wp Try.prog (Code.loop (loop3 2)) Q0 (frameN 173 u) W := by
  refine wp_loop (fun A w' => ∃ j, j ≤ ld ∧ I3 15 w4 B0 p q G was ac lc cc ad ld cd j A w') (fun A _ => ld - (intOf (A.tmps.getD 15 undef)).toNat) ⟨0, by omega, u, rfl, hu, hk, hM⟩ ?_
  rintro A w' ⟨j, hjl, u', rfl, hu', hk', hM'⟩
  by_cases hj : j < ld
  · refine Code.wp_mono ?_ (round3c w4 B0 p q G was ac lc cc ad ld cd j hj hL u' w' hu' hk' hM' Q0)
    intro e A w'' h'
    cases e <;> first | exact h' | skip
    refine ⟨⟨j + 1, by omega, h'⟩, ?_⟩
    obtain ⟨u'', rfl, hu'', hk'', _⟩ := h'
    show ld - (intOf (u'' 15)).toNat < ld - (intOf (u' 15)).toNat
    rw [hk'', hk']
    simp only [intOf]
    omega
  · exact exit3c w4 B0 p q G was ac lc cc ad ld cd j hj u' w' hu' hk' Q0 _ (fun u'' k => hexit u'' w' k hM')

end Go.Proofs.Ytoahcihhpimmgab
