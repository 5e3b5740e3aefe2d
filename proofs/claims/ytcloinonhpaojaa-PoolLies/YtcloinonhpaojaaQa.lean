/-
  A pool and its store in memory: what lies where, and what a change of one of them leaves.
-/
import Derived.Test.YtcloinonhpaojaaPi
import Derived.Test.YtcloinonhpaojaaMb
import Derived.Deep.Onto
import Derived.Lib.OwnKind
namespace Go.Proofs.Ytcloinonhpaojaa
open Go.RowKit

theorem toHid {p : Prop} (h : p) : Hid p := h
theorem blk_lt {w : World} {p : Nat} {o : Obj} (h : w.heap[p]? = some o) : p < w.heap.size := (Array.getElem?_eq_some_iff.mp h).1

/-- What a pool has: its ring, where that lies, and of each id the page's place, whether it is dirty, and its rec. -/
structure Po where
  r : Ck.Rg
  a : Option Addr
  c : Nat
  P : Nat → Option Addr
  D : Nat → Bool
  R : Nat → Nat

/-- The cells of a pool. -/
structure PoM (M : Array Value) (st : Value) (s : Po) : Prop where
  size : M.size = 51
  st : M[0]? = some st
  sl : M[1]? = some (.slice s.a s.r.fr.length s.c)
  hd : M[2]? = some (.int .i64 s.r.hand)
  pt : ∀ i, i < 16 → M[3 + i * 3]? = some (.pointer (s.P i))
  dt : ∀ i, i < 16 → M[3 + i * 3 + 1]? = some (.bool (s.D i))
  rc : ∀ i, i < 16 → M[3 + i * 3 + 2]? = some (.int .u64 (s.R i : Int))

def upd {α : Type} (f : Nat → α) (i : Nat) (x : α) : Nat → α := fun j => if j = i then x else f j
theorem upd_self {α : Type} (f : Nat → α) (i : Nat) (x : α) : upd f i x i = x := by simp [upd]
theorem upd_ne {α : Type} (f : Nat → α) {i j : Nat} (x : α) (h : j ≠ i) : upd f i x j = f j := by simp [upd, h]

theorem PoM.ring {M : Array Value} {st : Value} {s : Po} (h : PoM M st s) (r : Ck.Rg) (a : Option Addr) (c : Nat) :
    PoM ((M.setIfInBounds 1 (.slice a r.fr.length c)).setIfInBounds 2 (.int .i64 r.hand)) st { s with r := r, a := a, c := c } := by
  have hs := h.size
  refine ⟨by simp [hs], ?_, ?_, ?_, fun i hi => ?_, fun i hi => ?_, fun i hi => ?_⟩
  · simpa [Array.getElem?_setIfInBounds] using h.st
  · simp [hs]
  · simp [hs]
  · rw [Array.getElem?_setIfInBounds, if_neg (by omega), Array.getElem?_setIfInBounds, if_neg (by omega)]; exact h.pt i hi
  · rw [Array.getElem?_setIfInBounds, if_neg (by omega), Array.getElem?_setIfInBounds, if_neg (by omega)]; exact h.dt i hi
  · rw [Array.getElem?_setIfInBounds, if_neg (by omega), Array.getElem?_setIfInBounds, if_neg (by omega)]; exact h.rc i hi
theorem PoM.dirt {M : Array Value} {st : Value} {s : Po} (h : PoM M st s) (i : Nat) (hi : i < 16) (b : Bool) (n : Nat) :
    PoM ((M.setIfInBounds (3 + i * 3 + 1) (.bool b)).setIfInBounds (3 + i * 3 + 2) (.int .u64 (n : Int))) st { s with D := upd s.D i b, R := upd s.R i n } := by
  have hs := h.size
  refine ⟨by simp [hs], ?_, ?_, ?_, fun j hj => ?_, fun j hj => ?_, fun j hj => ?_⟩
  · rw [Array.getElem?_setIfInBounds, if_neg (by omega), Array.getElem?_setIfInBounds, if_neg (by omega)]; exact h.st
  · rw [Array.getElem?_setIfInBounds, if_neg (by omega), Array.getElem?_setIfInBounds, if_neg (by omega)]; exact h.sl
  · rw [Array.getElem?_setIfInBounds, if_neg (by omega), Array.getElem?_setIfInBounds, if_neg (by omega)]; exact h.hd
  · rw [Array.getElem?_setIfInBounds, if_neg (by omega), Array.getElem?_setIfInBounds, if_neg (by omega)]; exact h.pt j hj
  · rw [Array.getElem?_setIfInBounds, if_neg (by omega)]
    by_cases e : j = i
    · subst e
      rw [Array.getElem?_setIfInBounds, if_pos rfl, if_pos (by omega)]
      simp only [upd_self]
    · rw [Array.getElem?_setIfInBounds, if_neg (by omega)]
      simp only [upd_ne _ _ e]
      exact h.dt j hj
  · by_cases e : j = i
    · subst e
      rw [Array.getElem?_setIfInBounds, if_pos rfl, if_pos (by simp; omega)]
      simp only [upd_self]
    · rw [Array.getElem?_setIfInBounds, if_neg (by omega), Array.getElem?_setIfInBounds, if_neg (by omega)]
      simp only [upd_ne _ _ e]
      exact h.rc j hj
theorem PoM.held {M : Array Value} {st : Value} {s : Po} (h : PoM M st s) (i : Nat) (hi : i < 16) (q : Option Addr) (b : Bool) (n : Nat) :
    PoM (((M.setIfInBounds (3 + i * 3) (.pointer q)).setIfInBounds (3 + i * 3 + 1) (.bool b)).setIfInBounds (3 + i * 3 + 2) (.int .u64 (n : Int))) st { s with P := upd s.P i q, D := upd s.D i b, R := upd s.R i n } := by
  have hs := h.size
  have h1 : PoM (M.setIfInBounds (3 + i * 3) (.pointer q)) st { s with P := upd s.P i q } := by
    refine ⟨by simp [hs], ?_, ?_, ?_, fun j hj => ?_, fun j hj => ?_, fun j hj => ?_⟩
    · rw [Array.getElem?_setIfInBounds, if_neg (by omega)]; exact h.st
    · rw [Array.getElem?_setIfInBounds, if_neg (by omega)]; exact h.sl
    · rw [Array.getElem?_setIfInBounds, if_neg (by omega)]; exact h.hd
    · by_cases e : j = i
      · subst e
        rw [Array.getElem?_setIfInBounds, if_pos rfl, if_pos (by omega)]
        simp only [upd_self]
      · rw [Array.getElem?_setIfInBounds, if_neg (by omega)]
        simp only [upd_ne _ _ e]
        exact h.pt j hj
    · rw [Array.getElem?_setIfInBounds, if_neg (by omega)]; exact h.dt j hj
    · rw [Array.getElem?_setIfInBounds, if_neg (by omega)]; exact h.rc j hj
  exact h1.dirt i hi b n

/-- A page is in a ring. -/
def here (r : Ck.Rg) (i : Int) : Prop := ∃ j, ∃ hj : j < r.fr.length, r.fr[j].page = i
/-- No frame is pinned. -/
def NP (r : Ck.Rg) : Prop := ∀ j (hj : j < r.fr.length), r.fr[j].pins = 0

/-- A pool lies in a block, its ring is one that may be. -/
structure PoIn (w : World) (p : Nat) (st : Value) (s : Po) : Prop where
  blk : ∃ M, w.heap[p]? = some (.cells M 91) ∧ PoM M st s
  may : Ck.MayR s.r
  np : NP s.r
  ring : Ck.SlF w s.a s.r.fr

theorem PoIn.len {w : World} {p : Nat} {st : Value} {s : Po} (h : PoIn w p st s) : s.r.fr.length ≤ maxLen := by have := h.may.most; simp only [maxLen]; omega
theorem PoIn.lt {w : World} {p : Nat} {st : Value} {s : Po} (h : PoIn w p st s) : p < w.heap.size := by obtain ⟨M, h1, -⟩ := h.blk; exact blk_lt h1
theorem PoIn.below {w w' : World} {p : Nat} {st : Value} {s : Po} (h : PoIn w p st s) (hb : Below w.heap.size w w') : PoIn w' p st s := by
  obtain ⟨M, h1, h2⟩ := h.blk
  exact ⟨⟨M, by rw [hb.block p (blk_lt h1)]; exact h1, h2⟩, h.may, h.np, h.ring.below hb⟩
/-- The ring's block. -/
theorem PoIn.at {w : World} {p : Nat} {st : Value} {s : Po} (h : PoIn w p st s) : ∃ x, s.a = some x ∧ x.block < w.heap.size := by
  obtain ⟨b, o, e, hb, -⟩ := h.ring.at 0 (by have := h.may.one; omega)
  exact ⟨_, e, hb⟩

/-- The cells that a pool's calls read. -/
theorem PoIn.cells {w : World} {p : Nat} {st : Value} {s : Po} (h : PoIn w p st s) :
    w.cell? ⟨p, 0, none⟩ = some st ∧ w.cell? ⟨p, 1, none⟩ = some (.slice s.a s.r.fr.length s.c) ∧ w.cell? ⟨p, 2, none⟩ = some (.int .i64 s.r.hand) ∧ w.frozen? ⟨p, 1, none⟩ = false ∧ w.frozen? ⟨p, 2, none⟩ = false ∧ p < w.heap.size := by
  obtain ⟨M, h1, h2⟩ := h.blk
  refine ⟨?_, ?_, ?_, ?_, ?_, blk_lt h1⟩
  · simp [World.cell?, h1, h2.st]
  · simp [World.cell?, h1, h2.sl]
  · simp [World.cell?, h1, h2.hd]
  · simp [World.frozen?, h1]
  · simp [World.frozen?, h1]
theorem PoIn.held {w : World} {p : Nat} {st : Value} {s : Po} (h : PoIn w p st s) (i : Nat) (hi : i < 16) :
    w.cell? ⟨p, 3 + i * 3, none⟩ = some (.pointer (s.P i)) ∧ w.cell? ⟨p, 3 + i * 3 + 1, none⟩ = some (.bool (s.D i)) ∧ w.cell? ⟨p, 3 + i * 3 + 2, none⟩ = some (.int .u64 (s.R i : Int)) ∧ w.frozen? ⟨p, 3 + i * 3, none⟩ = false ∧ w.frozen? ⟨p, 3 + i * 3 + 1, none⟩ = false ∧ w.frozen? ⟨p, 3 + i * 3 + 2, none⟩ = false := by
  obtain ⟨M, h1, h2⟩ := h.blk
  refine ⟨?_, ?_, ?_, ?_, ?_, ?_⟩
  · simp [World.cell?, h1, h2.pt i hi]
  · simp [World.cell?, h1, h2.dt i hi]
  · simp [World.cell?, h1, h2.rc i hi]
  all_goals simp [World.frozen?, h1]

/-- Nothing but one block has turned. -/
structure One (p : Nat) (w w' : World) : Prop where
  os : w'.os = w.os
  tape : w'.tape = w.tape
  output : w'.output = w.output
  size : w.heap.size ≤ w'.heap.size
  block : ∀ k, k < w.heap.size → k ≠ p → w'.heap[k]? = w.heap[k]?
theorem One.of {p : Nat} {w w' : World} (h : Below w.heap.size w w') : One p w w' := ⟨h.os, h.tape, h.output, h.size, fun k hk _ => h.block k hk⟩
theorem One.trans {p : Nat} {a b c : World} (h : One p a b) (k : One p b c) : One p a c :=
  ⟨k.os.trans h.os, k.tape.trans h.tape, k.output.trans h.output, Nat.le_trans h.size k.size, fun i hi hn => (k.block i (Nat.lt_of_lt_of_le hi h.size) hn).trans (h.block i hi hn)⟩
theorem One.set {p : Nat} {w w' : World} (h : One p w w') (i : Nat) (u : Value) : One p w (w'.setCell ⟨p, i, none⟩ u) :=
  ⟨h.os, h.tape, h.output, by simpa using h.size, fun k hk hn => by rw [heap_setCell_other _ _ _ _ hn]; exact h.block k hk hn⟩
theorem One.below {p B : Nat} {w w' : World} (h : One p w w') (hp : B ≤ p) (hB : B ≤ w.heap.size) : Below B w w' :=
  ⟨h.os, h.tape, h.output, h.size, fun k hk => h.block k (by omega) (by omega)⟩
theorem One.drew {p : Nat} {w w' : World} (h : One p w w') : One p w w'.drew := ⟨h.os, h.tape, h.output, h.size, h.block⟩

/-- A ring's slice lies where nothing has turned. -/
theorem slF_one {w w' : World} {p : Nat} {a : Option Addr} {l : List Ck.Fr} (h : Ck.SlF w a l) (hb : One p w w') (hp : ∀ x, a = some x → x.block ≠ p) : Ck.SlF w' a l :=
  ⟨h.nonil, fun x hx i t ht => by
    obtain ⟨h0, h1, h2, h3⟩ := h.cells x hx i t ht
    have hlt := World.block_lt_of_cell? _ _ h1
    have hk : ∀ j, w'.cell? ⟨x.block, j, none⟩ = w.cell? ⟨x.block, j, none⟩ := fun j => by
      have := hb.block x.block hlt (hp x hx)
      simp only [World.cell?, this]
    exact ⟨h0, by rw [hk]; exact h1, by rw [hk]; exact h2, by rw [hk]; exact h3⟩⟩

/-- The ring is put into a pool anew. -/
theorem PoIn.set {w : World} {p : Nat} {st : Value} {s : Po} (h : PoIn w p st s) (r : Ck.Rg) (a : Option Addr) (c : Nat) (hm : Ck.MayR r) (hn : NP r) (hs : Ck.SlF w a r.fr) (hp : ∀ x, a = some x → x.block ≠ p) :
    PoIn ((w.setCell ⟨p, 1, none⟩ (.slice a r.fr.length c)).setCell ⟨p, 2, none⟩ (.int .i64 r.hand)) p st { s with r := r, a := a, c := c } := by
  obtain ⟨M, h1, h2⟩ := h.blk
  refine ⟨⟨_, heap_setCell_same _ p 2 _ 91 _ (heap_setCell_same w p 1 M 91 _ h1), h2.ring r a c⟩, hm, hn, ?_⟩
  exact slF_one hs (((One.of (Below.refl _ _)).set 1 _).set 2 _) hp
theorem PoIn.setD {w : World} {p : Nat} {st : Value} {s : Po} (h : PoIn w p st s) (hp : ∀ x, s.a = some x → x.block ≠ p) (i : Nat) (hi : i < 16) (b : Bool) (n : Nat) :
    PoIn ((w.setCell ⟨p, 3 + i * 3 + 1, none⟩ (.bool b)).setCell ⟨p, 3 + i * 3 + 2, none⟩ (.int .u64 (n : Int))) p st { s with D := upd s.D i b, R := upd s.R i n } := by
  obtain ⟨M, h1, h2⟩ := h.blk
  refine ⟨⟨_, heap_setCell_same _ p _ _ 91 _ (heap_setCell_same w p _ M 91 _ h1), h2.dirt i hi b n⟩, h.may, h.np, ?_⟩
  exact slF_one h.ring (((One.of (Below.refl _ _)).set _ _).set _ _) hp
theorem PoIn.setH {w : World} {p : Nat} {st : Value} {s : Po} (h : PoIn w p st s) (hp : ∀ x, s.a = some x → x.block ≠ p) (i : Nat) (hi : i < 16) (q : Option Addr) (b : Bool) (n : Nat) :
    PoIn (((w.setCell ⟨p, 3 + i * 3, none⟩ (.pointer q)).setCell ⟨p, 3 + i * 3 + 1, none⟩ (.bool b)).setCell ⟨p, 3 + i * 3 + 2, none⟩ (.int .u64 (n : Int))) p st { s with P := upd s.P i q, D := upd s.D i b, R := upd s.R i n } := by
  obtain ⟨M, h1, h2⟩ := h.blk
  refine ⟨⟨_, heap_setCell_same _ p _ _ 91 _ (heap_setCell_same _ p _ _ 91 _ (heap_setCell_same w p _ M 91 _ h1)), h2.held i hi q b n⟩, h.may, h.np, ?_⟩
  exact slF_one h.ring ((((One.of (Below.refl _ _)).set _ _).set _ _).set _ _) hp

/-- Which pages are there behind a Put, a Drop, a Touch. -/
theorem here_with {r : Ck.Rg} {k : Nat} {f : Ck.Fr} (hk : k < r.fr.length) (i : Int) : here (Ck.withR r k f) i ↔ f.page = i ∨ ∃ j, ∃ hj : j < r.fr.length, j ≠ k ∧ r.fr[j].page = i := by
  constructor
  · rintro ⟨j, hj, e⟩
    simp only [Ck.withR, List.length_set] at hj
    simp only [Ck.withR, List.getElem_set] at e
    split at e
    · exact .inl e
    · rename_i hne; exact .inr ⟨j, hj, fun x => hne x.symm, e⟩
  · rintro (e | ⟨j, hj, hne, e⟩)
    · exact ⟨k, by simpa [Ck.withR] using hk, by simp only [Ck.withR, List.getElem_set, if_true]; exact e⟩
    · exact ⟨j, by simpa [Ck.withR] using hj, by simp only [Ck.withR]; rw [List.getElem_set_ne (fun x => hne x.symm)]; exact e⟩
theorem np_with {r : Ck.Rg} {k : Nat} {f : Ck.Fr} (h : NP r) (hf : f.pins = 0) : NP (Ck.withR r k f) := fun j hj => by
  simp only [Ck.withR, List.length_set] at hj
  simp only [Ck.withR, List.getElem_set]
  split
  · exact hf
  · exact h j hj

theorem put_ok {r : Ck.Rg} {p : Int} (hM : Ck.MayR r) (hn : NP r) (h : (Ck.putR r p).2 = 0) : 0 ≤ p ∧ p < 16 ∧ ¬ here r p ∧ here r (-1) ∧ Ck.MayR (Ck.putR r p).1 ∧ NP (Ck.putR r p).1 ∧ (Ck.putR r p).1.fr.length = r.fr.length ∧ ∀ i : Int, 0 ≤ i → (here (Ck.putR r p).1 i ↔ i = p ∨ here r i) := by
  have hmay := Ck.put_may h
  by_cases hk : Ck.knownB p = true
  · have hk' := Ck.known_iff.1 hk
    rcases Ck.firI_cases r.fr p with ⟨hf, hfn⟩ | ⟨j, hj, hf, -⟩
    · rcases Ck.firI_cases r.fr (-1) with ⟨hg, -⟩ | ⟨j, hj, hg, hpg, -⟩
      · rw [Ck.putR_busy hM hk hf hg] at h; simp at h
      · rw [Ck.putR_ok hM hk hf hg] at hmay ⊢
        refine ⟨hk'.1, hk'.2, fun ⟨j, hj, e⟩ => hfn j hj e, ⟨j, hj, hpg⟩, hmay, np_with hn rfl, by simp [Ck.withR], fun i hi => ?_⟩
        rw [here_with hj]
        constructor
        · rintro (e | ⟨x, hx, -, e⟩)
          · exact .inl e.symm
          · exact .inr ⟨x, hx, e⟩
        · rintro (e | ⟨x, hx, e⟩)
          · exact .inl e.symm
          · refine .inr ⟨x, hx, fun ex => ?_, e⟩
            subst ex
            omega
    · rw [Ck.putR_twice hM hk (by rw [hf]; omega)] at h; simp at h
  · rw [Ck.putR_arg (fun x => hk x.2)] at h; simp at h
theorem put_is {r : Ck.Rg} {p : Int} (hM : Ck.MayR r) (h0 : 0 ≤ p) (h1 : p < 16) (hp : ¬ here r p) (hf : here r (-1)) : (Ck.putR r p).2 = 0 := by
  have hk := Ck.known_iff.2 ⟨h0, h1⟩
  rcases Ck.firI_cases r.fr p with ⟨hf1, -⟩ | ⟨j, hj, -, e, -⟩
  · rcases Ck.firI_cases r.fr (-1) with ⟨-, hn⟩ | ⟨j, hj, hg, hpg, -⟩
    · obtain ⟨j, hj, e⟩ := hf
      exact absurd e (hn j hj)
    · rw [Ck.putR_ok hM hk hf1 hg]
  · exact absurd ⟨j, hj, e⟩ hp
theorem put_busy {r : Ck.Rg} {p : Int} (hM : Ck.MayR r) (h0 : 0 ≤ p) (h1 : p < 16) (hp : ¬ here r p) (hf : ¬ here r (-1)) : (Ck.putR r p).2 = 15 := by
  have hk := Ck.known_iff.2 ⟨h0, h1⟩
  rcases Ck.firI_cases r.fr p with ⟨hf1, -⟩ | ⟨j, hj, -, e, -⟩
  · rcases Ck.firI_cases r.fr (-1) with ⟨hg, -⟩ | ⟨j, hj, -, e, -⟩
    · rw [Ck.putR_busy hM hk hf1 hg]
    · exact absurd ⟨j, hj, e⟩ hf
  · exact absurd ⟨j, hj, e⟩ hp
theorem place_here {r : Ck.Rg} {p : Int} (hM : Ck.MayR r) (h0 : 0 ≤ p) (h1 : p < 16) (hp : here r p) : ∃ k, ∃ hk : k < r.fr.length, Ck.placeR r p = ((k : Int), 0) ∧ r.fr[k].page = p ∧ ∀ j (hj : j < r.fr.length), j ≠ k → r.fr[j].page ≠ p := by
  rcases Ck.place_cases r p with ⟨-, h⟩ | ⟨-, -, h⟩ | ⟨k, hk, h, -, -, -, hpg⟩
  · exact absurd hM h
  · have hk := Ck.known_iff.2 ⟨h0, h1⟩
    rcases h with h | h
    · rw [hk] at h; simp at h
    · rcases Ck.firI_cases r.fr p with ⟨-, hn⟩ | ⟨j, hj, e, -⟩
      · obtain ⟨j, hj, e⟩ := hp
        exact absurd e (hn j hj)
      · omega
  · exact ⟨k, hk, h, hpg, hM.fir hk hpg (by omega)⟩
theorem place_gone {r : Ck.Rg} {p : Int} (hM : Ck.MayR r) (hp : ¬ (0 ≤ p ∧ p < 16 ∧ here r p)) : Ck.placeR r p = (0, 8) := by
  rcases Ck.place_cases r p with ⟨-, h⟩ | ⟨h, -, -⟩ | ⟨k, hk, h, -, hkn, -, hpg⟩
  · exact absurd hM h
  · exact h
  · have := Ck.known_iff.1 hkn
    exact absurd ⟨this.1, this.2, k, hk, hpg⟩ hp
theorem drop_ok {r : Ck.Rg} {p : Int} (hM : Ck.MayR r) (hn : NP r) (h0 : 0 ≤ p) (h1 : p < 16) (hp : here r p) :
    (Ck.dropR r p).2 = 0 ∧ Ck.MayR (Ck.dropR r p).1 ∧ NP (Ck.dropR r p).1 ∧ here (Ck.dropR r p).1 (-1) ∧ ∀ i : Int, 0 ≤ i → (here (Ck.dropR r p).1 i ↔ i ≠ p ∧ here r i) := by
  obtain ⟨k, hk, h, hpg, hup⟩ := place_here hM h0 h1 hp
  have hz := hn k hk
  have e := Ck.dropR_ok h hk (by omega)
  have hmay : Ck.MayR (Ck.dropR r p).1 := Ck.drop_may (by rw [e])
  rw [e] at hmay ⊢
  refine ⟨rfl, hmay, np_with hn rfl, (here_with hk _).2 (.inl rfl), fun i hi => ?_⟩
  rw [here_with hk]
  constructor
  · rintro (e | ⟨x, hx, hne, e⟩)
    · simp at e; omega
    · exact ⟨fun ei => hup x hx hne (by rw [e, ei]), x, hx, e⟩
  · rintro ⟨hne, x, hx, e⟩
    refine .inr ⟨x, hx, fun ex => hne ?_, e⟩
    subst ex
    omega
theorem drop_no {r : Ck.Rg} {p : Int} (hM : Ck.MayR r) (hp : ¬ (0 ≤ p ∧ p < 16 ∧ here r p)) : Ck.dropR r p = (.zero, 8) := Ck.dropR_err (place_gone hM hp) (by decide)
theorem touch_ok {r : Ck.Rg} {p : Int} (hM : Ck.MayR r) (hn : NP r) (h0 : 0 ≤ p) (h1 : p < 16) (hp : here r p) :
    (Ck.pinR r p 0 true).2 = 0 ∧ Ck.MayR (Ck.pinR r p 0 true).1 ∧ NP (Ck.pinR r p 0 true).1 ∧ ∀ i : Int, here (Ck.pinR r p 0 true).1 i ↔ here r i := by
  obtain ⟨k, hk, h, hpg, hup⟩ := place_here hM h0 h1 hp
  have hz := hn k hk
  have e := Ck.pinR_ok (n := 0) (t := true) h hk (by omega)
  have hmay : Ck.MayR (Ck.pinR r p 0 true).1 := Ck.pin_may (by rw [e])
  rw [e] at hmay ⊢
  refine ⟨rfl, hmay, np_with hn (by simp [hz]), fun i => ?_⟩
  rw [here_with hk]
  constructor
  · rintro (e | ⟨x, hx, hne, e⟩)
    · exact ⟨k, hk, by simpa using e⟩
    · exact ⟨x, hx, e⟩
  · rintro ⟨x, hx, e2⟩
    by_cases ex : x = k
    · subst ex; exact .inl (by simpa using e2)
    · exact .inr ⟨x, hx, ex, e2⟩
theorem touch_no {r : Ck.Rg} {p : Int} (hM : Ck.MayR r) (hp : ¬ (0 ≤ p ∧ p < 16 ∧ here r p)) : Ck.pinR r p 0 true = (.zero, 8) := Ck.pinR_err (place_gone hM hp) (by decide)
theorem at_here {r : Ck.Rg} {p : Int} (hM : Ck.MayR r) (h0 : 0 ≤ p) (h1 : p < 16) (hp : here r p) : 0 ≤ Ck.atR r p := by
  rw [Ck.atR_yes hM (Ck.known_iff.2 ⟨h0, h1⟩)]
  rcases Ck.firI_cases r.fr p with ⟨-, hn⟩ | ⟨j, hj, e, -⟩
  · obtain ⟨j, hj, e⟩ := hp
    exact absurd e (hn j hj)
  · omega
theorem at_gone {r : Ck.Rg} {p : Int} (hM : Ck.MayR r) (hp : ¬ (0 ≤ p ∧ p < 16 ∧ here r p)) : Ck.atR r p = -1 := by
  cases hk : Ck.knownB p
  · exact Ck.atR_un hk
  · have hk' := Ck.known_iff.1 hk
    rw [Ck.atR_yes hM hk]
    exact Ck.firI_none fun j hj e => hp ⟨hk'.1, hk'.2, j, hj, e⟩
end Go.Proofs.Ytcloinonhpaojaa
