/-
  Rows of frames that may be written; a ring copied.
-/
import Derived.Test.YtcloinonhpaojaaFc
import Derived.Laws.IdiomCopy
import Derived.Laws.AppendOwnNone
import Derived.OwnWalk
import Derived.Deep.QuietTactic
namespace Go.Proofs.Ytcloinonhpaojaa.Ck
open Go.RowKit

/-- Frames as cells, one behind the other. -/
def frL (f : Fr) : List Value := [.int .i64 f.page, .bool f.used, .int .i64 f.pins]
def frs (l : List Fr) : List Value := l.flatMap frL
theorem frs_cons (f : Fr) (l : List Fr) : frs (f :: l) = .int .i64 f.page :: .bool f.used :: .int .i64 f.pins :: frs l := rfl
theorem frs_length (l : List Fr) : (frs l).length = l.length * 3 := by
  induction l with
  | nil => rfl
  | cons f l ih => rw [frs_cons]; simp [ih]; omega
theorem frs_append (l m : List Fr) : frs (l ++ m) = frs l ++ frs m := by simp [frs]
theorem frs_one (l : List Fr) : ∀ u ∈ frs l, u.oneCell' = true := by
  intro u hu
  simp only [frs, List.mem_flatMap] at hu
  obtain ⟨t, _, hu⟩ := hu
  simp only [frL, List.mem_cons, List.not_mem_nil, or_false] at hu
  rcases hu with rfl | rfl | rfl <;> rfl
theorem frs_get : ∀ (l : List Fr) (i : Nat) (t : Fr), l[i]? = some t → (frs l)[i * 3]? = some (.int .i64 t.page) ∧ (frs l)[i * 3 + 1]? = some (.bool t.used) ∧ (frs l)[i * 3 + 2]? = some (.int .i64 t.pins)
  | [], i, t, h => by simp at h
  | f :: l, 0, t, h => by
    simp at h
    subst h
    rw [frs_cons]
    simp
  | f :: l, i + 1, t, h => by
    simp at h
    have := frs_get l i t h
    rw [frs_cons]
    rw [show (i + 1) * 3 = i * 3 + 3 by omega, show i * 3 + 3 + 1 = i * 3 + 1 + 3 by omega, show i * 3 + 3 + 2 = i * 3 + 2 + 3 by omega]
    simpa using this
theorem frs_inv : ∀ (l : List Fr) (j : Nat) (v : Value), (frs l)[j]? = some v → ∃ i t, l[i]? = some t ∧ ((j = i * 3 ∧ v = .int .i64 t.page) ∨ (j = i * 3 + 1 ∧ v = .bool t.used) ∨ (j = i * 3 + 2 ∧ v = .int .i64 t.pins))
  | [], j, v, h => by simp [frs] at h
  | f :: l, 0, v, h => by
    rw [frs_cons] at h
    simp at h
    exact ⟨0, f, rfl, .inl ⟨rfl, h.symm⟩⟩
  | f :: l, 1, v, h => by
    rw [frs_cons] at h
    simp at h
    exact ⟨0, f, rfl, .inr (.inl ⟨rfl, h.symm⟩)⟩
  | f :: l, 2, v, h => by
    rw [frs_cons] at h
    simp at h
    exact ⟨0, f, rfl, .inr (.inr ⟨rfl, h.symm⟩)⟩
  | f :: l, j + 3, v, h => by
    rw [frs_cons] at h
    simp at h
    obtain ⟨i, t, h1, h2⟩ := frs_inv l j v h
    refine ⟨i + 1, t, by simpa using h1, ?_⟩
    rcases h2 with ⟨e1, e2⟩ | ⟨e1, e2⟩ | ⟨e1, e2⟩
    · exact .inl ⟨by omega, e2⟩
    · exact .inr (.inl ⟨by omega, e2⟩)
    · exact .inr (.inr ⟨by omega, e2⟩)

theorem add_at (G o j : Nat) : (⟨G, o, none⟩ : Addr).add j = ⟨G, o + j, none⟩ := by unfold Addr.add; split <;> simp_all
theorem SlF.src {w : World} {b o : Nat} {l : List Fr} (h : SlF w (some ⟨b, o, none⟩) l) : ∀ j v, (frs l)[j]? = some v → w.cell? ((⟨b, o, none⟩ : Addr).add j) = some v := by
  intro j v hj
  obtain ⟨i, t, ht, hc⟩ := frs_inv l j v hj
  obtain ⟨_, h1, h2, h3⟩ := h.cells _ rfl i t ht
  rw [add_at]
  rcases hc with ⟨rfl, rfl⟩ | ⟨rfl, rfl⟩ | ⟨rfl, rfl⟩
  · exact h1
  · rw [← Nat.add_assoc]; exact h2
  · rw [← Nat.add_assoc]; exact h3
theorem SlF.ofRow {w : World} {B : Nat} {v : Value} {n : Nat} {l : List Fr} (h : w.ownsRow B 123 3 v n (frs l)) : n = l.length ∧ ∃ a c, v = .slice a l.length c ∧ SlF w a l := by
  have hn : n = l.length := by have := h.1; rw [frs_length] at this; omega
  subst hn
  refine ⟨rfl, ?_⟩
  rcases h.2 with ⟨rfl, h0⟩ | ⟨g, cap, cur, rfl, _⟩
  · have : l = [] := List.eq_nil_of_length_eq_zero h0
    subst this
    exact ⟨none, 0, rfl, SlF.nil w⟩
  · refine ⟨_, _, rfl, fun e => by simp at e, fun x hx i t ht => ?_⟩
    have hc := h.cells (g := g) rfl
    simp only [Option.some.injEq] at hx
    subst hx
    obtain ⟨h1, h2, h3⟩ := frs_get l i t ht
    have k1 := hc _ _ h1
    have k2 := hc _ _ h2
    have k3 := hc _ _ h3
    rw [add_at] at k1 k2 k3
    exact ⟨rfl, k1, by rw [Nat.add_assoc]; exact k2, by rw [Nat.add_assoc]; exact k3⟩

/-- A row of frames in block g, which may be written. -/
structure RowF (w : World) (g : Nat) (l : List Fr) : Prop where
  lt : g < w.heap.size
  at_ : ∀ i (hi : i < l.length), w.cell? ⟨g, i * 3, none⟩ = some (.int .i64 l[i].page) ∧ w.cell? ⟨g, i * 3 + 1, none⟩ = some (.bool l[i].used) ∧ w.cell? ⟨g, i * 3 + 2, none⟩ = some (.int .i64 l[i].pins) ∧
    w.frozen? ⟨g, i * 3, none⟩ = false ∧ w.frozen? ⟨g, i * 3 + 1, none⟩ = false ∧ w.frozen? ⟨g, i * 3 + 2, none⟩ = false
theorem RowF.below {w w' : World} {g : Nat} {l : List Fr} (h : RowF w g l) (hb : Below w.heap.size w w') : RowF w' g l :=
  ⟨Nat.lt_of_lt_of_le h.lt hb.size, fun i hi => by
    obtain ⟨h1, h2, h3, h4, h5, h6⟩ := h.at_ i hi
    have hl := h.lt
    exact ⟨(hb.cell (p := ⟨g, _, none⟩) hl).trans h1, (hb.cell (p := ⟨g, _, none⟩) hl).trans h2, (hb.cell (p := ⟨g, _, none⟩) hl).trans h3, (hb.frozen (p := ⟨g, _, none⟩) hl).trans h4, (hb.frozen (p := ⟨g, _, none⟩) hl).trans h5, (hb.frozen (p := ⟨g, _, none⟩) hl).trans h6⟩⟩
theorem RowF.sl {w : World} {g : Nat} {l : List Fr} (h : RowF w g l) : SlF w (some ⟨g, 0, none⟩) l :=
  ⟨fun e => by simp at e, fun x hx i t ht => by
    simp only [Option.some.injEq] at hx
    subst hx
    obtain ⟨hi, rfl⟩ := List.getElem?_eq_some_iff.1 ht
    obtain ⟨h1, h2, h3, _⟩ := h.at_ i hi
    exact ⟨rfl, by simpa using h1, by simpa using h2, by simpa using h3⟩⟩
theorem RowF.other {w : World} {g : Nat} {l : List Fr} (h : RowF w g l) (p : Addr) (v : Value) (hp : p.block ≠ g) : RowF (w.setCell p v) g l :=
  ⟨by simpa using h.lt, fun i hi => by
    obtain ⟨h1, h2, h3, h4, h5, h6⟩ := h.at_ i hi
    have ne : ∀ o, p ≠ ⟨g, o, none⟩ := fun o e => hp (by rw [e])
    refine ⟨by rw [World.cell?_setCell_other (h := ne _)]; exact h1, by rw [World.cell?_setCell_other (h := ne _)]; exact h2, by rw [World.cell?_setCell_other (h := ne _)]; exact h3, by rw [World.frozen?_setCell]; exact h4, by rw [World.frozen?_setCell]; exact h5, by rw [World.frozen?_setCell]; exact h6⟩⟩
theorem RowF.setP {w : World} {g : Nat} {l : List Fr} (h : RowF w g l) (k : Nat) (hk : k < l.length) (p : Int) : RowF (w.setCell ⟨g, k * 3, none⟩ (.int .i64 p)) g (l.set k ⟨p, l[k].used, l[k].pins⟩) := by
  refine ⟨by simpa using h.lt, fun i hi => ?_⟩
  simp only [List.length_set] at hi
  obtain ⟨h1, h2, h3, h4, h5, h6⟩ := h.at_ i hi
  rw [List.getElem_set]
  refine ⟨?_, ?_, ?_, by rw [World.frozen?_setCell]; exact h4, by rw [World.frozen?_setCell]; exact h5, by rw [World.frozen?_setCell]; exact h6⟩
  · by_cases e : k = i
    · subst e
      rw [World.cell?_setCell_same _ _ _ h1]
      simp
    · rw [World.cell?_setCell_other (h := by simp; try omega), if_neg e]
      exact h1
  · rw [World.cell?_setCell_other (h := by simp; try omega), h2]
    split
    · rename_i e; subst e; rfl
    · rfl
  · rw [World.cell?_setCell_other (h := by simp; try omega), h3]
    split
    · rename_i e; subst e; rfl
    · rfl
theorem RowF.setU {w : World} {g : Nat} {l : List Fr} (h : RowF w g l) (k : Nat) (hk : k < l.length) (u : Bool) : RowF (w.setCell ⟨g, k * 3 + 1, none⟩ (.bool u)) g (l.set k ⟨l[k].page, u, l[k].pins⟩) := by
  refine ⟨by simpa using h.lt, fun i hi => ?_⟩
  simp only [List.length_set] at hi
  obtain ⟨h1, h2, h3, h4, h5, h6⟩ := h.at_ i hi
  rw [List.getElem_set]
  refine ⟨?_, ?_, ?_, by rw [World.frozen?_setCell]; exact h4, by rw [World.frozen?_setCell]; exact h5, by rw [World.frozen?_setCell]; exact h6⟩
  · rw [World.cell?_setCell_other (h := by simp; try omega), h1]
    split
    · rename_i e; subst e; rfl
    · rfl
  · by_cases e : k = i
    · subst e
      rw [World.cell?_setCell_same _ _ _ h2]
      simp
    · rw [World.cell?_setCell_other (h := by simp; try omega), if_neg e]
      exact h2
  · rw [World.cell?_setCell_other (h := by simp; try omega), h3]
    split
    · rename_i e; subst e; rfl
    · rfl
theorem RowF.setN {w : World} {g : Nat} {l : List Fr} (h : RowF w g l) (k : Nat) (hk : k < l.length) (p : Int) : RowF (w.setCell ⟨g, k * 3 + 2, none⟩ (.int .i64 p)) g (l.set k ⟨l[k].page, l[k].used, p⟩) := by
  refine ⟨by simpa using h.lt, fun i hi => ?_⟩
  simp only [List.length_set] at hi
  obtain ⟨h1, h2, h3, h4, h5, h6⟩ := h.at_ i hi
  rw [List.getElem_set]
  refine ⟨?_, ?_, ?_, by rw [World.frozen?_setCell]; exact h4, by rw [World.frozen?_setCell]; exact h5, by rw [World.frozen?_setCell]; exact h6⟩
  · rw [World.cell?_setCell_other (h := by simp; try omega), h1]
    split
    · rename_i e; subst e; rfl
    · rfl
  · rw [World.cell?_setCell_other (h := by simp; try omega), h2]
    split
    · rename_i e; subst e; rfl
    · rfl
  · by_cases e : k = i
    · subst e
      rw [World.cell?_setCell_same _ _ _ h3]
      simp
    · rw [World.cell?_setCell_other (h := by simp; try omega), if_neg e]
      exact h3
theorem RowF.setAll {w : World} {g : Nat} {l : List Fr} (h : RowF w g l) (k : Nat) (hk : k < l.length) (f : Fr) :
    RowF (((w.setCell ⟨g, k * 3, none⟩ (.int .i64 f.page)).setCell ⟨g, k * 3 + 1, none⟩ (.bool f.used)).setCell ⟨g, k * 3 + 2, none⟩ (.int .i64 f.pins)) g (l.set k f) := by
  have h1 := h.setP k hk f.page
  have h2 := h1.setU k (by simpa using hk) f.used
  have h3 := h2.setN k (by simpa using hk) f.pins
  simpa using h3

theorem below_setCells {B b : Nat} {w0 : World} (hB : B ≤ b) : ∀ (vs : List Value) (o : Nat) (w : World), Below B w0 w → Below B w0 (w.setCells b o vs)
  | [], _, _, h => h
  | v :: vs, o, _, h => below_setCells hB vs (o + 1) _ (h.setCell (p := ⟨b, o, none⟩) hB v)
theorem size_setCells (b : Nat) : ∀ (vs : List Value) (o : Nat) (w : World), (w.setCells b o vs).heap.size = w.heap.size
  | [], _, _ => rfl
  | v :: vs, o, w => by rw [World.setCells, size_setCells b vs]; simp

theorem run_copy3 {P : Program} (w : World) (dT sT ty elem : TypeId) (g n dCap : Nat) (a : Addr) (sCap : Nat) (cs : List Value) (i : TypeInfo)
    (hu : P.underlying dT = some (.slice elem)) (hi : P.info? elem = some i) (hsz : i.size = 3) (hn : cs.length = n * 3)
    (hsrc : ∀ j v, cs[j]? = some v → w.cell? (a.add j) = some v) (hc : ∀ j, j < cs.length → (w.cell? ⟨g, 0 + j, none⟩).isSome = true) (hf : ∀ j, j < cs.length → w.frozen? ⟨g, 0 + j, none⟩ = false) (h1 : ∀ v ∈ cs, v.oneCell' = true) :
    (Builtin.copy_ #[dT, sT] ty #[.slice (some ⟨g, 0, none⟩) n dCap, .slice (some a) n sCap]).run P w = .ok (goInt n) (w.setCells g 0 cs) := by
  have hl := run_loadCells_list (P := P) w a cs hsrc
  have hst := run_storeCells_cells (P := P) g 0 cs 0 w (by simpa using hc) (by simpa using hf) h1
  rw [hn] at hl
  simp [Builtin.copy_, run_underlying hu, Builtin.lenOf, Builtin.firstCells, sizeOf, typeInfo, hi, hsz, hl, hst]
end Go.Proofs.Ytcloinonhpaojaa.Ck

/-
  A ring copied.
-/
namespace Go.Proofs.Ytcloinonhpaojaa.Ck
open Go.RowKit

theorem info123 : (Try.prog.info? 123).map (fun i => (i.zero, i.size, i.bytes)) = some (some (.agg #[.int .i64 0, .bool false, .int .i64 0]), 3, 24) := by kernel_rfl

theorem row_of_cells {w : World} {g n : Nat} {l : List Fr} {cur : Array Value} {t : TypeId} (hg : w.heap[g]? = some (.cells cur t)) (hs : cur.size = n * 3) (hl : l.length = n) :
    RowF (w.setCells g 0 (frs l)) g l := by
  have hlt := (Array.getElem?_eq_some_iff.mp hg).1
  have hc : ∀ j, j < (frs l).length → (w.cell? ⟨g, 0 + j, none⟩).isSome = true := fun j hj => by
    rw [frs_length] at hj
    simp [World.cell?, hg]
    omega
  have hf : ∀ o, w.frozen? ⟨g, o, none⟩ = false := fun o => by simp [World.frozen?, hg]
  have hin := World.cell?_setCells_in g (frs l) 0 w hc
  have hfz := World.frozen?_setCells g (frs l) 0 w
  refine ⟨by rw [size_setCells]; exact hlt, fun i hi => ?_⟩
  obtain ⟨h1, h2, h3⟩ := frs_get l i l[i] (List.getElem?_eq_getElem hi)
  obtain ⟨j1, e1⟩ := List.getElem?_eq_some_iff.1 h1
  obtain ⟨j2, e2⟩ := List.getElem?_eq_some_iff.1 h2
  obtain ⟨j3, e3⟩ := List.getElem?_eq_some_iff.1 h3
  have k1 := hin _ j1
  have k2 := hin _ j2
  have k3 := hin _ j3
  rw [e1] at k1
  rw [e2] at k2
  rw [e3] at k3
  simp only [Nat.zero_add] at k1 k2 k3
  exact ⟨k1, k2, k3, by rw [hfz]; exact hf _, by rw [hfz]; exact hf _, by rw [hfz]; exact hf _⟩
theorem heap_setCells (b : Nat) : ∀ (vs : List Value) (o : Nat) (w : World) (k : Nat), k ≠ b → (w.setCells b o vs).heap[k]? = w.heap[k]?
  | [], _, _, _, _ => rfl
  | v :: vs, o, w, k, h => by rw [World.setCells, heap_setCells b vs _ _ k h]; exact heap_setCell_other _ _ _ _ (by simpa using fun e => h e)

theorem copy3_any {P : Program} {w : World} (dT sT ty elem : TypeId) (i : TypeInfo) (hu : P.underlying dT = some (.slice elem)) (hi : P.info? elem = some i) (hsz : i.size = 3)
    (g n dCap b off sCap : Nat) (l : List Fr) (hl : l.length = n) (hsl : SlF w (some ⟨b, off, none⟩) l) (cur : Array Value) (t : TypeId) (hg : w.heap[g]? = some (.cells cur t)) (hcs : cur.size = n * 3) (B : Nat) (w0 : World) (hb : Below B w0 w) (hB : B ≤ g) :
    ∃ w', (Builtin.copy_ #[dT, sT] ty #[.slice (some ⟨g, 0, none⟩) n dCap, .slice (some ⟨b, off, none⟩) n sCap]).run P w = .ok (.int .i64 (n : Int)) w' ∧ RowF w' g l ∧ Below B w0 w' ∧ ∀ k, k ≠ g → w'.heap[k]? = w.heap[k]? := by
  have hfl := frs_length l
  have hrun := run_copy3 (P := P) w dT sT ty elem g n dCap ⟨b, off, none⟩ sCap (frs l) i hu hi hsz (by rw [hfl, hl]) hsl.src (fun j hj => by simp [World.cell?, hg]; omega) (fun j hj => by simp [World.frozen?, hg]) (frs_one l)
  exact ⟨_, hrun, row_of_cells hg hcs hl, below_setCells hB _ _ _ hb, fun k hk => heap_setCells g _ _ _ k hk⟩

theorem push4 {α : Type} (A : Array α) (a b c d : α) : ((((A.push a).push b).push c).push d)[A.size]? = some a ∧ ((((A.push a).push b).push c).push d)[A.size + 1]? = some b ∧ ((((A.push a).push b).push c).push d)[A.size + 1 + 1]? = some c ∧ ((((A.push a).push b).push c).push d)[A.size + 1 + 1 + 1]? = some d := by
  refine ⟨?_, ?_, ?_, ?_⟩ <;> simp only [Array.getElem?_push, Array.size_push] <;> repeat (first | rw [if_pos (by first | trivial | omega)] | rw [if_neg (by omega)])
/-- A ring stored into a block of its own. -/
theorem ring_set {w : World} {g : Nat} {x y u v : Value} (h : w.heap[g]? = some (.cells #[x, y] 36)) : ((w.setCell ⟨g, 0, none⟩ u).setCell ⟨g, 1, none⟩ v).heap[g]? = some (.cells #[u, v] 36) :=
  heap_setCell_same _ g 1 _ 36 v (heap_setCell_same w g 0 _ 36 u h)

set_option maxHeartbeats 2000000 in
theorem copied_any (a : Option Addr) (c : Nat) (r : Rg) (w : World) (h : SlF w a r.fr) (hM : MayR r) :
    Calls Try.prog 83 #[rgV a c r] w fun e w' => ∃ g, e = .returned (rgV (some ⟨g, 0, none⟩) r.fr.length r) ∧ w.heap.size ≤ g ∧ RowF w' g r.fr ∧ Below w.heap.size w w' := by
  have h16 := hM.most
  have h1 := hM.one
  obtain ⟨i0, hi, hz0, hz1, hz2⟩ := info_parts info123
  obtain ⟨M, hMd⟩ : ∃ M, M = madeCells (Value.agg #[.int .i64 0, .bool false, .int .i64 0]).cells (((r.fr.length : Nat) : Int).toNat * i0.size) := ⟨_, rfl⟩
  have hMs : M.size = r.fr.length * 3 := by rw [hMd, size_madeCells, hz1]; simp
  have hmk : ∀ W : World, (Instr.makeSlice 34 (.int .i64 (r.fr.length : Int)) (.int .i64 (r.fr.length : Int))).run Try.prog W = .ok (.slice (some ⟨W.heap.size, 0, none⟩) r.fr.length r.fr.length) (W.alloc (.cells M 123)) := fun W => by
    have h := run_make (P := Try.prog) W 34 123 i0 _ Try.underlying34 hi hz0 .i64 .i64 (r.fr.length : Int) (r.fr.length : Int) (by omega) (by omega) (by rw [hz2]; omega) (by omega)
    rw [← hMd] at h
    simpa using h
  clear hMd
  obtain ⟨b, o, rfl, -⟩ := h.at 0 (by omega)
  go_enter Try.func83, Try.ntmps83
  go_wp2_with fail
  go_region
  · generalize hW : World.drew _ = W
    obtain ⟨k0, k1, k2, k3⟩ := push4 w.heap (.cells (rgC (some ⟨b, o, none⟩) c r) 36) (.cells #[.slice none 0 0, .int .i64 0] 36) (.cells M 123) (.cells #[.slice (some ⟨w.heap.size + 1 + 1, 0, none⟩) r.fr.length r.fr.length, .int .i64 r.hand] 36)
    have hg : W.heap[w.heap.size + 1 + 1]? = some (.cells M 123) := by rw [← hW]; exact k2
    have hp : W.heap[w.heap.size + 1 + 1 + 1]? = some (.cells #[.slice (some ⟨w.heap.size + 1 + 1, 0, none⟩) r.fr.length r.fr.length, .int .i64 r.hand] 36) := by rw [← hW]; exact k3
    have h0 : W.heap[w.heap.size]? = some (.cells #[.slice (some ⟨b, o, none⟩) r.fr.length c, .int .i64 r.hand] 36) := by rw [← hW]; exact k0
    have hr : W.heap[w.heap.size + 1]? = some (.cells #[.slice none 0 0, .int .i64 0] 36) := by rw [← hW]; exact k1
    have hB : Below w.heap.size w W := by
      rw [← hW]
      exact (((((Below.refl _ w).alloc (Nat.le_refl _) _).alloc (by simp) _).alloc (by simp; omega) _).alloc (by simp; omega) _).drew
    have hsW := h.below hB
    clear hW k0 k1 k2 k3
    obtain ⟨p0, p1, p2, p3, p4⟩ := cell2 hp
    obtain ⟨q0, q1, q2, q3, q4⟩ := cell2 h0
    have HP := toHid hp
    have HR := toHid hr
    clear hp h0 hr
    obtain ⟨w2, hcp, hrow, hB2, hk2⟩ := copy3_any (P := Try.prog) (w := W) 34 34 3 123 i0 Try.underlying34 hi hz1 (w.heap.size + 1 + 1) r.fr.length r.fr.length b o c r.fr rfl hsW M 123 hg hMs w.heap.size w hB (by omega)
    have hp2 := (hk2 (w.heap.size + 1 + 1 + 1) (by omega)).trans HP.out
    have hr2 := (hk2 (w.heap.size + 1) (by omega)).trans HR.out
    clear hg hsW hB hk2 HP HR
    obtain ⟨s0, s1, s2, s3, s4⟩ := cell2 hp2
    obtain ⟨t0, t1, t2, t3, t4⟩ := cell2 hr2
    have HR2 := toHid hr2
    clear hp2 hr2
    have HW := toHid hrow
    clear hrow
    go_wp2
    obtain ⟨r0, r1, -⟩ := cell2 (ring_set (u := .slice (some ⟨w.heap.size + 1 + 1, 0, none⟩) r.fr.length r.fr.length) (v := .int .i64 r.hand) HR2.out)
    refine bodyPost_ret (v := rgV (some ⟨w.heap.size + 1 + 1, 0, none⟩) r.fr.length r) (by simp [results, Try.results83, go_sem, r0, r1]) rfl ?_
    exact ⟨_, rfl, by omega, (HW.out.other ⟨w.heap.size + 1, 0, none⟩ _ (by simp; try omega)).other ⟨w.heap.size + 1, 1, none⟩ _ (by simp; try omega), (hB2.setCell (p := ⟨w.heap.size + 1, 0, none⟩) (by simp) _).setCell (p := ⟨w.heap.size + 1, 1, none⟩) (by simp) _⟩
  · generalize hW : World.drew _ = W
    obtain ⟨k0, k1, k2, k3⟩ := push4 w.heap (.cells (rgC (some ⟨b, o, none⟩) c r) 36) (.cells #[.slice none 0 0, .int .i64 0] 36) (.cells #[.slice (some ⟨w.heap.size + 1 + 1 + 1, 0, none⟩) r.fr.length r.fr.length, .int .i64 r.hand] 36) (.cells M 123)
    have hg : W.heap[w.heap.size + 1 + 1 + 1]? = some (.cells M 123) := by rw [← hW]; exact k3
    have hp : W.heap[w.heap.size + 1 + 1]? = some (.cells #[.slice (some ⟨w.heap.size + 1 + 1 + 1, 0, none⟩) r.fr.length r.fr.length, .int .i64 r.hand] 36) := by rw [← hW]; exact k2
    have h0 : W.heap[w.heap.size]? = some (.cells #[.slice (some ⟨b, o, none⟩) r.fr.length c, .int .i64 r.hand] 36) := by rw [← hW]; exact k0
    have hr : W.heap[w.heap.size + 1]? = some (.cells #[.slice none 0 0, .int .i64 0] 36) := by rw [← hW]; exact k1
    have hB : Below w.heap.size w W := by
      rw [← hW]
      exact (((((Below.refl _ w).alloc (Nat.le_refl _) _).alloc (by simp) _).alloc (by simp; omega) _).alloc (by simp; omega) _).drew
    have hsW := h.below hB
    clear hW k0 k1 k2 k3
    obtain ⟨p0, p1, p2, p3, p4⟩ := cell2 hp
    obtain ⟨q0, q1, q2, q3, q4⟩ := cell2 h0
    have HP := toHid hp
    have HR := toHid hr
    clear hp h0 hr
    obtain ⟨w2, hcp, hrow, hB2, hk2⟩ := copy3_any (P := Try.prog) (w := W) 34 34 3 123 i0 Try.underlying34 hi hz1 (w.heap.size + 1 + 1 + 1) r.fr.length r.fr.length b o c r.fr rfl hsW M 123 hg hMs w.heap.size w hB (by omega)
    have hp2 := (hk2 (w.heap.size + 1 + 1) (by omega)).trans HP.out
    have hr2 := (hk2 (w.heap.size + 1) (by omega)).trans HR.out
    clear hg hsW hB hk2 HP HR
    obtain ⟨s0, s1, s2, s3, s4⟩ := cell2 hp2
    obtain ⟨t0, t1, t2, t3, t4⟩ := cell2 hr2
    have HR2 := toHid hr2
    clear hp2 hr2
    have HW := toHid hrow
    clear hrow
    go_wp2
    obtain ⟨r0, r1, -⟩ := cell2 (ring_set (u := .slice (some ⟨w.heap.size + 1 + 1 + 1, 0, none⟩) r.fr.length r.fr.length) (v := .int .i64 r.hand) HR2.out)
    refine bodyPost_ret (v := rgV (some ⟨w.heap.size + 1 + 1 + 1, 0, none⟩) r.fr.length r) (by simp [results, Try.results83, go_sem, r0, r1]) rfl ?_
    exact ⟨_, rfl, by omega, (HW.out.other ⟨w.heap.size + 1, 0, none⟩ _ (by simp; try omega)).other ⟨w.heap.size + 1, 1, none⟩ _ (by simp; try omega), (hB2.setCell (p := ⟨w.heap.size + 1, 0, none⟩) (by simp) _).setCell (p := ⟨w.heap.size + 1, 1, none⟩) (by simp) _⟩
end Go.Proofs.Ytcloinonhpaojaa.Ck

/-
  A ring in which one frame is another.
-/
namespace Go.Proofs.Ytcloinonhpaojaa.Ck
open Go.RowKit

theorem al1 (w : World) (a : Obj) : (w.alloc a).heap[w.heap.size]? = some a ∧ (w.alloc a).heap.size = w.heap.size + 1 ∧ Below w.heap.size w (w.alloc a) :=
  ⟨heap_alloc_new w a, by simp, (Below.refl _ w).alloc (Nat.le_refl _) _⟩
theorem al2 (w : World) (a b : Obj) : ((w.alloc a).alloc b).heap[w.heap.size]? = some a ∧ ((w.alloc a).alloc b).heap[w.heap.size + 1]? = some b ∧ ((w.alloc a).alloc b).heap.size = w.heap.size + 2 ∧ Below w.heap.size w ((w.alloc a).alloc b) := by
  refine ⟨?_, ?_, by simp, ((Below.refl _ w).alloc (Nat.le_refl _) _).alloc (by simp) _⟩
  · show ((w.heap.push _).push _)[w.heap.size]? = _
    simp only [Array.getElem?_push, Array.size_push]
    rw [if_neg (by omega), if_pos trivial]
  · show ((w.heap.push _).push _)[w.heap.size + 1]? = _
    simp only [Array.getElem?_push, Array.size_push]
    rw [if_pos trivial]
theorem al3 (w : World) (a b c : Obj) : (((w.alloc a).alloc b).alloc c).heap[w.heap.size]? = some a ∧ (((w.alloc a).alloc b).alloc c).heap[w.heap.size + 1]? = some b ∧ (((w.alloc a).alloc b).alloc c).heap[w.heap.size + 1 + 1]? = some c ∧ (((w.alloc a).alloc b).alloc c).heap.size = w.heap.size + 3 ∧ Below w.heap.size w (((w.alloc a).alloc b).alloc c) := by
  refine ⟨?_, ?_, ?_, by simp, (((Below.refl _ w).alloc (Nat.le_refl _) _).alloc (by simp) _).alloc (by simp; omega) _⟩
  · show (((w.heap.push _).push _).push _)[w.heap.size]? = _
    simp only [Array.getElem?_push, Array.size_push]
    rw [if_neg (by omega), if_neg (by omega), if_pos trivial]
  · show (((w.heap.push _).push _).push _)[w.heap.size + 1]? = _
    simp only [Array.getElem?_push, Array.size_push]
    rw [if_neg (by omega), if_pos trivial]
  · show (((w.heap.push _).push _).push _)[w.heap.size + 1 + 1]? = _
    simp only [Array.getElem?_push, Array.size_push]
    rw [if_pos trivial]

/-- A frame stored into a row, then a ring into a block elsewhere. -/
theorem frame_ring {w : World} {g q : Nat} {l : List Fr} {k : Nat} {f : Fr} {u v x y : Value} (h : RowF w g l) (hk : k < l.length) (hq : w.heap[q]? = some (.cells #[x, y] 36)) (hn : q ≠ g) :
    RowF (((((w.setCell ⟨g, k * 3, none⟩ (.int .i64 f.page)).setCell ⟨g, k * 3 + 1, none⟩ (.bool f.used)).setCell ⟨g, k * 3 + 2, none⟩ (.int .i64 f.pins)).setCell ⟨q, 0, none⟩ u).setCell ⟨q, 1, none⟩ v) g (l.set k f) ∧
    (((((w.setCell ⟨g, k * 3, none⟩ (.int .i64 f.page)).setCell ⟨g, k * 3 + 1, none⟩ (.bool f.used)).setCell ⟨g, k * 3 + 2, none⟩ (.int .i64 f.pins)).setCell ⟨q, 0, none⟩ u).setCell ⟨q, 1, none⟩ v).heap[q]? = some (.cells #[u, v] 36) := by
  refine ⟨((h.setAll k hk f).other ⟨q, 0, none⟩ _ hn).other ⟨q, 1, none⟩ _ hn, ring_set (x := x) (y := y) ?_⟩
  rw [heap_setCell_other _ _ _ _ (by simpa using fun e => hn e), heap_setCell_other _ _ _ _ (by simpa using fun e => hn e), heap_setCell_other _ _ _ _ (by simpa using fun e => hn e)]
  exact hq

set_option maxHeartbeats 2000000 in
theorem with_any (a : Option Addr) (c : Nat) (r : Rg) (k : Nat) (f : Fr) (w : World) (h : SlF w a r.fr) (hM : MayR r) (hk : k < r.fr.length) :
    Calls Try.prog 61 #[rgV a c r, .int .i64 (k : Int), .agg (frV f)] w fun e w' => ∃ g c', e = .returned (rgV (some ⟨g, 0, none⟩) c' (withR r k f)) ∧ w.heap.size ≤ g ∧ RowF w' g (withR r k f).fr ∧ Below w.heap.size w w' := by
  have h16 := hM.most
  obtain ⟨pg, u, pn⟩ := f
  simp only [frV]
  go_enter Try.func61, Try.ntmps61
  go_wp2_with fail
  obtain ⟨-, i1, i2, i3, i4⟩ := al3 w (.cells (rgC a c r) 36) (.cells #[.int .i64 pg, .bool u, .int .i64 pn] 123) (.cells #[.slice none 0 0, .int .i64 0] 36)
  generalize World.alloc (World.alloc (World.alloc _ _) _) _ = W at i1 i2 i3 i4 ⊢
  refine Calls.mono (copied_any a c r W (h.below i4) hM) ?_
  rintro e w1 ⟨g, rfl, hg, hrow, hb1⟩
  have hB1 := below_on i4 hb1
  have k0 := box_in' i1 hb1
  have k1 := box_in' i2 hb1
  have hgs : w.heap.size + 3 ≤ g := by omega
  clear i1 i2 i3 i4 hb1 h hg
  have hgl := hrow.lt
  obtain ⟨p0, p1, p2, p3, p4, p5, p6⟩ := cell3 k0
  obtain ⟨x0, x1, x2, x3, x4⟩ := cell2 k1
  obtain ⟨a0, a1, a2, a3, a4, a5⟩ := hrow.at_ k hk
  have HR := toHid hrow
  have HB := toHid hB1
  have HK := toHid k1
  clear hrow hB1 k0 k1
  have hne : ¬ g = w1.heap.size := by omega
  have hne2 : ¬ w.heap.size + 1 = g := by omega
  have hne3 : ¬ w1.heap.size = g := by omega
  have hne4 : ¬ g = w.heap.size + 1 + 1 := by omega
  go_wp2
  obtain ⟨hrow3, k4⟩ := frame_ring (f := ⟨pg, u, pn⟩) (u := .slice (some ⟨g, 0, none⟩) r.fr.length r.fr.length) (v := .int .i64 r.hand) HR.out hk HK.out (by omega)
  have hB3 := ((((HB.out.setCell (p := ⟨g, k * 3, none⟩) (by simp; omega) (.int .i64 pg)).setCell (p := ⟨g, k * 3 + 1, none⟩) (by simp; omega) (.bool u)).setCell (p := ⟨g, k * 3 + 2, none⟩) (by simp; omega) (.int .i64 pn)).setCell (p := ⟨w.heap.size + 1 + 1, 0, none⟩) (by simp; omega) (.slice (some ⟨g, 0, none⟩) r.fr.length r.fr.length)).setCell (p := ⟨w.heap.size + 1 + 1, 1, none⟩) (by simp; omega) (.int .i64 r.hand)
  generalize World.setCell (World.setCell (World.setCell (World.setCell (World.setCell _ _ _) _ _) _ _) _ _) _ _ = W9 at hrow3 k4 hB3 ⊢
  obtain ⟨r0, r1, -⟩ := cell2 (box_in' k4 (al1 W9 (.cells #[.slice (some ⟨g, 0, none⟩) r.fr.length r.fr.length, .int .i64 r.hand] 36)).2.2)
  refine bodyPost_ret (v := rgV (some ⟨g, 0, none⟩) r.fr.length (withR r k ⟨pg, u, pn⟩)) (by simp [results, Try.results61, go_sem, r0, r1, withR]) rfl ?_
  exact ⟨g, r.fr.length, rfl, by omega, hrow3.below (al1 _ _).2.2, below_on hB3 (al1 _ _).2.2⟩
end Go.Proofs.Ytcloinonhpaojaa.Ck
