/-
  What Merge holds: logs on a heap, and what was told so far.
-/
import Derived.Test.YtnejcjebepidcaaRd
import Derived.Test.YtnejcjebepidcaaHRf
namespace Go.Proofs.Ytnejcjebepidcaa
open Go.RowKit

/-- A log that isn't empty, as a thing on a heap. -/
def Lg (w0 : World) (B : Nat) (v : Value) (k : Int) (l : List Rc) : Prop :=
  ∃ blk o c r s, l = r :: s ∧ v = .slice (some ⟨blk, o, none⟩) (s.length + 1) c ∧ s.length + 1 ≤ c ∧ blk < B ∧ SlR w0 (some ⟨blk, o, none⟩) (r :: s) ∧ k = (r.lsn : Int) ∧ risB (r :: s) = true

theorem Lg.rd {w0 W : World} {B : Nat} {v : Value} {k : Int} {l : List Rc} (h : Lg w0 B v k l) (hb : Below B w0 W) : RdR B W v k := by
  obtain ⟨blk, o, c, r, s, rfl, rfl, _, hB, hs, rfl, _⟩ := h
  obtain ⟨p, h1, _⟩ := hs.get 0 (by simp)
  refine ⟨blk, o, s.length, c, rfl, hB, ?_⟩
  rw [hb.cell (p := ⟨blk, o + 1, none⟩) hB]
  simpa using h1.2.1

theorem HeapR.kind {B h : Nat} {th : Nat → Value} {key : Nat → Int} {live : List Nat} {N : Nd} {tv : Value} {tops : List Nat} {w : World} (H : HeapR B h th key live N tv tops w) {k : Nat} (hk : Foot h live N tv k) : ∃ (c : Array Value) (t : Nat), w.heap[k]? = some (Obj.cells c t) ∧ (t = 101 ∨ t = 108 ∨ t = 103) := by
  rcases hk with rfl | hk | ⟨b, hb, hk⟩ | hk
  · exact ⟨_, _, H.blk, .inl rfl⟩
  · exact ⟨_, _, H.nodes.blk k hk, .inr (.inl rfl)⟩
  · rcases (H.nodes.own b hb).2 with ⟨e, _⟩ | ⟨g, cap, cur, e, _, hg, _⟩
    · rw [e] at hk; simp [Value.ownBlock] at hk
    · rw [e] at hk
      simp [Value.ownBlock] at hk
      subst hk
      exact ⟨_, _, hg, .inr (.inr rfl)⟩
  · rcases H.row.2 with ⟨e, _⟩ | ⟨g, cap, cur, e, _, hg, _⟩
    · rw [e] at hk; simp [Value.ownBlock] at hk
    · rw [e] at hk
      simp [Value.ownBlock] at hk
      subst hk
      exact ⟨_, _, hg, .inr (.inr rfl)⟩

theorem HeapR.stay {B h : Nat} {th : Nat → Value} {key : Nat → Int} {live : List Nat} {N : Nd} {tv : Value} {tops : List Nat} {w w' : World} (H : HeapR B h th key live N tv tops w)
    (hk : ∀ (k : Nat) (c : Array Value) (t : Nat), (t = 101 ∨ t = 108 ∨ t = 103) → w.heap[k]? = some (Obj.cells c t) → w'.heap[k]? = w.heap[k]?) (hb : Below B w w') : HeapR B h th key live N tv tops w' :=
  ⟨(hk h _ _ (.inl rfl) H.blk).trans H.blk, own_stay H.row (fun k c _ hc => hk k c _ (.inr (.inr rfl)) hc), H.apart,
   ⟨fun b hbl => (hk b _ _ (.inr (.inl rfl)) (H.nodes.blk b hbl)).trans (H.nodes.blk b hbl), fun b hbl => own_stay (H.nodes.own b hbl) (fun k c _ hc => hk k c _ (.inr (.inr rfl)) hc), H.nodes.apart, H.nodes.base⟩,
   H.nodup, H.perm, H.ord, fun x hx => (H.keys x hx).low hb, H.few, Nat.le_trans H.base hb.size, H.high⟩

/-- Records that are their caller's own, in a row from B on. -/
def AllOk (w : World) (B : Nat) (v : Value) (out : List Rc) : Prop :=
  ∃ qs : List (Rc × Pl), qs.map (·.1) = out ∧ w.ownsRow B 46 12 v out.length (qs.flatMap fun q => recL q.1 q.2) ∧ ∀ q, q ∈ qs → Own w B q.1 q.2

theorem AllOk.nil (w : World) (B : Nat) : AllOk w B (.slice none 0 0) [] := ⟨[], rfl, World.ownsRow_nil _ _ _ _, by simp⟩
theorem AllOk.stay {w w' : World} {B : Nat} {v : Value} {out : List Rc} (h : AllOk w B v out) (hk : ∀ (k : Nat) (c : Array Value) (t : Nat), (t = 46 ∨ t = 65 ∨ t = 67) → w.heap[k]? = some (Obj.cells c t) → w'.heap[k]? = w.heap[k]?) : AllOk w' B v out := by
  obtain ⟨qs, h1, h2, h3⟩ := h
  exact ⟨qs, h1, own_stay h2 (fun k c _ hc => hk k c _ (.inl rfl) hc), fun q hq => (h3 q hq).stay (fun k c hc => by rcases hc with hc | hc; exact hk k c _ (.inr (.inl rfl)) hc; exact hk k c _ (.inr (.inr rfl)) hc)⟩
theorem AllOk.shape {w : World} {B : Nat} {v : Value} {out : List Rc} (h : AllOk w B v out) : ∃ a c, v = .slice a out.length c := by
  obtain ⟨qs, _, h2, _⟩ := h
  exact ownsRow_shape h2

theorem recL_get (r : Rc) (p : Pl) : (recL r p)[1]? = some (.int .u64 (r.lsn : Int)) := rfl
theorem own_at12 {w : World} {B n c g : Nat} {qs : List (Rc × Pl)} (h : w.ownsRow B 46 12 (.slice (some ⟨g, 0, none⟩) n c) n (qs.flatMap fun q => recL q.1 q.2)) {i : Nat} {q : Rc × Pl} (hq : qs[i]? = some q) : At12 w g (i * 12) q.1 q.2 := by
  have e : ∀ k, k < 12 → (qs.flatMap fun q => recL q.1 q.2)[i * 12 + k]? = (recL q.1 q.2)[k]? := fun k hk => by
    rw [flat_get (fun q : Rc × Pl => recL q.1 q.2) 12 (fun _ => rfl) qs i k hk, hq]
    rfl
  exact ⟨own_cell h (e 0 (by omega)), own_cell h (e 1 (by omega)), own_cell h (e 2 (by omega)), own_cell h (e 3 (by omega)), own_cell h (e 4 (by omega)), own_cell h (e 5 (by omega)), own_cell h (e 6 (by omega)), own_cell h (e 7 (by omega)), own_cell h (e 8 (by omega)), own_cell h (e 9 (by omega)), own_cell h (e 10 (by omega)), own_cell h (e 11 (by omega))⟩
theorem AllOk.slR {w : World} {B c : Nat} {a : Option Addr} {out : List Rc} (h : AllOk w B (.slice a out.length c) out) : SlR w a out := by
  obtain ⟨qs, rfl, h2, h3⟩ := h
  rcases own_addr h2 with ⟨rfl, e, _⟩ | ⟨g, cur, rfl, _⟩
  · have : qs.map (·.1) = [] := List.eq_nil_of_length_eq_zero e
    rw [this]
    exact SlR.nil _ _ (fun y hy => by simp at hy)
  · refine ⟨fun e => by simp at e, fun x hx i r hr => ?_⟩
    simp at hx
    subst hx
    rw [List.getElem?_map] at hr
    obtain ⟨q, hq, rfl⟩ := Option.map_eq_some_iff.1 hr
    exact ⟨rfl, q.2, by simpa using own_at12 h2 hq, (h3 q (List.mem_of_getElem? hq)).ri⟩

/-- One more. -/
theorem AllOk.add {y : World} {B : Nat} {v' : Value} {out : List Rc} {r : Rc} {p : Pl} (h : ∃ qs : List (Rc × Pl), qs.map (·.1) = out ∧ y.ownsRow B 46 12 v' (out.length + 1) ((qs.flatMap fun q => recL q.1 q.2) ++ recL r p) ∧ ∀ q, q ∈ qs → Own y B q.1 q.2) (ho : Own y B r p) : AllOk y B v' (out ++ [r]) := by
  obtain ⟨qs, h1, h2, h3⟩ := h
  refine ⟨qs ++ [(r, p)], by simp [h1], ?_, fun q hq => ?_⟩
  · rw [List.length_append, List.flatMap_append, List.flatMap_cons, List.flatMap_nil, List.append_nil]
    exact h2
  · rcases List.mem_append.1 hq with hq | hq
    · exact h3 q hq
    · rw [List.mem_singleton.1 hq]; exact ho

/-- Logs on a heap. -/
structure Mg (w0 : World) (h : Nat) (th : Nat → Value) (key : Nat → Int) (live : List Nat) (N : Nd) (tv : Value) (tops : List Nat) (sf : Nat → List Rc) (W : World) : Prop where
  heap : HeapR w0.heap.size h th key live N tv tops W
  logs : ∀ b, b ∈ live → Lg w0 w0.heap.size (th b) (key b) (sf b)
  low : Below w0.heap.size w0 W

theorem Mg.stay {w0 W W' : World} {h : Nat} {th : Nat → Value} {key : Nat → Int} {live : List Nat} {N : Nd} {tv : Value} {tops : List Nat} {sf : Nat → List Rc} (H : Mg w0 h th key live N tv tops sf W)
    (hk : ∀ (k : Nat) (c : Array Value) (t : Nat), (t = 101 ∨ t = 108 ∨ t = 103) → W.heap[k]? = some (Obj.cells c t) → W'.heap[k]? = W.heap[k]?) (hb : Below w0.heap.size W W') : Mg w0 h th key live N tv tops sf W' :=
  ⟨H.heap.stay hk hb, H.logs, H.low.trans hb⟩
theorem Mg.below {w0 W W' : World} {h : Nat} {th : Nat → Value} {key : Nat → Int} {live : List Nat} {N : Nd} {tv : Value} {tops : List Nat} {sf : Nat → List Rc} (H : Mg w0 h th key live N tv tops sf W) (hb : Below W.heap.size W W') : Mg w0 h th key live N tv tops sf W' :=
  H.stay (fun k _ _ _ hc => hb.block k (Array.getElem?_eq_some_iff.1 hc).1) (hb.mono H.low.size)
theorem AllOk.below {w w' : World} {B : Nat} {v : Value} {out : List Rc} (h : AllOk w B v out) (hb : Below w.heap.size w w') : AllOk w' B v out := h.stay (fun k _ _ _ hc => hb.block k (Array.getElem?_eq_some_iff.1 hc).1)
/-- What the heap moves leaves records. -/
theorem AllOk.moved {B h : Nat} {th : Nat → Value} {key : Nat → Int} {live : List Nat} {N : Nd} {tv : Value} {tops : List Nat} {w w' : World} {v : Value} {out : List Rc} {F' : Nat → Prop} (ha : AllOk w B v out) (H : HeapR B h th key live N tv tops w) (hm : Moved (Foot h live N tv) F' w w') : AllOk w' B v out :=
  ha.stay (fun k c t ht hc => hm.keep k (Array.getElem?_eq_some_iff.1 hc).1 (fun e => by
    obtain ⟨c', t', hc', ht'⟩ := H.kind e
    rw [hc] at hc'
    injection hc' with hc'
    injection hc' with _ hc'
    subst hc'
    omega))

end Go.Proofs.Ytnejcjebepidcaa
