/-
  What a walk left, told.
-/
import Derived.Test.YticnkppnpfgceaaFCd
import Derived.Test.YticnkppnpfgceaaFSo
import Derived.Deep.DeepCutAuto
namespace Go.Proofs.Yticnkppnpfgceaa.Mg
open Go.RowKit Go.Maps Go.Shelf Go.Sort

theorem Try.info30 : (Try.prog.info? 30).map (fun i => (i.zero, i.size, i.bytes)) = some (some (.int .u64 0), 1, 8) := by kernel_rfl

/-- The rows as they are told. -/
def tCells (t : List (Int × Gt)) : List Value := t.flatMap fun p => [.int .i64 p.1, .int .i64 p.2.st, .int .u64 (p.2.last : Int)]
def nCells (t : List (Int × Gt)) : List Value := t.map fun p => .int .u64 (p.2.next : Int)
def dCells (d : List (Int × Nat)) : List Value := d.flatMap fun p => [.int .i64 p.1, .int .u64 (p.2 : Int)]
theorem tCells_snoc (t : List (Int × Gt)) (p : Int × Gt) : tCells (t ++ [p]) = tCells t ++ [.int .i64 p.1, .int .i64 p.2.st, .int .u64 (p.2.last : Int)] := by simp [tCells]
theorem nCells_snoc (t : List (Int × Gt)) (p : Int × Gt) : nCells (t ++ [p]) = nCells t ++ [.int .u64 (p.2.next : Int)] := by simp [nCells]
theorem dCells_snoc (d : List (Int × Nat)) (p : Int × Nat) : dCells (d ++ [p]) = dCells d ++ [.int .i64 p.1, .int .u64 (p.2 : Int)] := by simp [dCells]
theorem redo_snoc (d : List (Int × Nat)) (p : Int × Nat) : redoL (d ++ [p]) = if redoL d = 0 ∨ p.2 < redoL d then p.2 else redoL d := by unfold redoL; rw [List.foldl_append]; rfl

/-- Rows of what was left, of one's own. -/
structure LfR (w : World) (B : Nat) (vt vn vd : Value) (x : Lf) : Prop where
  t : w.ownsRow B 57 3 vt x.t.length (tCells x.t)
  n : w.ownsRow B 30 1 vn x.t.length (nCells x.t)
  d : w.ownsRow B 60 2 vd x.d.length (dCells x.d)
theorem LfR.below {w w' : World} {B : Nat} {vt vn vd : Value} {x : Lf} (h : LfR w B vt vn vd x) (hb : Below w.heap.size w w') : LfR w' B vt vn vd x := ⟨own_below h.t hb, own_below h.n hb, own_below h.d hb⟩
theorem LfR.nil (w : World) (B : Nat) : LfR w B (.slice none 0 0) (.slice none 0 0) (.slice none 0 0) Lf.nil := ⟨World.ownsRow_nil _ _ _ _, World.ownsRow_nil _ _ _ _, World.ownsRow_nil _ _ _ _⟩

/-- Keys of a map, by rising number, as the rows have them. -/
theorem keys_eq {β : Type} {l : List (Int × β)} {ts : List Int} (hl : Ris l) (hr : ts.Pairwise (· < ·)) (hm : ∀ t, t ∈ ts ↔ look l t ≠ none) : ts = l.map Prod.fst := by
  have h2 : ∀ (a b : List Int), a.Pairwise (· < ·) → b.Pairwise (· < ·) → (∀ t, t ∈ a ↔ t ∈ b) → a = b := by
    intro a
    induction a with
    | nil => intro b _ _ h; cases b with
      | nil => rfl
      | cons y b => have := (h y).2 (by simp); simp at this
    | cons x a ih =>
      intro b ha hb h
      cases b with
      | nil => have := (h x).1 (by simp); simp at this
      | cons y b =>
        have ha' := List.pairwise_cons.1 ha
        have hb' := List.pairwise_cons.1 hb
        have e : x = y := by
          have h1 := (h x).1 (by simp)
          have h3 := (h y).2 (by simp)
          rcases List.mem_cons.1 h1 with e | e
          · exact e
          · rcases List.mem_cons.1 h3 with e' | e'
            · exact e'.symm
            · have := hb'.1 x e; have := ha'.1 y e'; omega
        subst e
        rw [ih b ha'.2 hb'.2 fun t => ⟨fun ht => ?_, fun ht => ?_⟩]
        · have h4 := ha'.1 t ht
          rcases List.mem_cons.1 ((h t).1 (by simp [ht])) with e | e
          · omega
          · exact e
        · have h4 := hb'.1 t ht
          rcases List.mem_cons.1 ((h t).2 (by simp [ht])) with e | e
          · omega
          · exact e
  exact h2 _ _ hr hl fun t => by rw [hm, look_keys]

section
variable {w : World} {A D : Nat} {K : List Lit} {x : Lf}
theorem Wk.keysT (h : Wk w A D K x) : (∀ W, Below w.heap.size w W → Calls Try.prog 47 #[.map (some A)] W fun e w' => e = .returned (.func (.func 58) #[] #[.pointer (some ⟨W.heap.size, 0, none⟩)]) ∧ w' = W.alloc (.cells #[.map (some A)] 62)) ∧
    ∀ W, Below w.heap.size w W → Calls Try.prog 46 #[.func (.func 58) #[] #[.pointer (some ⟨W.heap.size, 0, none⟩)]] (W.alloc (.cells #[.map (some A)] 62)) fun e w' => ∃ va vc, e = .returned (.slice va x.t.length vc) ∧ w'.ownsRow W.heap.size 3 1 (.slice va x.t.length vc) x.t.length ((x.t.map Prod.fst).map (Value.int .i64)) ∧ Below W.heap.size W w' := by
  refine ⟨fun W _ => keys47 (some A) W, fun W hb => ?_⟩
  obtain ⟨D0, ho, hnd, hm, hsz⟩ := intKeys_spec (h.below hb).t
  have hkl := h.kl
  refine (sorted46 A _ D0 vEl W ho (by unfold maxLen; omega) (by omega)).mono ?_
  rintro e w' ⟨v, ss, rfl, hp, hr, _, hb2⟩
  have e1 : (srtI ss).length = ss.length := (srtI_perm ss).length_eq
  have e2 : srtI ss = x.t.map Prod.fst := keys_eq h.ok.t (riseI_of (srtI_le ss) (((srtI_perm ss).trans hp).nodup_iff.2 hnd)) fun t => by
    rw [(srtI_perm ss).mem_iff, hp.mem_iff, hm]
    simp only [gF]
    cases look x.t t <;> simp
  have e3 : ss.length = x.t.length := by rw [← e1, e2]; simp
  rw [e2, e3] at hr
  obtain ⟨va, vc, rfl⟩ := ownsRow_shape2 hr
  exact ⟨va, vc, rfl, ownsRow_base hr (by simp), bnext ((Below.refl _ _).alloc (Nat.le_refl _) _) hb2⟩
theorem Wk.keysD (h : Wk w A D K x) : (∀ W, Below w.heap.size w W → Calls Try.prog 48 #[.map (some D)] W fun e w' => e = .returned (.func (.func 59) #[] #[.pointer (some ⟨W.heap.size, 0, none⟩)]) ∧ w' = W.alloc (.cells #[.map (some D)] 63)) ∧
    ∀ W, Below w.heap.size w W → Calls Try.prog 46 #[.func (.func 59) #[] #[.pointer (some ⟨W.heap.size, 0, none⟩)]] (W.alloc (.cells #[.map (some D)] 63)) fun e w' => ∃ va vc, e = .returned (.slice va x.d.length vc) ∧ w'.ownsRow W.heap.size 3 1 (.slice va x.d.length vc) x.d.length ((x.d.map Prod.fst).map (Value.int .i64)) ∧ Below W.heap.size W w' := by
  refine ⟨fun W _ => keys48 (some D) W, fun W hb => ?_⟩
  obtain ⟨D0, ho, hnd, hm, hsz⟩ := intKeys_spec (h.below hb).d
  have hkl := h.kl
  refine (sortedD46 D _ D0 vEl W ho (by unfold maxLen; omega) (by omega)).mono ?_
  rintro e w' ⟨v, ss, rfl, hp, hr, _, hb2⟩
  have e1 : (srtI ss).length = ss.length := (srtI_perm ss).length_eq
  have e2 : srtI ss = x.d.map Prod.fst := keys_eq h.ok.d (riseI_of (srtI_le ss) (((srtI_perm ss).trans hp).nodup_iff.2 hnd)) fun t => by
    rw [(srtI_perm ss).mem_iff, hp.mem_iff, hm]
    simp only [dF]
    cases look x.d t <;> simp
  have e3 : ss.length = x.d.length := by rw [← e1, e2]; simp
  rw [e2, e3] at hr
  obtain ⟨va, vc, rfl⟩ := ownsRow_shape2 hr
  exact ⟨va, vc, rfl, ownsRow_base hr (by simp), bnext ((Below.refl _ _).alloc (Nat.le_refl _) _) hb2⟩
end
end Go.Proofs.Yticnkppnpfgceaa.Mg
