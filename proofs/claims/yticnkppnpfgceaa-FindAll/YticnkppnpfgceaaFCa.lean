/-
  What a walk over records has in memory; changes, tells, behind, soil, note.
-/
import Derived.Test.YticnkppnpfgceaaFTa
import Derived.Test.YticnkppnpfgceaaFMa
import Derived.Deep.RegionHeld3
namespace Go.Proofs.Yticnkppnpfgceaa.Mg
open Go.RowKit Go.Maps

abbrev gtC (g : Gt) : Array Value := #[.int .i64 g.st, .int .u64 (g.last : Int), .int .u64 (g.next : Int)]
abbrev gtV (g : Gt) : Value := .agg (gtC g)
def gF (t : List (Int × Gt)) : Lit → Option Value
  | .int .i64 k => (look t k).map gtV
  | _ => none
abbrev nV (n : Nat) : Value := .int .u64 (n : Int)
def dF (d : List (Int × Nat)) : Lit → Option Value
  | .int .i64 k => (look d k).map nV
  | _ => none
abbrev wkC (A D : Nat) : Array Value := #[.map (some A), .map (some D)]
abbrev wkV (A D : Nat) : Value := .agg (wkC A D)

/-- Two maps have what a log left. -/
structure Wk (w : World) (A D : Nat) (K : List Lit) (x : Lf) : Prop where
  t : MapV Try.prog 3 w A K (gF x.t)
  d : MapV Try.prog 3 w D K (dF x.d)
  ne : A ≠ D
  kl : K.length ≤ 1000
  ok : x.Ok
theorem Wk.at {w w' : World} {A D : Nat} {K : List Lit} {x : Lf} (h : Wk w A D K x) (e1 : w'.heap[A]? = w.heap[A]?) (e2 : w'.heap[D]? = w.heap[D]?) : Wk w' A D K x := ⟨h.t.at e1, h.d.at e2, h.ne, h.kl, h.ok⟩
theorem Wk.below {w w' : World} {A D : Nat} {K : List Lit} {x : Lf} (h : Wk w A D K x) (hb : Below w.heap.size w w') : Wk w' A D K x := h.at (hb.block _ h.t.lt) (hb.block _ h.d.lt)

theorem changes44 (r : Rc) (p : Pl) (w : World) : Calls Try.prog 44 #[recV r p] w fun e w' => e = .returned (.bool (chg r)) ∧ Below w.heap.size w w' := by
  have HB := toHid (show Below w.heap.size w (w.alloc (.cells (recC r p) 50)) from (Below.refl _ _).alloc (Nat.le_refl _) _)
  by_cases h1 : r.kind = 1
  · have q1 : (r.kind == 1) = true := by simp [h1]
    have HC := toHid (show chg r = true by simp [chg, h1])
    clear h1
    go_enter Try.func44, Try.ntmps44
    go_wp2
    go_ret
    exact ⟨by rw [HC.out]; rfl, HB.out⟩
  · have q1 : (r.kind == 1) = false := by simp [h1]
    by_cases h2 : r.kind = 2
    · have q2 : (r.kind == 2) = true := by simp [h2]
      have HC := toHid (show chg r = true by simp [chg, h2])
      clear h1 h2
      go_enter Try.func44, Try.ntmps44
      go_wp2
      go_ret
      exact ⟨by rw [HC.out]; rfl, HB.out⟩
    · have q2 : (r.kind == 2) = false := by simp [h2]
      have HC := toHid (show chg r = false by simp [chg, h1, h2])
      clear h1 h2
      go_enter Try.func44, Try.ntmps44
      go_wp2
      go_ret
      exact ⟨by rw [HC.out]; rfl, HB.out⟩
theorem tells54 (r : Rc) (p : Pl) (w : World) : Calls Try.prog 54 #[recV r p] w fun e w' => e = .returned (.int .u64 (tellN r : Int)) ∧ Below w.heap.size w w' := by
  have HB := toHid (show Below w.heap.size w (w.alloc (.cells (recC r p) 50)) from (Below.refl _ _).alloc (Nat.le_refl _) _)
  by_cases h2 : r.kind = 2
  · have q2 : (r.kind == 2) = true := by simp [h2]
    have HC := toHid (show tellN r = r.undo by simp [tellN, h2])
    clear h2
    go_enter Try.func54, Try.ntmps54
    go_wp2
    go_ret
    exact ⟨by rw [HC.out]; rfl, HB.out⟩
  · have q2 : (r.kind == 2) = false := by simp [h2]
    have HC := toHid (show tellN r = r.lsn by simp [tellN, h2])
    clear h2
    go_enter Try.func54, Try.ntmps54
    go_wp2
    go_ret
    exact ⟨by rw [HC.out]; rfl, HB.out⟩

section
variable {w : World} {A D : Nat} {K : List Lit} {x : Lf}
theorem gF_put {t : List (Int × Gt)} (h : Ris t) (k : Int) (g : Gt) (y : Lit) : upd (gF t) (.int .i64 k) (some (gtV g)) y = gF (putL t k g) y := by
  by_cases e : y = .int .i64 k
  · subst e
    rw [upd_same]
    show _ = (look (putL t k g) k).map gtV
    rw [look_putL h, if_pos rfl]; rfl
  · rw [upd_other _ _ e]
    cases y <;> try rfl
    rename_i kd u
    cases kd <;> try rfl
    show (look t u).map gtV = (look (putL t k g) u).map gtV
    rw [look_putL h, if_neg (fun e2 => e (by rw [e2]))]
theorem gF_gone {t : List (Int × Gt)} (h : Ris t) (k : Int) (y : Lit) : upd (gF t) (.int .i64 k) none y = gF (goneL t k) y := by
  by_cases e : y = .int .i64 k
  · subst e
    rw [upd_same]
    show _ = (look (goneL t k) k).map gtV
    rw [look_goneL h, if_pos rfl]; rfl
  · rw [upd_other _ _ e]
    cases y <;> try rfl
    rename_i kd u
    cases kd <;> try rfl
    show (look t u).map gtV = (look (goneL t k) u).map gtV
    rw [look_goneL h, if_neg (fun e2 => e (by rw [e2]))]
theorem dF_put {t : List (Int × Nat)} (h : Ris t) (k : Int) (n : Nat) (y : Lit) : upd (dF t) (.int .i64 k) (some (.int .u64 (n : Int))) y = dF (putL t k n) y := by
  by_cases e : y = .int .i64 k
  · subst e
    rw [upd_same]
    show _ = (look (putL t k n) k).map nV
    rw [look_putL h, if_pos rfl]; rfl
  · rw [upd_other _ _ e]
    cases y <;> try rfl
    rename_i kd u
    cases kd <;> try rfl
    show (look t u).map nV = (look (putL t k n) u).map nV
    rw [look_putL h, if_neg (fun e2 => e (by rw [e2]))]

theorem Wk.lookT (h : Wk w A D K x) {k : Int} (hk : Wi k) : (Instr.lookup 62 (.map (some A)) (.int .i64 k) false).run Try.prog w = .ok (gtV ((look x.t k).getD gt0)) w := by
  have hl := h.t.look lawI Try.underlying62 zero91 (keyI hk)
  rw [hl]
  show Result.ok (((look x.t k).map gtV).getD (.agg #[.int .i64 0, .int .u64 0, .int .u64 0])) w = _
  cases look x.t k <;> rfl
theorem Wk.lookD (h : Wk w A D K x) {k : Int} (hk : Wi k) : (Instr.lookup 63 (.map (some D)) (.int .i64 k) false).run Try.prog w = .ok (.int .u64 (((look x.d k).getD 0 : Nat) : Int)) w := by
  have hl := h.d.look lawI Try.underlying63 zero30 (keyI hk)
  rw [hl]
  show Result.ok (((look x.d k).map nV).getD (.int .u64 0)) w = _
  cases look x.d k <;> rfl
theorem Wk.lookD2 (h : Wk w A D K x) {k : Int} (hk : Wi k) : (Instr.lookup 63 (.map (some D)) (.int .i64 k) true).run Try.prog w = .ok (.tuple #[.int .u64 (((look x.d k).getD 0 : Nat) : Int), .bool (look x.d k).isSome]) w := by
  have hl := h.d.look2 lawI Try.underlying63 zero30 (keyI hk)
  rw [hl]
  show Result.ok (Value.tuple #[((look x.d k).map nV).getD (.int .u64 0), .bool ((look x.d k).map nV).isSome]) w = _
  cases look x.d k <;> rfl
theorem Wk.putT (h : Wk w A D K x) {k : Int} (hk : Wi k) (hin : Lit.int .i64 k ∈ K) (g : Gt) : ∃ w', (Instr.mapUpdate 62 (.map (some A)) (.int .i64 k) (gtV g)).run Try.prog w = .ok () w' ∧ Wk w' A D K ⟨putL x.t k g, x.d⟩ ∧ Turn (fun i => i = A) w w' := by
  have hkl := h.kl
  obtain ⟨w', h1, h2, h3⟩ := h.t.store lawI Try.underlying62 (by unfold maxLen; omega) (keyI hk) hin (gtV g)
  have ht := Turn.of_map h3
  exact ⟨w', h1, ⟨h2.congr fun y => gF_put h.ok.t k g y, h.d.at (ht.block D h.d.lt (fun e => h.ne e.symm)), h.ne, hkl, ⟨putL_ris h.ok.t, h.ok.d⟩⟩, ht⟩
theorem Wk.putD (h : Wk w A D K x) {k : Int} (hk : Wi k) (hin : Lit.int .i64 k ∈ K) (n : Nat) : ∃ w', (Instr.mapUpdate 63 (.map (some D)) (.int .i64 k) (.int .u64 (n : Int))).run Try.prog w = .ok () w' ∧ Wk w' A D K ⟨x.t, putL x.d k n⟩ ∧ Turn (fun i => i = D) w w' := by
  have hkl := h.kl
  obtain ⟨w', h1, h2, h3⟩ := h.d.store lawI Try.underlying63 (by unfold maxLen; omega) (keyI hk) hin (.int .u64 (n : Int))
  have ht := Turn.of_map h3
  exact ⟨w', h1, ⟨h.t.at (ht.block A h.t.lt h.ne), h2.congr fun y => dF_put h.ok.d k n y, h.ne, hkl, ⟨h.ok.t, putL_ris h.ok.d⟩⟩, ht⟩
theorem Wk.delT (h : Wk w A D K x) {k : Int} (hk : Wi k) (ty : TypeId) : ∃ w', (Builtin.delete_ #[62, 3] ty #[.map (some A), .int .i64 k]).run Try.prog w = .ok (.tuple #[]) w' ∧ (Wk w' A D K ⟨goneL x.t k, x.d⟩ ∧ Turn (fun i => i = A) w w') := by
  obtain ⟨w', h1, h2, h3⟩ := h.t.drop lawI Try.underlying62 (keyI hk) ty
  have ht := Turn.of_map h3
  exact ⟨w', h1, ⟨h2.congr fun y => gF_gone h.ok.t k y, h.d.at (ht.block D h.d.lt (fun e => h.ne e.symm)), h.ne, h.kl, ⟨goneL_ris h.ok.t, h.ok.d⟩⟩, ht⟩
end
end Go.Proofs.Yticnkppnpfgceaa.Mg
