/-
  Rows of records of one's own.
-/
import Derived.Test.YticnkppnpfgceaaMRd
namespace Go.Proofs.Yticnkppnpfgceaa.Mg
open Go.RowKit

/-- Records that are their caller's own, in a row from B on. -/
def AllOk (w : World) (B : Nat) (v : Value) (out : List Rc) : Prop :=
  ∃ qs : List (Rc × Pl), qs.map (·.1) = out ∧ w.ownsRow B 50 12 v out.length (qs.flatMap fun q => recL q.1 q.2) ∧ ∀ q, q ∈ qs → Own w B q.1 q.2

theorem AllOk.nil (w : World) (B : Nat) : AllOk w B (.slice none 0 0) [] := ⟨[], rfl, World.ownsRow_nil _ _ _ _, by simp⟩
theorem own_at12 {w : World} {B n c g : Nat} {qs : List (Rc × Pl)} (h : w.ownsRow B 50 12 (.slice (some ⟨g, 0, none⟩) n c) n (qs.flatMap fun q => recL q.1 q.2)) {i : Nat} {q : Rc × Pl} (hq : qs[i]? = some q) : At12 w g (i * 12) q.1 q.2 := by
  have e : ∀ k, k < 12 → (qs.flatMap fun q => recL q.1 q.2)[i * 12 + k]? = (recL q.1 q.2)[k]? := fun k hk => by
    rw [flat_get (fun q : Rc × Pl => recL q.1 q.2) 12 (fun _ => rfl) qs i k hk, hq]
    rfl
  exact ⟨own_cell h (e 0 (by omega)), own_cell h (e 1 (by omega)), own_cell h (e 2 (by omega)), own_cell h (e 3 (by omega)), own_cell h (e 4 (by omega)), own_cell h (e 5 (by omega)), own_cell h (e 6 (by omega)), own_cell h (e 7 (by omega)), own_cell h (e 8 (by omega)), own_cell h (e 9 (by omega)), own_cell h (e 10 (by omega)), own_cell h (e 11 (by omega))⟩
theorem recL_one (r : Rc) (p : Pl) : ∀ u ∈ recL r p, u.oneCell' = true := by
  intro u hu
  simp [recL] at hu
  rcases hu with rfl | rfl | rfl | rfl | rfl | rfl | rfl | rfl | rfl | rfl | rfl | rfl <;> rfl
theorem news_rec (w : World) (r : Rc) (p : Pl) : ∀ j u, (recL r p)[j]? = some u → (w.alloc (.cells (recC r p) 50)).cell? ((⟨w.heap.size, 0, none⟩ : Addr).add j) = some u := by
  intro j u hu
  rw [add_plain]
  unfold World.cell?
  simp only [heap_alloc_new]
  simpa [recL] using hu

end Go.Proofs.Yticnkppnpfgceaa.Mg
