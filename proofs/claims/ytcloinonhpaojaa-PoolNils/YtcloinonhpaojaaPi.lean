/-
  Update and Delete.
-/
import Derived.Test.YtcloinonhpaojaaPh
namespace Go.Proofs.Ytcloinonhpaojaa
open Go.RowKit

/-- A row cut. -/
theorem own_cut {w : World} {B g cap : Nat} {l m : List Cl} (h : w.ownsRow B 98 3 (.slice (some ⟨g, 0, none⟩) l.length cap) l.length (cellsV l)) (hm : ∃ q, l = m ++ q) :
    w.ownsRow B 98 3 (.slice (some ⟨g, 0, none⟩) m.length cap) m.length (cellsV m) := by
  obtain ⟨q, rfl⟩ := hm
  rcases h.2 with ⟨h1, _⟩ | ⟨g', cap', cur, h1, hB, hh, hc, hm, hs, ht⟩
  · simp at h1
  · simp at h1
    obtain ⟨rfl, rfl⟩ := h1
    simp only [List.length_append] at hc ht
    refine ⟨cellsV_length m, .inr ⟨g, cap, cur, rfl, hB, hh, by omega, hm, hs, ?_⟩⟩
    have := congrArg (List.take (m.length * 3)) ht
    rw [List.take_take, cellsV_append, List.take_left' (cellsV_length m), Nat.min_eq_left (by omega)] at this
    exact this

end Go.Proofs.Ytcloinonhpaojaa
