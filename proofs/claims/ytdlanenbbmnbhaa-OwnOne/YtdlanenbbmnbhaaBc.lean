/-
  A row of orders of one's own, to which orders are put.
-/
import Derived.Test.YtdlanenbbmnbhaaCh
namespace Go.Proofs.Ytdlanenbbmnbhaa
open Go.RowKit

theorem own_one {w w' : World} {q B e size n : Nat} {v : Value} {xs : List Value} (h : w.ownsRow B e size v n xs) (ho : One q w w') (hq : q < B) : w'.ownsRow B e size v n xs := by
  refine ⟨h.1, ?_⟩
  rcases h.2 with h2 | ⟨g, cap, cur, hv, h2, h3, h4⟩
  · exact .inl h2
  · exact .inr ⟨g, cap, cur, hv, h2, by rw [ho.block g (blk_lt h3) (by omega)]; exact h3, h4⟩
theorem own_sd {w : World} {B : Nat} {v : Value} {l : List Od} (h : w.ownsRow B 51 5 v l.length (odVs l)) : ∃ a c, v = .slice a l.length c ∧ SlD w a l := by
  rcases h.2 with ⟨hv, h2⟩ | ⟨g, cap, cur, hv, h2, h3, h4, h5, h6, h7⟩
  · subst hv
    exact ⟨none, 0, by rw [h2], SlD.own (c := 0) (n := l.length) (B := B) (by rw [← h2] at *; exact h) rfl⟩
  · subst hv
    exact ⟨_, cap, rfl, SlD.own h rfl⟩
/-- One block has turned, which is none of the book's. -/
def Grew (B : Nat) (w w' : World) : Prop := ∃ g, B ≤ g ∧ (∀ M, w.heap[g]? ≠ some (.cells M 3)) ∧ One g w w'
theorem Grew.refl {B : Nat} {w : World} (h : B ≤ w.heap.size) : Grew B w w := ⟨w.heap.size, h, fun M e => by simp at e, One.refl _ _⟩
theorem own_grew {w w' : World} {B n : Nat} {v : Value} {xs : List Value} (h : w.ownsRow B 51 5 v n xs) (hB : B ≤ w.heap.size) (hg : w.grownBy w' v.ownBlock) : Grew B w w' := by
  rcases h.2 with ⟨hv, -⟩ | ⟨g, cap, cur, hv, h2, h3, -⟩
  · subst hv
    exact ⟨w.heap.size, hB, fun M e => by simp at e, One.of ((Below.refl _ _).grown hg (Nat.le_refl _) (fun k e => by simp [Value.ownBlock] at e))⟩
  · subst hv
    exact ⟨g, h2, fun M e => by rw [h3] at e; simp at e, ⟨hg.os, hg.tape, hg.output, hg.size, fun k hk hn => hg.block k hk (by simp [Value.ownBlock]; exact fun e => hn e)⟩⟩
theorem Bk.grew {w w' : World} {p q B : Nat} {l : List Lf} (h : Bk w p q l) (hg : Grew B w w') (hp : p < B) (hq : q < B) : Bk w' p q l := by
  obtain ⟨g, h1, h2, h3⟩ := hg
  exact h.other g h2 (by omega) (by omega) h3
theorem Grew.below {B0 B : Nat} {w w' : World} (hg : Grew B w w') (h0 : B0 ≤ B) (hB : B0 ≤ w.heap.size) : Below B0 w w' := by
  obtain ⟨g, h1, -, h3⟩ := hg
  exact h3.below (by omega) hB
theorem ownsRow_nilD (w : World) (B : Nat) : w.ownsRow B 51 5 (.slice none 0 0) ([] : List Od).length (odVs []) := ⟨by simp [odVs], .inl ⟨rfl, rfl⟩⟩
section
variable {ops : Array Oper} {rest : List Oper} {o : Oper} {a : Act} {w : World} {Q : Exit → Act → World → Prop}
theorem wpList_ownD (hg : o.guard = none) (s x : Operand) (t : TypeId) (hop : o.op = Op.call { callee := Callee.builtin Builtin.append, args := #[s, x], argTypes := #[t, t] }) (h1 : Try.prog.underlying t = some (.slice 51))
    (B : Nat) (v : Value) (C : List Od) (hs : a.eval s = v) (hown : w.ownsRow B 51 5 v C.length (odVs C)) (so : Option Addr) (m c : Nat) (k : List Od) (hx : a.eval x = .slice so m c) (hm : m = k.length) (hk : SlD w so k) (b : C.length + k.length ≤ 1000000) (hB : B ≤ w.heap.size)
    (hK : ∀ v' w', w'.ownsRow B 51 5 v' (C ++ k).length (odVs (C ++ k)) → Grew B w w' → wpList Try.prog ops Q rest (a.put o.dst v') w') : wpList Try.prog ops Q (o :: rest) a w := by
  obtain ⟨i, z, h2, h3, h4, h5, h6⟩ := info51
  subst hm
  cases k with
  | nil =>
    have hr : (Builtin.append_ #[t, t] o.type #[v, .slice so ([] : List Od).length c]).run Try.prog w = .ok v w := by
      rcases hown.2 with ⟨hv, -⟩ | ⟨g, cap, cur, hv, -, -, hle, -⟩
      · subst hv
        cases so <;> simp [Builtin.append_, run_underlying h1, sizeOf, typeInfo, h2, Builtin.lenOf, Builtin.firstCells]
        rfl
      · subst hv
        cases so with
        | none => simp [Builtin.append_, run_underlying h1, sizeOf, typeInfo, h2, Builtin.lenOf, Builtin.firstCells, hle, storeCells]
        | some y => exact run_append_nothing w t t o.type 51 i h1 h2 _ _ _ hle _ (Src.ofSlice w h1 y 0 c [] (by simp) (by simp) (by simp))
    exact wpList_of_run hg s x t hop hs hx hr (hK v w (by simpa using hown) (Grew.refl hB))
  | cons k1 k2 =>
    cases so with
    | none => have := hk.nonil rfl; simp at this
    | some y =>
      obtain ⟨v', w', hr, r1, r2, -⟩ := run_append_own (P := Try.prog) w B t o.type 51 i z 5 40 h1 h2 h3 h4 h5 h6 (by omega) v C.length (odVs C) hown y (k1 :: k2).length c (odVs (k1 :: k2)) (odVs_len _) (sd_cells hk _ rfl) (one_odVs _) (by unfold maxLen; omega) (by omega) hB
      exact wpList_of_run hg s x t hop hs hx hr (hK v' w' (by rw [odVs_append, List.length_append]; exact r1) (own_grew hown hB r2))
end
end Go.Proofs.Ytdlanenbbmnbhaa
