/-
  NetOrder, NetCuts: the end of a round.
-/
import Derived.Test.YtfdpmffoajjchaaOb
namespace Go.Proofs.Ytfdpmffoajjchaa
open Go.RowKit Go.Conc

theorem ownV (y : Int) (p : Pl) : msV (ownM y) p = .agg #[.int .i64 0, .int .i64 y, .int .i64 0, .int .i64 0, .bool false, .int .u64 0, .slice p.wa 0 p.wc, .slice p.pa 0 p.pc, .string ⟨#[111, 119, 110]⟩] := rfl
theorem othV (p : Pl) : msV othM p = .agg #[.int .i64 0, .int .i64 9999, .int .i64 0, .int .i64 0, .bool false, .int .u64 0, .slice p.wa 0 p.wc, .slice p.pa 0 p.pc, .string ⟨#[111, 116, 104, 101, 114]⟩] := rfl

set_option maxRecDepth 100000 in
theorem fin22 (w : World) (n : Nat) (a : Option Addr) (ln c : Nat) (inst : Int) (cuts : Bool) (f t : Int) (k j : Nat) (hj : j < 100) (Q0 : Exit → Act → World → Prop) (A : Act) (W : World) (S T : Nat) (R : Nat → List Nat) (hs : A.tmps.size = 164) (hd : A.defers = [])
    (hu : Sl22 w.heap.size n a ln c inst cuts f t S T j (fun i => A.tmps.getD i undef)) (hS : S ≤ j + 1) (hO : OrdR w W n k S T R) : Q22 w n a ln c inst cuts f t k j Q0 .normal A W := by
  rw [frameN_lit 164 A hs hd]
  obtain ⟨u, hu'⟩ : ∃ u : Nat → Value, u = fun i => A.tmps.getD i undef := ⟨_, rfl⟩
  rw [← hu'] at hu ⊢
  clear hu'
  obtain ⟨h1, h2, h4, h11, h13, h14, h15, h16, h17⟩ := hu
  show Code.wp Try.prog reg22 _ _ _
  rw [frame_open164, h1, h2, h4, h11, h13, h14, h15, h16, h17]
  clear h1 h2 h4 h11 h13 h14 h15 h16 h17
  have HO := toHid hO
  clear hO
  conv => arg 2; whnf
  go_wp2_with fail
  exact ⟨_, S, T, R, frameN_lit 164 _ rfl rfl, ⟨rfl, rfl, rfl, rfl, rfl, rfl, rfl, rfl, by show Value.int .i64 _ = _; simp⟩, hS, HO.out⟩

end Go.Proofs.Ytfdpmffoajjchaa
