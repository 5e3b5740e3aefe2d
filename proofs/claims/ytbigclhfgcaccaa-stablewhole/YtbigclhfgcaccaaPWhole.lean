/-
  StableWhole returns true for every device, steps, write and crash that the row reads, and leaves what came in as it was. No condition of ours.
-/
import Derived.Test.YtbigclhfgcaccaaWWh
import Derived.Test.YtbigclhfgcaccaaAh
import Derived.Test.YtbigclhfgcaccaaRows
namespace Go.Proofs.Ytbigclhfgcaccaa
open Go.ChangeShapes Go.WideShapes Go.ChangeAt Go.RowKit

set_option maxRecDepth 100000 in
theorem stableWhole_lifted (os : Os) (started : os.Started) (H : Type) (enc : TypeId × Value → H) :
    ReturnsInHanded {} Try.checked os 5 .any (Rows.stableWholeSpec.pre6 enc Try.prog Try.f5 Rows.stableWholeRow.domain false) (Rows.stableWholeSpec.post enc Try.prog Try.f5 false true false false) := by
  refine returnsInHanded_of_change (C := Try.checked) Try.own started (by kernel_rfl) Try.func5
    (ChangeSpec.witness6 (enc := enc) (C := Try.checked) false ⟨#[], #[.agg #[.int .i64 0, .slice none 0 0, .int .i64 0, .int .i64 0, .int .i64 0, .int .i64 0, .int .u8 0, .int .i64 0]], []⟩ 8 (by kernel_rfl) (by kernel_rfl) (by kernel_rfl) (by kernel_rfl)) ?_
  intro W base args ds gs before hval0 hW _ _
  have hval : ∀ (j : Nat) t v, Try.f5.params[j]? = some t → args[j]? = some v → Value.okWide Try.prog W .any base t v := hval0
  have hW' := hW
  obtain ⟨p, q, hA0, hV, rfl, _, _⟩ := hW
  have hA : DataW.TrodAll enc Try.prog W 0 (fun _ => true) true Try.f5.params.toList args.toList ds p := hA0
  rw [Try.params5] at hA hval
  obtain ⟨v0, d0, rfl, rfl, h0⟩ := trodAll_one hA
  obtain ⟨rfl, rfl⟩ := trodVars_none hV
  obtain ⟨cs0, rfl, hs0⟩ := okWide_struct Try.underlying55 (hval 0 55 v0 rfl rfl)
  have k0 := h0
  have lt0 : ∀ x ∈ p, x.block < W.heap.size := by obtain ⟨m, hm⟩ := k0; exact DataW.trod_lt m _ _ _ hm
  obtain ⟨z0, a0, c0, l0, o0, kk0, hcs0, hsl0, hgo0, hki0⟩ : ∃ (size : Int) (a : Option Addr) (c : Nat) (l : List Op) (o : Op) (k : Int), cs0 = #[.int .i64 size, .slice a l.length c, .int .i64 o.kind, .int .i64 o.hand, .int .i64 o.place, .int .i64 o.n, .int .u8 (o.fill.toNat : Int), .int .i64 k] ∧ SlO W a l ∧ GoodO o ∧ I64 k := by
    obtain ⟨fuel, hf⟩ := h0
    exact open_torn (hs0.trans Try.cells55) (by simpa [Value.cells] using hf)
  subst hcs0
  clear hA0 hval0
  refine Calls.mono (walkWhole z0 a0 c0 l0 o0 kk0 W hsl0 hgo0 hki0) fun e W' ⟨he, bel⟩ => ?_
  subst he
  exact ⟨_, rfl, _, _, _, [], _, [], hW', trodAll_mk1 (shut_bool Try.underlying4 _), trodAll_mk1 (Below.trod Try.laidOut (by kernel_rfl) (of_decide_eq_true (by kernel_rfl)) k0 bel lt0), rfl, bel.frame _, fun h => by cases h⟩

theorem stableWhole_holds : Rows.StableWholeSaid :=
  OpenClaim.holds_of_wide 5 Try.f5 rfl rfl rfl rfl rfl rfl rfl ⟨rfl, rfl, rfl, rfl, rfl⟩ rfl rfl rfl rfl rfl (by kernel_rfl) Try.func5 (by kernel_rfl)
    (of_decide_eq_true (by kernel_rfl)) (by unfold Func.isWrapper; first | (rw [if_pos (by decide +kernel)]; kernel_rfl) | (rw [if_neg (by decide +kernel)]; exact ⟨rfl, rfl⟩))
    (fun os started H enc _ => stableWhole_lifted os started H enc)

#print axioms stableWhole_holds
end Go.Proofs.Ytbigclhfgcaccaa
