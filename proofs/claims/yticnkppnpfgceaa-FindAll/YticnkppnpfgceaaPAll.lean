/-
  FindAll returns true for every log that the row reads, and leaves them as they were. No condition of ours.
-/
import Derived.Test.YticnkppnpfgceaaXF
import Derived.Test.YticnkppnpfgceaaRows
namespace Go.Proofs.Yticnkppnpfgceaa
open Go.ChangeShapes Go.WideShapes Go.ChangeAt Go.RowKit Mg

set_option maxRecDepth 100000 in
theorem findAll_lifted (os : Os) (started : os.Started) (H : Type) (enc : TypeId × Value → H) :
    ReturnsInHanded {} Try.checked os 3 .any (Rows.findAllSpec.pre6 enc Try.prog Try.f3 Rows.findAllRow.domain false) (Rows.findAllSpec.post enc Try.prog Try.f3 false true false false) := by
  refine returnsInHanded_of_change_sized (C := Try.checked) Try.own started (by kernel_rfl) Try.func3
    (ChangeSpec.witness6 (enc := enc) (C := Try.checked) false ⟨#[], #[.slice none 0 0], []⟩ 8 (by kernel_rfl) (by kernel_rfl) (by kernel_rfl) (by kernel_rfl)) ?_
  intro W base args ds gs before hval0 hW _ hsz0 _
  have hsz : (DataW.weightsEach Try.prog (Try.f3.params.toList ++ Rows.findAllSpec.plain.varTypes Try.prog) (ds ++ gs)).all (· ≤ reachBytes) = true := hsz0
  clear hsz0
  have hval : ∀ (j : Nat) t v, Try.f3.params[j]? = some t → args[j]? = some v → Value.okWide Try.prog W .any base t v := hval0
  have hW' := hW
  obtain ⟨p, q, hA0, hV, rfl, _, _⟩ := hW
  have hA : DataW.TrodAll enc Try.prog W 0 (fun _ => true) true Try.f3.params.toList args.toList ds p := hA0
  rw [Try.params3] at hA hval hsz
  obtain ⟨v0, d0, rfl, rfl, h0⟩ := trodAll_one hA
  obtain ⟨rfl, rfl⟩ := trodVars_none hV
  obtain ⟨a0, len0, cap0, rfl⟩ := okWide_slice Try.underlying22 (hval 0 22 v0 rfl rfl)
  have k0 := h0
  have lt0 : ∀ x ∈ p, x.block < W.heap.size := by obtain ⟨m, hm⟩ := k0; exact DataW.trod_lt m _ _ _ hm
  obtain ⟨l0, rfl, hsl0, hll0, hnil0, hlc0, hwd0⟩ : ∃ l : List Rc, len0 = l.length ∧ SlR W a0 l ∧ l.length ≤ 140737488355328 ∧ (a0 = none → cap0 = 0) ∧ l.length ≤ cap0 ∧ ∀ r, r ∈ l → Wd r := by
    obtain ⟨fuel, hf⟩ := h0
    obtain ⟨a, c, l, he, q1, q2, q3, q4, q5⟩ := open_recs (by simpa [Value.cells] using hf) (fun n hn => by have := List.all_eq_true.1 hsz n (DataW.weights_mem_each (j := 0) (t := 22) rfl rfl n hn); simpa using this)
    injection he with e1 e2 e3
    subst e1 e2 e3
    exact ⟨l, rfl, q1, q2, q3, q4, q5⟩
  clear hA0 hval0 hsz
  refine (all_walk a0 cap0 l0 W hsl0 hll0 hnil0 hlc0 hwd0).mono fun e W' ⟨he, bel⟩ => ?_
  subst he
  exact ⟨_, rfl, _, _, _, [], _, [], hW', trodAll_mk1 (shut_bool Try.underlying4 _), trodAll_mk1 (Below.trod Try.laidOut (by kernel_rfl) (of_decide_eq_true (by kernel_rfl)) k0 bel lt0), rfl, bel.frame _, fun h => by cases h⟩

theorem findAll_holds : Rows.FindAllSaid :=
  OpenClaim.holds_of_wide 3 Try.f3 rfl rfl rfl rfl rfl rfl rfl ⟨rfl, rfl, rfl, rfl, rfl⟩ rfl rfl rfl rfl rfl (by kernel_rfl) Try.func3 (by kernel_rfl)
    (of_decide_eq_true (by kernel_rfl)) (by unfold Func.isWrapper; first | (rw [if_pos (by decide +kernel)]; kernel_rfl) | (rw [if_neg (by decide +kernel)]; exact ⟨rfl, rfl⟩))
    (fun os started H enc _ => findAll_lifted os started H enc)

#print axioms findAll_holds
end Go.Proofs.Yticnkppnpfgceaa
