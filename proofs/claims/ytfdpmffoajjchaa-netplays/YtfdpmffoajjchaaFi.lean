/-
  A row's first message; an instance's one of rows; the row between two places.
-/
import Derived.Test.YtfdpmffoajjchaaProg
import Derived.Test.YtfdpmffoajjchaaCm
import Derived.Deep.QuietTactic
import Derived.BigQuiet
namespace Go.Proofs.Ytfdpmffoajjchaa
open Go.RowKit Go.Conc

theorem zero64 : (Try.prog.info? 64).map (fun i => (i.zero, i.size, i.bytes)) = some (some (.pointer none), 1, 8) := by kernel_rfl

theorem info_parts {P : Program} {t : TypeId} {z : Option Value} {s b : Nat} (h : (P.info? t).map (fun i => (i.zero, i.size, i.bytes)) = some (z, s, b)) : ∃ i, P.info? t = some i ∧ i.zero = z ∧ i.size = s ∧ i.bytes = b := by
  obtain ⟨i, hi, he⟩ := Option.map_eq_some_iff.1 h
  simp only [Prod.mk.injEq] at he
  exact ⟨i, hi, he.1, he.2.1, he.2.2⟩

section
variable (w : World)

set_option maxRecDepth 100000 in
theorem first_nil : Calls Try.prog 27 #[.chan none] w fun e w' => e = .returned (.pointer none) ∧ w' = w := by
  refine calls_of_wpN Try.func27 rfl ?_
  simp only [Try.ntmps27, List.size_toArray, List.length_cons, List.length_nil, Nat.reduceAdd, Nat.reduceSub, Array.replicate_succ, Array.replicate_zero, List.push_toArray, List.append_toArray, List.nil_append, List.cons_append]
  refine wpN_seq_k fun K hK => ?_
  go_wp2_with fail
  refine wpN_seq_k fun K hK => ?_
  go_wp2_with fail
  refine wpN_seqN_k fun K hK => ?_
  refine wpN_region_first (v := .tuple #[goInt (-1), .bool false, .pointer none]) (w' := w) (w'' := w) (cases := #[rcaseNil (.pointer none)]) (blocking := false) (shape := .select) rfl (by simp [go_sem, execOp, rcaseNil, Act.eval]) (fun fr cs es h => step_lone_select_recv_nil h) ?_
  go_wp2_with fail
  refine wpN_block ?_
  refine wpN_of ?_
  go_wp2_with fail
  exact bodyPost_ret (results_tmp Try.results27 _ _ _) rfl ⟨rfl, rfl⟩

set_option maxRecDepth 100000 in
theorem first_empty (c s r : Nat) (hc : w.heap[c]? = some (.chan 256 #[] false s r false)) : Calls Try.prog 27 #[.chan (some c)] w fun e w' => e = .returned (.pointer none) ∧ w' = w := by
  refine calls_of_wpN Try.func27 rfl ?_
  simp only [Try.ntmps27, List.size_toArray, List.length_cons, List.length_nil, Nat.reduceAdd, Nat.reduceSub, Array.replicate_succ, Array.replicate_zero, List.push_toArray, List.append_toArray, List.nil_append, List.cons_append]
  refine wpN_seq_k fun K hK => ?_
  go_wp2_with fail
  refine wpN_seq_k fun K hK => ?_
  go_wp2_with fail
  refine wpN_seqN_k fun K hK => ?_
  refine wpN_region_first (v := .tuple #[goInt (-1), .bool false, .pointer none]) (w' := w) (w'' := w) (cases := #[rcase c (.pointer none)]) (blocking := false) (shape := .select) rfl (by simp [go_sem, execOp, rcase, Act.eval]) (fun fr cs es h => step_lone_select_default h hc) ?_
  go_wp2_with fail
  refine wpN_block ?_
  refine wpN_of ?_
  go_wp2_with fail
  exact bodyPost_ret (results_tmp Try.results27 _ _ _) rfl ⟨rfl, rfl⟩

set_option maxRecDepth 100000 in
theorem first_some (c s r : Nat) (v : Value) (l : List Value) (hc : w.heap[c]? = some (.chan 256 (v :: l).toArray false s r false)) : Calls Try.prog 27 #[.chan (some c)] w fun e w' => e = .returned v ∧ w' = w.setChan c 256 l.toArray false s (r + 1) false := by
  refine calls_of_wpN Try.func27 rfl ?_
  simp only [Try.ntmps27, List.size_toArray, List.length_cons, List.length_nil, Nat.reduceAdd, Nat.reduceSub, Array.replicate_succ, Array.replicate_zero, List.push_toArray, List.append_toArray, List.nil_append, List.cons_append]
  refine wpN_seq_k fun K hK => ?_
  go_wp2_with fail
  refine wpN_seq_k fun K hK => ?_
  go_wp2_with fail
  refine wpN_seqN_k fun K hK => ?_
  refine wpN_region_first (v := .tuple #[goInt 0, .bool true, v]) (w' := w) (w'' := w.setChan c 256 l.toArray false s (r + 1) false) (cases := #[rcase c (.pointer none)]) (blocking := false) (shape := .select) rfl (by simp [go_sem, execOp, rcase, Act.eval]) (fun fr cs es h => by simpa using step_lone_select_recv_buf h hc (by simp)) ?_
  go_wp2_with fail
  refine wpN_block ?_
  refine wpN_of ?_
  go_wp2_with fail
  exact bodyPost_ret (results_tmp Try.results27 _ _ _) rfl ⟨rfl, rfl⟩
end

end Go.Proofs.Ytfdpmffoajjchaa
