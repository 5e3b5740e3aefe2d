/-
  The document's New of a size that there isn't.
-/
import Derived.Test.YtbigclhfgcaccaaNa
namespace Go.Proofs.Ytbigclhfgcaccaa
open Go.RowKit

set_option maxHeartbeats 2000000 in
theorem refnew_b (size : Int) (w : World) (h1 : 65536 < size) : Calls Try.prog 10 #[.int .i64 size] w fun e w' => e = .returned (.tuple #[.agg (refN ⟨#[]⟩), .bool false]) ∧ Below w.heap.size w w' := by
  have HI : Hid ((Try.prog.info? 30).map (·.size) = some 25) := by show _ = _; kernel_rfl
  have h0 : ¬ size < 0 := by omega
  go_enter Try.func10, Try.ntmps10
  refine wp_seq_k fun K hK => ?_
  have HK : Hid _ := hK
  clear hK
  go_wp2_with fail
  refine HK.out _ _ ?_
  clear HK K
  refine wp_seq_k fun K hK => ?_
  clear hK
  refine wp_seq_k fun K1 hK1 => ?_
  have HK1 : Hid _ := hK1
  clear hK1
  have hB : Below w.heap.size w (w.alloc (.cells (refN ⟨#[]⟩) 30)) := (Below.refl _ w).alloc (Nat.le_refl _) _
  have hblk := heap_alloc_new w (.cells (refN ⟨#[]⟩) 30)
  change _ at hblk
  generalize w.alloc (.cells (refN ⟨#[]⟩) 30) = W at *
  go_wp2_with fail
  refine HK1.out _ _ ?_
  clear HK1 K1
  refine wp_cond_true rfl ?_
  refine wp_seq_k fun K1 hK1 => ?_
  have HK1 : Hid _ := hK1
  clear hK1
  refine wp_region_lit ?_
  refine wpList_plain rfl fun K2 hK2 => ?_
  go_simp
  refine hK2 _ _ ?_
  clear hK2 K2
  refine wpList_store_row rfl 30 (.tmp 2) (.tmp 15) rfl w.heap.size (refN ⟨#[]⟩) rfl rfl 30 _ hblk HI.out rfl (by simp [Value.oneCell']) ?_
  have hg := setRow_heap _ w.heap.size _ (refN ⟨#[]⟩) 30 (0, 0) hblk
  have hb3 : Below w.heap.size w (W.setRow w.heap.size (refN ⟨#[]⟩)) := hB.trans ⟨rfl, rfl, rfl, by simp, fun k hk => setRow_other _ _ _ _ (by omega)⟩
  generalize W.setRow w.heap.size (refN ⟨#[]⟩) = W3 at *
  go_wp2_with fail
  refine HK1.out _ _ ?_
  clear HK1 K1
  go_wp2_with fail
  exact bodyPost_ret (v := .tuple #[.agg (refN ⟨#[]⟩), .bool false]) (res30 hg HI.out rfl) rfl ⟨rfl, hb3⟩

end Go.Proofs.Ytbigclhfgcaccaa
