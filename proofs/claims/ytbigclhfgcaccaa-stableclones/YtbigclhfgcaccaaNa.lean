/-
  The document's New, and alike of a new device.
-/
import Derived.Test.YtbigclhfgcaccaaBg
import Derived.Laws.ResultCell
import Derived.BigQuiet
import Derived.Laws.Tables
namespace Go.Proofs.Ytbigclhfgcaccaa
open Go.RowKit

/-- A text of some bytes. -/
def txt (l : List UInt8) : ByteArray := ⟨l.toArray⟩
theorem txt_size (l : List UInt8) : (txt l).size = l.length := by simp [txt, ByteArray.size]
theorem txt_inj (l m : List UInt8) : txt l = txt m ↔ l = m := by
  constructor
  · intro h
    have := congrArg (fun b => b.data.toList) h
    simpa [txt] using this
  · rintro rfl; rfl

theorem conv_slB {W : World} {a : Option Addr} {c : Nat} {l : List UInt8} (h : SlB W a l) : (convert 34 9 (.slice a l.length c)).run Try.prog W = .ok (.string (txt l)) W := by
  cases a with
  | none =>
    have := h.nonil rfl
    subst this
    exact run_convert_bytes_nil W 34 5 Try.underlying34 Try.underlying5 _ _ 9 Try.underlying9
  | some x =>
    exact run_convert_bytes_back W 34 9 5 x c l Try.underlying34 Try.underlying5 Try.underlying9 (fun j hj => h.cells x rfl j _ (by simp [bcells, List.getElem?_eq_getElem hj]))
theorem conv_buf {W : World} {G n : Nat} {L : List UInt8} (h : Buf W G L) (hl : L.length = n) : (convert 34 9 (.slice (some ⟨G, 0, none⟩) n n)).run Try.prog W = .ok (.string (txt L)) W := by
  have := conv_slB (c := n) (Buf.slB0 h)
  rw [hl] at this
  exact this

theorem noughts_any (n : Nat) (w : World) (hn : n ≤ 1000000) : Calls Try.prog 25 #[.int .i64 (n : Int)] w fun e w' => e = .returned (.string (txt (List.replicate n 0))) ∧ Below w.heap.size w w' := by
  have hm := make_run n hn w
  obtain ⟨W, hW⟩ : ∃ W, W = w.alloc (.cells (bcells (List.replicate n 0)).toArray 5) := ⟨_, rfl⟩
  have hB : Buf W w.heap.size (List.replicate n 0) := by rw [hW]; exact Buf.new w _
  have hb : Below w.heap.size w W := by rw [hW]; exact (Below.refl _ w).alloc (Nat.le_refl _) _
  rw [← hW] at hm
  have hc := conv_buf (n := n) hB (by simp)
  clear hW hB
  go_enter Try.func25, Try.ntmps25
  go_wp2_with fail
  go_ret
  exact ⟨rfl, hb⟩

/-- The document's new device. -/
abbrev refN (s : ByteArray) : Array Value := #[.string s, .bool false, .int .i64 0, .string ⟨#[]⟩, .bool false, .int .i64 0, .string ⟨#[]⟩, .bool false, .int .i64 0, .string ⟨#[]⟩, .bool false, .int .i64 0, .string ⟨#[]⟩, .bool false, .int .i64 0, .string ⟨#[]⟩, .bool false, .int .i64 0, .string ⟨#[]⟩, .bool false, .int .i64 0, .string ⟨#[]⟩, .bool false, .int .i64 0, .string ⟨#[]⟩]

theorem res30 {W : World} {g : Nat} {cs : Array Value} {tmps : Array Value} (hg : W.heap[g]? = some (.cells cs 30)) (hi : (Try.prog.info? 30).map (·.size) = some cs.size) (h2 : tmps.getD 2 undef = .pointer (some ⟨g, 0, none⟩)) :
    (results Try.f10 tmps).run Try.prog W = .ok (.tuple #[.agg cs, tmps.getD 3 undef]) W := by
  rw [results_cell_tmp (p := 2) (u := 3) (ty := 30) rfl, h2]
  have hl := run_loadVar_row (P := Try.prog) W g 30 30 cs (0, 0) _ hg Try.underlying30 rfl hi
  have ha : (asAddr (.pointer (some ⟨g, 0, none⟩))).run Try.prog W = .ok ⟨g, 0, none⟩ W := rfl
  rw [ha, Result.andThen_ok, hl, Result.andThen_ok]

set_option maxHeartbeats 1000000 in
theorem refnew_yes (n : Nat) (w : World) (h : n ≤ 65536) (h2 : n % 64 = 0) : Calls Try.prog 10 #[.int .i64 (n : Int)] w fun e w' => e = .returned (.tuple #[.agg (refN (txt (List.replicate n 0))), .bool true]) ∧ Below w.heap.size w w' := by
  have e3 : (n : Int).tmod 64 = 0 := (tm _).2 (by omega)
  have hb0 : Below w.heap.size w (w.alloc (.cells (refN ⟨#[]⟩) 30)) := (Below.refl _ w).alloc (Nat.le_refl _) _
  go_enter Try.func10, Try.ntmps10
  go_wp2_with fail
  refine (noughts_any n _ (by omega)).mono ?_
  rintro e w1 ⟨rfl, hb1⟩
  have hblk : w1.heap[w.heap.size]? = some (.cells (refN ⟨#[]⟩) 30) := by rw [hb1.block _ (by simp)]; exact heap_alloc_new _ _
  have hb2 := hb0.trans (hb1.mono hb0.size)
  clear hb1 hb0
  have hi : (Try.prog.info? 30).map (·.size) = some 25 := by kernel_rfl
  rename_i hKc
  refine hKc _ _ ?_
  clear hKc
  refine wpList_plain rfl fun K hK => ?_
  go_simp
  refine hK _ _ ?_
  clear hK K
  refine wpList_store_row rfl 30 (.tmp 2) (.tmp 18) rfl w.heap.size (refN (txt (List.replicate n 0))) rfl rfl 30 _ hblk hi rfl (by simp [Value.oneCell']) ?_
  have hg := setRow_heap w1 w.heap.size (refN ⟨#[]⟩) (refN (txt (List.replicate n 0))) 30 (0, 0) hblk
  have hb3 : Below w.heap.size w (w1.setRow w.heap.size (refN (txt (List.replicate n 0)))) := hb2.trans ⟨rfl, rfl, rfl, by simp, fun k hk => setRow_other _ _ _ _ (by omega)⟩
  generalize w1.setRow w.heap.size (refN (txt (List.replicate n 0))) = W3 at *
  clear hblk hb2
  go_wp2_with fail
  refine bodyPost_ret (v := .tuple #[.agg (refN (txt (List.replicate n 0))), .bool true]) ?_ rfl ⟨rfl, hb3⟩
  exact res30 hg hi rfl

end Go.Proofs.Ytbigclhfgcaccaa
