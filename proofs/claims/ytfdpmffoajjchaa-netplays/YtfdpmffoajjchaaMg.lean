/-
  Messages in memory; copied: a message whose lists are its own.
-/
import Derived.Test.YtfdpmffoajjchaaNu
import Derived.Test.YtfdpmffoajjchaaOw
import Derived.Laws.ResultCell
namespace Go.Proofs.Ytfdpmffoajjchaa
open Go.RowKit Go.Conc

def txt (l : List UInt8) : ByteArray := ⟨l.toArray⟩

structure Ms where
  kind : Int
  txn : Int
  page : Int
  to : Int
  fast : Bool
  lsn : Nat
  wants : List (List UInt8 × Int)
  pages : List Int
  body : List UInt8
deriving DecidableEq

/-- A message as it lies somewhere: its lists' places. -/
structure Pl where
  wa : Option Addr
  wc : Nat
  pa : Option Addr
  pc : Nat

def waC (t : List UInt8 × Int) : List Value := [.string (txt t.1), .int .i64 t.2]
def wsC (l : List (List UInt8 × Int)) : List Value := l.flatMap waC
def psC (l : List Int) : List Value := l.map fun x => .int .i64 x
theorem wsC_length (l : List (List UInt8 × Int)) : (wsC l).length = l.length * 2 := flat_len waC 2 (fun _ => rfl) l
theorem psC_length (l : List Int) : (psC l).length = l.length * 1 := by simp [psC]
theorem wsC_one (l : List (List UInt8 × Int)) : ∀ u ∈ wsC l, u.oneCell' = true := by
  intro u hu
  simp only [wsC, List.mem_flatMap] at hu
  obtain ⟨t, _, hu⟩ := hu
  simp only [waC, List.mem_cons, List.not_mem_nil, or_false] at hu
  rcases hu with rfl | rfl <;> rfl
theorem psC_one (l : List Int) : ∀ u ∈ psC l, u.oneCell' = true := by
  intro u hu
  simp only [psC, List.mem_map] at hu
  obtain ⟨t, _, rfl⟩ := hu
  rfl

abbrev msC (m : Ms) (p : Pl) : Array Value :=
  #[.int .i64 m.kind, .int .i64 m.txn, .int .i64 m.page, .int .i64 m.to, .bool m.fast, .int .u64 (m.lsn : Int), .slice p.wa m.wants.length p.wc, .slice p.pa m.pages.length p.pc, .string (txt m.body)]
abbrev msV (m : Ms) (p : Pl) : Value := .agg (msC m p)

/-- A message's lists can be read. -/
structure MI (w : World) (m : Ms) (p : Pl) : Prop where
  rw_ : Rd w p.wa (wsC m.wants)
  rp : Rd w p.pa (psC m.pages)
  cw : p.wa = none → m.wants.length = 0 ∧ p.wc = 0
  cp : p.pa = none → m.pages.length = 0 ∧ p.pc = 0
theorem MI.below {w w' : World} {m : Ms} {p : Pl} (h : MI w m p) (hb : Below w.heap.size w w') : MI w' m p := ⟨h.rw_.below hb, h.rp.below hb, h.cw, h.cp⟩
theorem MI.keep {w w' : World} {m : Ms} {p : Pl} (h : MI w m p) (hk : KeepC w w') : MI w' m p := ⟨h.rw_.keep hk, h.rp.keep hk, h.cw, h.cp⟩
def Lim (m : Ms) : Prop := m.wants.length ≤ 1000 ∧ m.pages.length ≤ 1000

theorem Tn.keepC {s n : Nat} {w w' : World} {R : Nat → List Nat} (h : Tn s n w w') (hn : NetOk w s n R) : KeepC w w' := fun k c t f hc => by
  rw [h.keep k (Array.getElem?_eq_some_iff.1 hc).1 (hn.cells' hc)]; exact hc

/-- A message whose lists lie in memory of their own, from B on. -/
structure Own (w : World) (B : Nat) (m : Ms) (p : Pl) : Prop where
  ow : w.ownsRow B 71 2 (.slice p.wa m.wants.length p.wc) m.wants.length (wsC m.wants)
  op : w.ownsRow B 3 1 (.slice p.pa m.pages.length p.pc) m.pages.length (psC m.pages)
theorem Own.mi {w : World} {B : Nat} {m : Ms} {p : Pl} (h : Own w B m p) : MI w m p :=
  ⟨own_rd h.ow, own_rd h.op, fun e => by rcases own_addr h.ow with ⟨_, q1, q⟩ | ⟨g, cur, q, _⟩; exact ⟨q1, q⟩; rw [e] at q; simp at q, fun e => by rcases own_addr h.op with ⟨_, q1, q⟩ | ⟨g, cur, q, _⟩; exact ⟨q1, q⟩; rw [e] at q; simp at q⟩
theorem Own.low {w : World} {B B' : Nat} {m : Ms} {p : Pl} (h : Own w B m p) (hb : B' ≤ B) : Own w B' m p := ⟨row_low h.ow hb, row_low h.op hb⟩
theorem Own.keep {w w' : World} {B : Nat} {m : Ms} {p : Pl} (h : Own w B m p) (hk : KeepC w w') : Own w' B m p := ⟨own_keep h.ow hk, own_keep h.op hk⟩

theorem info71 : (Try.prog.info? 71).map (fun i => (i.zero, i.size, i.bytes)) = some (some (.agg #[.string ⟨#[]⟩, .int .i64 0]), 2, 24) := by kernel_rfl
theorem info3 : (Try.prog.info? 3).map (fun i => (i.zero, i.size, i.bytes)) = some (some (.int .i64 0), 1, 8) := by kernel_rfl

abbrev zeroC : Array Value := #[.int .i64 0, .int .i64 0, .int .i64 0, .int .i64 0, .bool false, .int .u64 0, .slice none 0 0, .slice none 0 0, .string ⟨#[]⟩]
def zeroM : Ms := ⟨0, 0, 0, 0, false, 0, [], [], []⟩
def zeroP : Pl := ⟨none, 0, none, 0⟩

set_option maxRecDepth 100000 in
set_option maxHeartbeats 4000000 in
theorem copied28 (m : Ms) (p : Pl) (w : World) (hr : MI w m p) (hl : Lim m) :
    Calls Try.prog 28 #[msV m p] w fun e w' => ∃ p', e = .returned (msV m p') ∧ Own w' w.heap.size m p' ∧ Below w.heap.size w w' := by
  obtain ⟨i0, hi0, hz0, hz1, hz2⟩ := info_parts info71
  obtain ⟨j0, hj0, hy0, hy1, hy2⟩ := info_parts info3
  obtain ⟨ta, tc, da, dc⟩ := p
  obtain ⟨hl1, hl2⟩ := hl
  have hb0 : Below w.heap.size w ((w.alloc (.cells (msC m ⟨ta, tc, da, dc⟩) 31)).alloc (.cells zeroC 31)) := ((Below.refl _ _).alloc (Nat.le_refl _) _).alloc (by simp) _
  have hS : ((w.alloc (.cells (msC m ⟨ta, tc, da, dc⟩) 31)).alloc (.cells zeroC 31)).heap[w.heap.size]? = some (.cells (msC m ⟨ta, tc, da, dc⟩) 31) := heap_alloc2_old _ _ _
  have hZ : ((w.alloc (.cells (msC m ⟨ta, tc, da, dc⟩) 31)).alloc (.cells zeroC 31)).heap[w.heap.size + 1]? = some (.cells zeroC 31) := heap_alloc2_new _ _ _
  have HB0 := toHid hb0
  have HT := toHid ((hr.rw_.below hb0).flat)
  have HD := toHid (fun (W : World) (hW : Below w.heap.size w W) => (hr.rp.below hW).flat)
  have HNT := toHid hr.cw
  have HND := toHid hr.cp
  have HS := toHid hS
  have HZ := toHid hZ
  clear hr hb0 hS hZ
  go_enter Try.func28, Try.ntmps28
  go_wp2_with (at_builtin; first
    | (refine wpList_append_src _ rfl (.const (.slice none 0 0)) (.tmp 4) 28 rfl w.heap.size 71 i0 _ 2 24 Try.underlying28 hi0 hz0 hz1 hz2 rfl (by decide) (.slice none 0 0) 0 [] rfl (World.ownsRow_nil _ _ _ _) ta m.wants.length tc (wsC m.wants) rfl HNT.out (wsC_length _) HT.out (wsC_one _) (by unfold maxLen; omega) (by omega) (by simp; omega) ?_; intro v1 y1 hown hgrow _; rw [Nat.zero_add, List.nil_append] at hown; obtain ⟨a1, c1, rfl⟩ := ownsRow_shape hown; have HO1 := toHid hown; have HG1 := toHid hgrow; have hs1 := (hgrow.block w.heap.size (by simp; omega) (by simp [Value.ownBlock])).trans HS.out; have hz1' := (hgrow.block (w.heap.size + 1) (by simp) (by simp [Value.ownBlock])).trans HZ.out; have HS1 := toHid hs1; have HZ1 := toHid hz1'; have HB1 := toHid (Below.setCell (p := ⟨w.heap.size, 6, none⟩) ((HB0.out.grown hgrow (by simp; omega) (by simp [Value.ownBlock]))) (Nat.le_refl _) (.slice a1 m.wants.length c1)); have hbz := HB1.out.size; have HSW := toHid (cells_set (i := 6) (v := .slice a1 m.wants.length c1) hs1); have HZW := toHid ((heap_setCell_other y1 ⟨w.heap.size, 6, none⟩ (w.heap.size + 1) (.slice a1 m.wants.length c1) (by simp)).trans hz1'); clear hown hgrow hz1'; obtain ⟨q0, q1, q2, q3, q4, q5, q6, q7, q8, qf⟩ := cell9 hs1; clear hs1)
    | (go_must (refine wpList_append_src _ rfl (.const (.slice none 0 0)) (.tmp 8) 29 rfl w.heap.size 3 j0 _ 1 8 Try.underlying29 hj0 hy0 hy1 hy2 rfl (by decide) (.slice none 0 0) 0 [] rfl (World.ownsRow_nil _ _ _ _) da m.pages.length dc (psC m.pages) rfl HND.out (psC_length _) (HD.out _ HB1.out) (psC_one _) (by unfold maxLen; omega) (by omega) hbz ?_; intro v2 y2 hown hgrow _; rw [Nat.zero_add, List.nil_append] at hown; obtain ⟨a2, c2, rfl⟩ := ownsRow_shape hown; have HO2 := toHid hown; have HG2 := toHid hgrow; have hs2 := (hgrow.block w.heap.size (by simpa using (Array.getElem?_eq_some_iff.1 HS1.out).1) (by simp [Value.ownBlock])).trans HSW.out; have hz2' := (hgrow.block (w.heap.size + 1) (by simpa using (Array.getElem?_eq_some_iff.1 HZ1.out).1) (by simp [Value.ownBlock])).trans HZW.out; have HS2 := toHid hs2; have HZ2 := toHid hz2'; clear hown hgrow q0 q1 q2 q3 q4 q5 q6 q7 q8 qf; obtain ⟨q0, q1, q2, q3, q4, q5, q6, q7, q8, qf⟩ := cell9 hs2; obtain ⟨x0, x1, x2, x3, x4, x5, x6, x7, x8, zf⟩ := cell9 hz2'; clear hs2 hz2')))
  have hfin := put9_same (.int .i64 m.kind) (.int .i64 m.txn) (.int .i64 m.page) (.int .i64 m.to) (.bool m.fast) (.int .u64 (m.lsn : Int)) (.slice a1 m.wants.length c1) (.slice a2 m.pages.length c2) (.string (txt m.body)) ((heap_setCell_other y2 ⟨w.heap.size, 7, none⟩ (w.heap.size + 1) (.slice a2 m.pages.length c2) (by simp)).trans HZ2.out)
  refine bodyPost_ret (v := msV m ⟨a1, c1, a2, c2⟩) (results_cell_row (P := Try.prog) Try.results28 _ _ (w.heap.size + 1) 31 _ (0, 0) _ rfl hfin Try.underlying31 rfl (by kernel_rfl)) rfl ⟨⟨a1, c1, a2, c2⟩, rfl, ⟨?_, ?_⟩, ?_⟩
  · refine own_stay HO1.out (fun k c hk hc => ?_)
    have n1 : k ≠ w.heap.size := kind_ne hc HS1.out (by decide)
    have n2 : k ≠ w.heap.size + 1 := kind_ne hc HZ1.out (by decide)
    have hlt : k < y1.heap.size := (Array.getElem?_eq_some_iff.1 hc).1
    refine (put9_other _ _ _ _ _ _ _ _ _ k n2).trans ?_
    rw [heap_setCell_other _ _ _ _ n1, HG2.out.block k (by simpa using hlt) (by simp [Value.ownBlock]), heap_setCell_other _ _ _ _ n1]
  · refine own_stay HO2.out (fun k c hk hc => ?_)
    have n1 : k ≠ w.heap.size := kind_ne hc HS2.out (by decide)
    have n2 : k ≠ w.heap.size + 1 := kind_ne hc HZ2.out (by decide)
    refine (put9_other _ _ _ _ _ _ _ _ _ k n2).trans ?_
    rw [heap_setCell_other _ _ _ _ n1]
  · exact put9_below _ _ _ _ _ _ _ _ _ ((HB1.out.grown HG2.out hbz (by simp [Value.ownBlock])).setCell (Nat.le_refl _) _) (by omega)

end Go.Proofs.Ytfdpmffoajjchaa
