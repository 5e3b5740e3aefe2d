/-
  lay of a pool: what the log is ahead of goes to the store.
-/
import Derived.Test.YtcloinonhpaojaaQg
namespace Go.Proofs.Ytcloinonhpaojaa
open Go.RowKit

theorem cell1 {w : World} {g : Nat} {x : Value} {t : TypeId} (h : w.heap[g]? = some (.cells #[x] t)) : w.cell? ⟨g, 0, none⟩ = some x ∧ w.frozen? ⟨g, 0, none⟩ = false ∧ g < w.heap.size := by
  refine ⟨?_, ?_, blk_lt h⟩
  · simp [World.cell?, h]
  · simp [World.frozen?, h]

set_option maxRecDepth 20000 in
set_option maxHeartbeats 1000000 in
theorem lay_wait (p d B b i lsn : Nat) (v : Value) (l : List Cl) (s : Po) (k : Dk) (w : World) (hp : PoIn w p (stV d) s) (hd : DkIn w d k) (hpg : PgOk w B b (i : Int) lsn v l) (hk : k.stable < lsn) :
    Calls Try.prog 38 #[.pointer (some ⟨p, 0, none⟩), .pointer (some ⟨b, 0, none⟩)] w fun e w' => e = .returned (.int .i64 13) ∧ Below w.heap.size w w' := by
  obtain ⟨c0, -, -, -, -, hlt⟩ := hp.cells
  have hn1 : p ≠ w.heap.size := by omega
  have hm := m_stable
  have hb0 : Below w.heap.size w (w.alloc (.cells #[.int .i64 0] 31)) := (Below.refl _ _).alloc (Nat.le_refl _) _
  have HB := toHid hb0
  have HP := toHid (hpg.below hb0 (Nat.le_refl _))
  have HD := toHid (hd.below hb0)
  have HPo := toHid (hp.below hb0)
  have HN : Hid (∀ W, PgOk W B b (i : Int) lsn v l → Calls Try.prog 70 #[.pointer (some ⟨b, 0, none⟩)] W fun e w' => e = .returned (.int .u64 (lsn : Int)) ∧ w' = W) := fun W hW => lsn_any B b i lsn v l W hW
  have HS : Hid (∀ W, DkIn W d k → Calls Try.prog 119 #[.pointer (some ⟨d, 0, none⟩)] W fun e w' => e = .returned (.int .u64 (k.stable : Int)) ∧ w' = W) := fun W hW => stable_any d k W hW
  have hd1 : decide ((k.stable : Int) < (lsn : Int)) = true := by simp; omega
  have HZ := toHid (heap_alloc_new w (.cells #[.int .i64 0] 31))
  clear hp hd hpg hb0
  go_enter_defers Try.func38, Try.ntmps38
  go_wp2_with fail
  go_quiet ((first | (go_at_call 70; exact Calls.quiet_of_same (HN.out _ (HP.out.dn _))) | (go_at_call 119; exact Calls.quiet_of_same (HS.out _ (HD.out.dn _)))))
  generalize hW : World.drewN _ nq = W
  have HBW : Hid (Below w.heap.size w W) := by rw [← hW]; exact bdn HB.out _
  have HPW : Hid (PgOk W B b (i : Int) lsn v l) := by rw [← hW]; exact HP.out.dn _
  have HDW : Hid (DkIn W d k) := by rw [← hW]; exact HD.out.dn _
  have HQW : Hid (PoIn W p (stV d) s) := by rw [← hW]; exact HPo.out.below (bdn (Below.refl _ _) _)
  have HZW : Hid (W.heap[w.heap.size]? = some (.cells #[.int .i64 0] 31)) := by rw [← hW]; exact HZ.out
  clear hW HB HP HD HZ HN HS c0 hm HPo
  obtain ⟨s1, s2, s3⟩ := cell1 HZW.out
  go_wp2
  refine leaves_cons (f := 69) (args := #[.pointer (some ⟨w.heap.size, 0, none⟩)]) (by simp) (by simp [go_sem]) ?_
  refine (idle69 _ _).mono ?_
  rintro e u' w'' ⟨rfl, rfl, rfl⟩
  have r0 := (cell1 (x := .int .i64 13) (heap_setCell_same W w.heap.size 0 _ 31 (.int .i64 13) HZW.out)).1
  simp only [Leaves, settle]
  exact ⟨.int .i64 13, by simp [results, Try.results38, go_sem, r0], rfl, HBW.out.setCell (by simp) _⟩

set_option maxRecDepth 20000 in
set_option maxHeartbeats 1000000 in
theorem lay_go (p d B b i lsn : Nat) (v : Value) (l : List Cl) (s : Po) (k : Dk) (w : World) (hp : PoIn w p (stV d) s) (hd : DkIn w d k) (hpg : PgOk w B b (i : Int) lsn v l) (hk : lsn ≤ k.stable) (hg : GoodL l) (hi : i < 16) (hl : lsn < 18446744073709551616) :
    Calls Try.prog 38 #[.pointer (some ⟨p, 0, none⟩), .pointer (some ⟨b, 0, none⟩)] w fun e w' => e = .returned (.int .i64 0) ∧ DkIn w' d (laid k i lsn l) ∧ One d w w' := by
  obtain ⟨c0, -, -, -, -, hlt⟩ := hp.cells
  have hn1 : p ≠ w.heap.size := by omega
  have hm := m_stable
  have hb0 : Below w.heap.size w (w.alloc (.cells #[.int .i64 0] 31)) := (Below.refl _ _).alloc (Nat.le_refl _) _
  have HB := toHid hb0
  have HP := toHid (hpg.below hb0 (Nat.le_refl _))
  have HD := toHid (hd.below hb0)
  have HPo := toHid (hp.below hb0)
  have HN : Hid (∀ W, PgOk W B b (i : Int) lsn v l → Calls Try.prog 70 #[.pointer (some ⟨b, 0, none⟩)] W fun e w' => e = .returned (.int .u64 (lsn : Int)) ∧ w' = W) := fun W hW => lsn_any B b i lsn v l W hW
  have HS : Hid (∀ W, DkIn W d k → Calls Try.prog 119 #[.pointer (some ⟨d, 0, none⟩)] W fun e w' => e = .returned (.int .u64 (k.stable : Int)) ∧ w' = W) := fun W hW => stable_any d k W hW
  have hd1 : decide ((k.stable : Int) < (lsn : Int)) = false := by simp; omega
  have HZ := toHid (heap_alloc_new w (.cells #[.int .i64 0] 31))
  clear hp hd hpg hb0
  go_enter_defers Try.func38, Try.ntmps38
  go_wp2_with fail
  go_quiet ((first | (go_at_call 70; exact Calls.quiet_of_same (HN.out _ (HP.out.dn _))) | (go_at_call 119; exact Calls.quiet_of_same (HS.out _ (HD.out.dn _)))))
  generalize hW : World.drewN _ nq = W
  have HBW : Hid (Below w.heap.size w W) := by rw [← hW]; exact bdn HB.out _
  have HPW : Hid (PgOk W B b (i : Int) lsn v l) := by rw [← hW]; exact HP.out.dn _
  have HDW : Hid (DkIn W d k) := by rw [← hW]; exact HD.out.dn _
  have HQW : Hid (PoIn W p (stV d) s) := by rw [← hW]; exact HPo.out.below (bdn (Below.refl _ _) _)
  have HZW : Hid (W.heap[w.heap.size]? = some (.cells #[.int .i64 0] 31)) := by rw [← hW]; exact HZ.out
  clear hW HB HP HD HZ HN HS c0 hm HPo
  obtain ⟨c0, -, -, -, -, hlt1⟩ := HQW.out.cells
  have hm := m_lay
  have HLay := toHid (lay_ok d B b i lsn v l k W HDW.out HPW.out hg hi hl)
  go_wp2_with fail
  refine Calls.mono HLay.out ?_
  rintro e w2 ⟨rfl, hdk, ho⟩
  have hne : w.heap.size ≠ d := fun e => by
    obtain ⟨M, hM, -⟩ := HDW.out.blk
    have := HZW.out
    rw [e, hM] at this
    simp at this
  have HZ2 : Hid (w2.heap[w.heap.size]? = some (.cells #[.int .i64 0] 31)) := by show _ = _; rw [ho.block _ (blk_lt HZW.out) hne]; exact HZW.out
  have HD2 := toHid hdk
  have HO2 := toHid ((One.of HBW.out).trans ho)
  clear HLay hdk ho hm c0 hlt1
  obtain ⟨s1, s2, s3⟩ := cell1 HZ2.out
  go_wp2
  refine leaves_cons (f := 69) (args := #[.pointer (some ⟨w.heap.size, 0, none⟩)]) (by simp) (by simp [go_sem]) ?_
  refine (idle69 _ _).mono ?_
  rintro e u' w'' ⟨rfl, rfl, rfl⟩
  have r0 := (cell1 (x := .int .i64 0) (heap_setCell_same w2 w.heap.size 0 _ 31 (.int .i64 0) HZ2.out)).1
  simp only [Leaves, settle]
  refine ⟨.int .i64 0, by simp [results, Try.results38, go_sem, r0], rfl, HD2.out.kept (heap_setCell_other _ _ _ _ (fun e => hne e.symm)), ?_⟩
  exact ⟨HO2.out.os, HO2.out.tape, HO2.out.output, by simpa using HO2.out.size, fun j hj hn => by rw [heap_setCell_other _ _ _ _ (by simp; omega)]; exact HO2.out.block j hj hn⟩
end Go.Proofs.Ytcloinonhpaojaa
