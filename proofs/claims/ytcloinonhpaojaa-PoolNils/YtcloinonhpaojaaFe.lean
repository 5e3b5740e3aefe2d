/-
  A ring copied.
-/
import Derived.Test.YtcloinonhpaojaaFd
import Derived.Deep.QuietTactic
namespace Go.Proofs.Ytcloinonhpaojaa.Ck
open Go.RowKit

theorem info123 : (Try.prog.info? 123).map (fun i => (i.zero, i.size, i.bytes)) = some (some (.agg #[.int .i64 0, .bool false, .int .i64 0]), 3, 24) := by kernel_rfl

theorem row_of_cells {w : World} {g n : Nat} {l : List Fr} {cur : Array Value} {t : TypeId} (hg : w.heap[g]? = some (.cells cur t)) (hs : cur.size = n * 3) (hl : l.length = n) :
    RowF (w.setCells g 0 (frs l)) g l := by
  have hlt := (Array.getElem?_eq_some_iff.mp hg).1
  have hc : ∀ j, j < (frs l).length → (w.cell? ⟨g, 0 + j, none⟩).isSome = true := fun j hj => by
    rw [frs_length] at hj
    simp [World.cell?, hg]
    omega
  have hf : ∀ o, w.frozen? ⟨g, o, none⟩ = false := fun o => by simp [World.frozen?, hg]
  have hin := World.cell?_setCells_in g (frs l) 0 w hc
  have hfz := World.frozen?_setCells g (frs l) 0 w
  refine ⟨by rw [size_setCells]; exact hlt, fun i hi => ?_⟩
  obtain ⟨h1, h2, h3⟩ := frs_get l i l[i] (List.getElem?_eq_getElem hi)
  obtain ⟨j1, e1⟩ := List.getElem?_eq_some_iff.1 h1
  obtain ⟨j2, e2⟩ := List.getElem?_eq_some_iff.1 h2
  obtain ⟨j3, e3⟩ := List.getElem?_eq_some_iff.1 h3
  have k1 := hin _ j1
  have k2 := hin _ j2
  have k3 := hin _ j3
  rw [e1] at k1
  rw [e2] at k2
  rw [e3] at k3
  simp only [Nat.zero_add] at k1 k2 k3
  exact ⟨k1, k2, k3, by rw [hfz]; exact hf _, by rw [hfz]; exact hf _, by rw [hfz]; exact hf _⟩
theorem heap_setCells (b : Nat) : ∀ (vs : List Value) (o : Nat) (w : World) (k : Nat), k ≠ b → (w.setCells b o vs).heap[k]? = w.heap[k]?
  | [], _, _, _, _ => rfl
  | v :: vs, o, w, k, h => by rw [World.setCells, heap_setCells b vs _ _ k h]; exact heap_setCell_other _ _ _ _ (by simpa using fun e => h e)

theorem copy3_any {P : Program} {w : World} (dT sT ty elem : TypeId) (i : TypeInfo) (hu : P.underlying dT = some (.slice elem)) (hi : P.info? elem = some i) (hsz : i.size = 3)
    (g n dCap b off sCap : Nat) (l : List Fr) (hl : l.length = n) (hsl : SlF w (some ⟨b, off, none⟩) l) (cur : Array Value) (t : TypeId) (hg : w.heap[g]? = some (.cells cur t)) (hcs : cur.size = n * 3) (B : Nat) (w0 : World) (hb : Below B w0 w) (hB : B ≤ g) :
    ∃ w', (Builtin.copy_ #[dT, sT] ty #[.slice (some ⟨g, 0, none⟩) n dCap, .slice (some ⟨b, off, none⟩) n sCap]).run P w = .ok (.int .i64 (n : Int)) w' ∧ RowF w' g l ∧ Below B w0 w' ∧ ∀ k, k ≠ g → w'.heap[k]? = w.heap[k]? := by
  have hfl := frs_length l
  have hrun := run_copy3 (P := P) w dT sT ty elem g n dCap ⟨b, off, none⟩ sCap (frs l) i hu hi hsz (by rw [hfl, hl]) hsl.src (fun j hj => by simp [World.cell?, hg]; omega) (fun j hj => by simp [World.frozen?, hg]) (frs_one l)
  exact ⟨_, hrun, row_of_cells hg hcs hl, below_setCells hB _ _ _ hb, fun k hk => heap_setCells g _ _ _ k hk⟩

theorem push4 {α : Type} (A : Array α) (a b c d : α) : ((((A.push a).push b).push c).push d)[A.size]? = some a ∧ ((((A.push a).push b).push c).push d)[A.size + 1]? = some b ∧ ((((A.push a).push b).push c).push d)[A.size + 1 + 1]? = some c ∧ ((((A.push a).push b).push c).push d)[A.size + 1 + 1 + 1]? = some d := by
  refine ⟨?_, ?_, ?_, ?_⟩ <;> simp only [Array.getElem?_push, Array.size_push] <;> repeat (first | rw [if_pos (by first | trivial | omega)] | rw [if_neg (by omega)])
/-- A ring stored into a block of its own. -/
theorem ring_set {w : World} {g : Nat} {x y u v : Value} (h : w.heap[g]? = some (.cells #[x, y] 36)) : ((w.setCell ⟨g, 0, none⟩ u).setCell ⟨g, 1, none⟩ v).heap[g]? = some (.cells #[u, v] 36) :=
  heap_setCell_same _ g 1 _ 36 v (heap_setCell_same w g 0 _ 36 u h)

set_option maxHeartbeats 2000000 in
theorem copied_any (a : Option Addr) (c : Nat) (r : Rg) (w : World) (h : SlF w a r.fr) (hM : MayR r) :
    Calls Try.prog 83 #[rgV a c r] w fun e w' => ∃ g, e = .returned (rgV (some ⟨g, 0, none⟩) r.fr.length r) ∧ w.heap.size ≤ g ∧ RowF w' g r.fr ∧ Below w.heap.size w w' := by
  have h16 := hM.most
  have h1 := hM.one
  obtain ⟨i0, hi, hz0, hz1, hz2⟩ := info_parts info123
  obtain ⟨M, hMd⟩ : ∃ M, M = madeCells (Value.agg #[.int .i64 0, .bool false, .int .i64 0]).cells (((r.fr.length : Nat) : Int).toNat * i0.size) := ⟨_, rfl⟩
  have hMs : M.size = r.fr.length * 3 := by rw [hMd, size_madeCells, hz1]; simp
  have hmk : ∀ W : World, (Instr.makeSlice 34 (.int .i64 (r.fr.length : Int)) (.int .i64 (r.fr.length : Int))).run Try.prog W = .ok (.slice (some ⟨W.heap.size, 0, none⟩) r.fr.length r.fr.length) (W.alloc (.cells M 123)) := fun W => by
    have h := run_make (P := Try.prog) W 34 123 i0 _ Try.underlying34 hi hz0 .i64 .i64 (r.fr.length : Int) (r.fr.length : Int) (by omega) (by omega) (by rw [hz2]; omega) (by omega)
    rw [← hMd] at h
    simpa using h
  clear hMd
  obtain ⟨b, o, rfl, -⟩ := h.at 0 (by omega)
  go_enter Try.func83, Try.ntmps83
  go_wp2_with fail
  go_region
  · generalize hW : World.drew _ = W
    obtain ⟨k0, k1, k2, k3⟩ := push4 w.heap (.cells (rgC (some ⟨b, o, none⟩) c r) 36) (.cells #[.slice none 0 0, .int .i64 0] 36) (.cells M 123) (.cells #[.slice (some ⟨w.heap.size + 1 + 1, 0, none⟩) r.fr.length r.fr.length, .int .i64 r.hand] 36)
    have hg : W.heap[w.heap.size + 1 + 1]? = some (.cells M 123) := by rw [← hW]; exact k2
    have hp : W.heap[w.heap.size + 1 + 1 + 1]? = some (.cells #[.slice (some ⟨w.heap.size + 1 + 1, 0, none⟩) r.fr.length r.fr.length, .int .i64 r.hand] 36) := by rw [← hW]; exact k3
    have h0 : W.heap[w.heap.size]? = some (.cells #[.slice (some ⟨b, o, none⟩) r.fr.length c, .int .i64 r.hand] 36) := by rw [← hW]; exact k0
    have hr : W.heap[w.heap.size + 1]? = some (.cells #[.slice none 0 0, .int .i64 0] 36) := by rw [← hW]; exact k1
    have hB : Below w.heap.size w W := by
      rw [← hW]
      exact (((((Below.refl _ w).alloc (Nat.le_refl _) _).alloc (by simp) _).alloc (by simp; omega) _).alloc (by simp; omega) _).drew
    have hsW := h.below hB
    clear hW k0 k1 k2 k3
    obtain ⟨p0, p1, p2, p3, p4⟩ := cell2 hp
    obtain ⟨q0, q1, q2, q3, q4⟩ := cell2 h0
    have HP := toHid hp
    have HR := toHid hr
    clear hp h0 hr
    obtain ⟨w2, hcp, hrow, hB2, hk2⟩ := copy3_any (P := Try.prog) (w := W) 34 34 3 123 i0 Try.underlying34 hi hz1 (w.heap.size + 1 + 1) r.fr.length r.fr.length b o c r.fr rfl hsW M 123 hg hMs w.heap.size w hB (by omega)
    have hp2 := (hk2 (w.heap.size + 1 + 1 + 1) (by omega)).trans HP.out
    have hr2 := (hk2 (w.heap.size + 1) (by omega)).trans HR.out
    clear hg hsW hB hk2 HP HR
    obtain ⟨s0, s1, s2, s3, s4⟩ := cell2 hp2
    obtain ⟨t0, t1, t2, t3, t4⟩ := cell2 hr2
    have HR2 := toHid hr2
    clear hp2 hr2
    have HW := toHid hrow
    clear hrow
    go_wp2
    obtain ⟨r0, r1, -⟩ := cell2 (ring_set (u := .slice (some ⟨w.heap.size + 1 + 1, 0, none⟩) r.fr.length r.fr.length) (v := .int .i64 r.hand) HR2.out)
    refine bodyPost_ret (v := rgV (some ⟨w.heap.size + 1 + 1, 0, none⟩) r.fr.length r) (by simp [results, Try.results83, go_sem, r0, r1]) rfl ?_
    exact ⟨_, rfl, by omega, (HW.out.other ⟨w.heap.size + 1, 0, none⟩ _ (by simp; try omega)).other ⟨w.heap.size + 1, 1, none⟩ _ (by simp; try omega), (hB2.setCell (p := ⟨w.heap.size + 1, 0, none⟩) (by simp) _).setCell (p := ⟨w.heap.size + 1, 1, none⟩) (by simp) _⟩
  · generalize hW : World.drew _ = W
    obtain ⟨k0, k1, k2, k3⟩ := push4 w.heap (.cells (rgC (some ⟨b, o, none⟩) c r) 36) (.cells #[.slice none 0 0, .int .i64 0] 36) (.cells #[.slice (some ⟨w.heap.size + 1 + 1 + 1, 0, none⟩) r.fr.length r.fr.length, .int .i64 r.hand] 36) (.cells M 123)
    have hg : W.heap[w.heap.size + 1 + 1 + 1]? = some (.cells M 123) := by rw [← hW]; exact k3
    have hp : W.heap[w.heap.size + 1 + 1]? = some (.cells #[.slice (some ⟨w.heap.size + 1 + 1 + 1, 0, none⟩) r.fr.length r.fr.length, .int .i64 r.hand] 36) := by rw [← hW]; exact k2
    have h0 : W.heap[w.heap.size]? = some (.cells #[.slice (some ⟨b, o, none⟩) r.fr.length c, .int .i64 r.hand] 36) := by rw [← hW]; exact k0
    have hr : W.heap[w.heap.size + 1]? = some (.cells #[.slice none 0 0, .int .i64 0] 36) := by rw [← hW]; exact k1
    have hB : Below w.heap.size w W := by
      rw [← hW]
      exact (((((Below.refl _ w).alloc (Nat.le_refl _) _).alloc (by simp) _).alloc (by simp; omega) _).alloc (by simp; omega) _).drew
    have hsW := h.below hB
    clear hW k0 k1 k2 k3
    obtain ⟨p0, p1, p2, p3, p4⟩ := cell2 hp
    obtain ⟨q0, q1, q2, q3, q4⟩ := cell2 h0
    have HP := toHid hp
    have HR := toHid hr
    clear hp h0 hr
    obtain ⟨w2, hcp, hrow, hB2, hk2⟩ := copy3_any (P := Try.prog) (w := W) 34 34 3 123 i0 Try.underlying34 hi hz1 (w.heap.size + 1 + 1 + 1) r.fr.length r.fr.length b o c r.fr rfl hsW M 123 hg hMs w.heap.size w hB (by omega)
    have hp2 := (hk2 (w.heap.size + 1 + 1) (by omega)).trans HP.out
    have hr2 := (hk2 (w.heap.size + 1) (by omega)).trans HR.out
    clear hg hsW hB hk2 HP HR
    obtain ⟨s0, s1, s2, s3, s4⟩ := cell2 hp2
    obtain ⟨t0, t1, t2, t3, t4⟩ := cell2 hr2
    have HR2 := toHid hr2
    clear hp2 hr2
    have HW := toHid hrow
    clear hrow
    go_wp2
    obtain ⟨r0, r1, -⟩ := cell2 (ring_set (u := .slice (some ⟨w.heap.size + 1 + 1 + 1, 0, none⟩) r.fr.length r.fr.length) (v := .int .i64 r.hand) HR2.out)
    refine bodyPost_ret (v := rgV (some ⟨w.heap.size + 1 + 1 + 1, 0, none⟩) r.fr.length r) (by simp [results, Try.results83, go_sem, r0, r1]) rfl ?_
    exact ⟨_, rfl, by omega, (HW.out.other ⟨w.heap.size + 1, 0, none⟩ _ (by simp; try omega)).other ⟨w.heap.size + 1, 1, none⟩ _ (by simp; try omega), (hB2.setCell (p := ⟨w.heap.size + 1, 0, none⟩) (by simp) _).setCell (p := ⟨w.heap.size + 1, 1, none⟩) (by simp) _⟩
end Go.Proofs.Ytcloinonhpaojaa.Ck
