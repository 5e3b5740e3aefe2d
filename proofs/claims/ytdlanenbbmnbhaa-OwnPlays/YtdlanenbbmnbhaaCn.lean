/-
  New: nobody's pages.
-/
import Derived.Test.YtdlanenbbmnbhaaCb
import Derived.Laws.MakeOwn
namespace Go.Proofs.Ytdlanenbbmnbhaa
open Go.RowKit

/-- A row of bools that can be read. -/
structure SlB (w : World) (a : Option Addr) (l : List Bool) : Prop where
  at_ : ∀ j (hj : j < l.length), ∃ b o, a = some ⟨b, o, none⟩ ∧ w.cell? ⟨b, o + j, none⟩ = some (.bool l[j])
theorem SlB.below {w w' : World} {a : Option Addr} {l : List Bool} (h : SlB w a l) (hb : Below w.heap.size w w') : SlB w' a l :=
  ⟨fun j hj => by
    obtain ⟨b, o, e, h1⟩ := h.at_ j hj
    exact ⟨b, o, e, by rw [hb.cell (by exact cell_lt h1)]; exact h1⟩⟩

/-- Which numbers of pages there may be. -/
def newB (n : Int) (fast : List Bool) : Bool := decide (1 ≤ n) && decide (n ≤ 16) && decide ((fast.length : Int) ≤ n)
theorem new_no (n : Int) (a : Option Addr) (c : Nat) (fast : List Bool) (w : World) (h : newB n fast = false) :
    Calls Try.prog 10 #[.int .i64 n, .slice a fast.length c] w fun e w' => e = .returned (.tuple #[.pointer none, .int .i64 1]) ∧ w' = w := by
  by_cases h1 : n < 1
  · go_enter Try.func10, Try.ntmps10
    go_wp2
    exact bodyPost_ret (v := .tuple #[.pointer none, .int .i64 1]) (by simp [results, Try.results10, go_sem]) rfl ⟨rfl, rfl⟩
  · by_cases h2 : 16 < n
    · clear h
      go_enter Try.func10, Try.ntmps10
      go_wp2
      exact bodyPost_ret (v := .tuple #[.pointer none, .int .i64 1]) (by simp [results, Try.results10, go_sem]) rfl ⟨rfl, rfl⟩
    · have h3 : n < (fast.length : Int) := by simp [newB] at h; omega
      clear h
      go_enter Try.func10, Try.ntmps10
      go_wp2
      exact bodyPost_ret (v := .tuple #[.pointer none, .int .i64 1]) (by simp [results, Try.results10, go_sem]) rfl ⟨rfl, rfl⟩

/-- What New's loop leaves. -/
structure Mk (w : World) (q m : Nat) (fast : List Bool) (n : Nat) : Prop where
  blk : ∃ M, w.heap[q]? = some (.cells M 63)
  done : ∀ i, i < n → ∀ k, k < 6 → w.cell? ⟨q, i * 6 + k, none⟩ = some (fld ⟨fast.getD i false, 0, false, false, []⟩ i none 0 k)
  more : ∀ i, n ≤ i → i < m → ∀ k, k < 6 → w.cell? ⟨q, i * 6 + k, none⟩ = some (fld ⟨false, 0, false, false, []⟩ 0 none 0 k)

theorem info63 : ∃ i z, Try.prog.info? 63 = some i ∧ i.zero = some z ∧ z = .agg #[.int .i64 0, .bool false, .int .i64 0, .bool false, .bool false, .slice none 0 0] ∧ i.size = 6 ∧ i.bytes ≤ 100 := ⟨_, _, rfl, rfl, rfl, rfl, by decide⟩
theorem mk_zero {w : World} {q m : Nat} {M : Array Value} {fast : List Bool} (hg : w.heap[q]? = some (.cells M 63)) (hM : M = madeCells (Value.agg #[.int .i64 0, .bool false, .int .i64 0, .bool false, .bool false, .slice none 0 0]).cells (m * 6)) : Mk w q m fast 0 := by
  refine ⟨⟨M, hg⟩, fun i hi => absurd hi (by omega), fun i _ hi k hk => ?_⟩
  have hj : i * 6 + k < m * 6 := by omega
  have hr : (i * 6 + k) % 6 = k := by omega
  have h0 : M[i * 6 + k]? = some (fld ⟨false, 0, false, false, []⟩ 0 none 0 k) := by
    rw [hM, Array.getElem?_eq_getElem (by rw [size_madeCells]; omega)]
    match k, hk with
    | 0, _ | 1, _ | 2, _ | 3, _ | 4, _ | 5, _ => simp [madeCells, Value.cells, fld, hr] <;> rfl
  simp [World.cell?, hg, h0]

theorem Mk.below {w w' : World} {q m n : Nat} {fast : List Bool} (h : Mk w q m fast n) (hb : Below w.heap.size w w') : Mk w' q m fast n := by
  obtain ⟨M, hM⟩ := h.blk
  exact ⟨⟨M, by rw [hb.block q (blk_lt hM)]; exact hM⟩, fun i hi k hk => by rw [hb.cell (by exact blk_lt hM)]; exact h.done i hi k hk, fun i h1 h2 k hk => by rw [hb.cell (by exact blk_lt hM)]; exact h.more i h1 h2 k hk⟩
theorem Mk.drew {w : World} {q m n : Nat} {fast : List Bool} (h : Mk w q m fast n) : Mk w.drew q m fast n := ⟨h.blk, h.done, h.more⟩
theorem heap_drew' (w : World) (g : Nat) : w.drew.heap[g]? = w.heap[g]? := rfl
def set6 (w : World) (q o : Nat) (v : Nat → Value) : World := (((((w.setCell ⟨q, o, none⟩ (v 0)).setCell ⟨q, o + 1, none⟩ (v 1)).setCell ⟨q, o + 2, none⟩ (v 2)).setCell ⟨q, o + 3, none⟩ (v 3)).setCell ⟨q, o + 4, none⟩ (v 4)).setCell ⟨q, o + 5, none⟩ (v 5)
theorem set6_other (w : World) (q o : Nat) (v : Nat → Value) (j : Nat) (hj : j < o ∨ o + 6 ≤ j) : (set6 w q o v).cell? ⟨q, j, none⟩ = w.cell? ⟨q, j, none⟩ := by
  unfold set6
  rw [World.cell?_setCell_other (h := by simp; try omega), World.cell?_setCell_other (h := by simp; try omega), World.cell?_setCell_other (h := by simp; try omega), World.cell?_setCell_other (h := by simp; try omega), World.cell?_setCell_other (h := by simp; try omega), World.cell?_setCell_other (h := by simp; try omega)]
theorem set6_same (w : World) (q o : Nat) (v : Nat → Value) (h : ∀ k, k < 6 → (w.cell? ⟨q, o + k, none⟩).isSome = true) (k : Nat) (hk : k < 6) : (set6 w q o v).cell? ⟨q, o + k, none⟩ = some (v k) := by
  obtain ⟨u0, e0⟩ := Option.isSome_iff_exists.1 (h 0 (by omega))
  obtain ⟨u1, e1⟩ := Option.isSome_iff_exists.1 (h 1 (by omega))
  obtain ⟨u2, e2⟩ := Option.isSome_iff_exists.1 (h 2 (by omega))
  obtain ⟨u3, e3⟩ := Option.isSome_iff_exists.1 (h 3 (by omega))
  obtain ⟨u4, e4⟩ := Option.isSome_iff_exists.1 (h 4 (by omega))
  obtain ⟨u5, e5⟩ := Option.isSome_iff_exists.1 (h 5 (by omega))
  unfold set6
  match k, hk with
  | 0, _ =>
    rw [World.cell?_setCell_other (h := by simp), World.cell?_setCell_other (h := by simp), World.cell?_setCell_other (h := by simp), World.cell?_setCell_other (h := by simp), World.cell?_setCell_other (h := by simp)]
    exact World.cell?_setCell_same _ _ _ e0
  | 1, _ =>
    rw [World.cell?_setCell_other (h := by simp), World.cell?_setCell_other (h := by simp), World.cell?_setCell_other (h := by simp), World.cell?_setCell_other (h := by simp)]
    exact World.cell?_setCell_same _ _ _ (by rw [World.cell?_setCell_other (h := by simp)]; exact e1)
  | 2, _ =>
    rw [World.cell?_setCell_other (h := by simp), World.cell?_setCell_other (h := by simp), World.cell?_setCell_other (h := by simp)]
    exact World.cell?_setCell_same _ _ _ (by rw [World.cell?_setCell_other (h := by simp), World.cell?_setCell_other (h := by simp)]; exact e2)
  | 3, _ =>
    rw [World.cell?_setCell_other (h := by simp), World.cell?_setCell_other (h := by simp)]
    exact World.cell?_setCell_same _ _ _ (by rw [World.cell?_setCell_other (h := by simp), World.cell?_setCell_other (h := by simp), World.cell?_setCell_other (h := by simp)]; exact e3)
  | 4, _ =>
    rw [World.cell?_setCell_other (h := by simp)]
    exact World.cell?_setCell_same _ _ _ (by rw [World.cell?_setCell_other (h := by simp), World.cell?_setCell_other (h := by simp), World.cell?_setCell_other (h := by simp), World.cell?_setCell_other (h := by simp)]; exact e4)
  | 5, _ =>
    exact World.cell?_setCell_same _ _ _ (by rw [World.cell?_setCell_other (h := by simp), World.cell?_setCell_other (h := by simp), World.cell?_setCell_other (h := by simp), World.cell?_setCell_other (h := by simp), World.cell?_setCell_other (h := by simp)]; exact e5)
theorem set6_heap (w : World) (q o : Nat) (v : Nat → Value) (g : Nat) (hg : g ≠ q) : (set6 w q o v).heap[g]? = w.heap[g]? := by
  unfold set6
  rw [heap_setCell_other _ _ _ _ hg, heap_setCell_other _ _ _ _ hg, heap_setCell_other _ _ _ _ hg, heap_setCell_other _ _ _ _ hg, heap_setCell_other _ _ _ _ hg, heap_setCell_other _ _ _ _ hg]
theorem Mk.set {w : World} {q m n : Nat} {fast : List Bool} (h : Mk w q m fast n) (hn : n < m) : Mk (set6 w q (n * 6) (fld ⟨fast.getD n false, 0, false, false, []⟩ n none 0)) q m fast (n + 1) := by
  obtain ⟨M, hM⟩ := h.blk
  refine ⟨⟨_, heap_setCell_same _ q _ _ 63 _ (heap_setCell_same _ q _ _ 63 _ (heap_setCell_same _ q _ _ 63 _ (heap_setCell_same _ q _ _ 63 _ (heap_setCell_same _ q _ _ 63 _ (heap_setCell_same w q _ M 63 _ hM)))))⟩, fun i hi k hk => ?_, fun i h1 h2 k hk => ?_⟩
  · by_cases e : i = n
    · subst e
      exact set6_same _ _ _ _ (fun k hk => by rw [h.more i (Nat.le_refl _) hn k hk]; rfl) k hk
    · rw [set6_other _ _ _ _ _ (by omega)]
      exact h.done i (by omega) k hk
  · rw [set6_other _ _ _ _ _ (by omega)]
    exact h.more i (by omega) h2 k hk
theorem set6_below {w W : World} {B q o : Nat} {v : Nat → Value} (h : Below B w W) (hq : B ≤ q) : Below B w (set6 W q o v) := by
  unfold set6
  exact (((((h.setCell hq _).setCell hq _).setCell hq _).setCell hq _).setCell hq _).setCell hq _
theorem newL_at (m : Nat) (fast : List Bool) (i : Nat) (hi : i < (newL m fast).length) : (newL m fast)[i] = ⟨fast.getD i false, 0, false, false, []⟩ := by simp [newL]
theorem Mk.bk {w : World} {p q m : Nat} {fast : List Bool} (h : Mk w q m fast m) (hp : w.heap[p]? = some (.cells #[.slice (some ⟨q, 0, none⟩) m m] 60)) (hm : m ≤ 16) : Bk w p q (newL m fast) := by
  refine ⟨fun _ => none, fun _ => 0, m, ⟨by rw [new_len]; exact hp, h.blk, fun i hi k hk => ?_, fun i hi => ?_, fun i _ x e => by simp at e, fun i hi => ?_, by rw [new_len]; exact hm⟩⟩
  · rw [newL_at]
    rw [new_len] at hi
    exact h.done i hi k hk
  · rw [newL_at]; exact SlI.nil _ _
  · rw [newL_at]; simp

set_option maxHeartbeats 600000 in
theorem new_yes (m : Nat) (a : Option Addr) (c : Nat) (fast : List Bool) (w : World) (h1 : 1 ≤ m) (h2 : m ≤ 16) (h3 : fast.length ≤ m) (hf : SlB w a fast) :
    Calls Try.prog 10 #[.int .i64 (m : Int), .slice a fast.length c] w fun e w' => (∃ p q, e = .returned (.tuple #[.pointer (some ⟨p, 0, none⟩), .int .i64 0]) ∧ Bk w' p q (newL m fast) ∧ w.heap.size ≤ p ∧ w.heap.size ≤ q) ∧ Below w.heap.size w w' := by
  obtain ⟨i9, z9, hi, hz0, hz1, hz2, hz3⟩ := info63
  obtain ⟨M, hMd⟩ : ∃ M, M = madeCells (Value.agg #[.int .i64 0, .bool false, .int .i64 0, .bool false, .bool false, .slice none 0 0]).cells (m * 6) := ⟨_, rfl⟩
  have hmk : ∀ W : World, (Instr.makeSlice 58 (.int .i64 (m : Int)) (.int .i64 (m : Int))).run Try.prog W = .ok (.slice (some ⟨W.heap.size, 0, none⟩) m m) (W.alloc (.cells M 63)) := fun W => by
    have hby : (i9.bytes : Int) * (m : Int) ≤ 100 * 16 := Int.mul_le_mul (by omega) (by omega) (by omega) (by omega)
    have h := run_make (P := Try.prog) W 58 63 i9 _ Try.underlying58 hi hz0 .i64 .i64 (m : Int) (m : Int) (by omega) (by omega) (by omega) (by omega)
    rw [hz1, Int.toNat_natCast, hz2, ← hMd] at h
    exact h
  have HMd := toHid hMd
  have HF := toHid hf
  clear hMd hf
  go_enter Try.func10, Try.ntmps10
  go_wp2_with fail
  have j1 := heap_alloc_new w (.cells M 63)
  have b1 := (Below.refl w.heap.size w).alloc (Nat.le_refl _) (.cells M 63)
  have z1 : (w.alloc (.cells M 63)).heap.size = w.heap.size + 1 := by simp
  have j2 := heap_alloc_new (w.alloc (.cells M 63)) (.cells #[.slice (some ⟨w.heap.size, 0, none⟩) m m] 60)
  rw [z1] at j2
  have b2 := b1.alloc (by omega) (.cells #[.slice (some ⟨w.heap.size, 0, none⟩) m m] 60)
  have j3 : ((w.alloc (.cells M 63)).alloc (.cells #[.slice (some ⟨w.heap.size, 0, none⟩) m m] 60)).heap[w.heap.size]? = some (.cells M 63) := by
    rw [((Below.refl (w.alloc (.cells M 63)).heap.size _).alloc (Nat.le_refl _) _).block _ (by omega)]
    exact j1
  generalize World.alloc (World.alloc _ _) _ = W0 at j2 j3 b2 ⊢
  have HM := toHid (mk_zero (fast := fast) j3 HMd.out)
  have HP := toHid j2
  have HB := toHid b2
  clear hmk HMd j1 b1 z1 j2 j3 b2
  go_loopw [29] (fun i wr => ∃ n : Nat, n ≤ m ∧ i = .int .i64 n ∧ Mk wr w.heap.size m fast n ∧ wr.heap[w.heap.size + 1]? = some (.cells #[.slice (some ⟨w.heap.size, 0, none⟩) m m] 60) ∧ Below w.heap.size w wr) (fun i _ => m - (intOf i).toNat)
  case atStart => exact ⟨0, Nat.zero_le _, rfl, HM.out, HP.out, HB.out⟩
  case round =>
    clear HM HP HB
    obtain ⟨n, hn, rfl, hmk, hp, hb⟩ := hrel
    have HM := toHid hmk
    have HP := toHid hp
    have HB := toHid hb
    have c0 : wr.cell? ⟨w.heap.size + 1, 0, none⟩ = some (.slice (some ⟨w.heap.size, 0, none⟩) m m) := by simp [World.cell?, hp]
    by_cases hlt : n < m
    · obtain ⟨M2, hM2⟩ := hmk.blk
      have g : ∀ k, k < 6 → wr.cell? ⟨w.heap.size, n * 6 + k, none⟩ = some (fld ⟨false, 0, false, false, []⟩ 0 none 0 k) := fun k hk => hmk.more n (Nat.le_refl _) hlt k hk
      have g0 := g 0 (by omega)
      have g1 := g 1 (by omega)
      have g2 := g 2 (by omega)
      have g3 := g 3 (by omega)
      have g4 := g 4 (by omega)
      have g5 := g 5 (by omega)
      simp only [fld, Nat.add_zero] at g0 g1 g2 g3 g4 g5
      have f : ∀ j, wr.frozen? ⟨w.heap.size, j, none⟩ = false := fun j => by simp [World.frozen?, hM2]
      have f0 := f (n * 6)
      have f1 := f (n * 6 + 1)
      have f2 := f (n * 6 + 2)
      have f3 := f (n * 6 + 3)
      have f4 := f (n * 6 + 4)
      have f5 := f (n * 6 + 5)
      have HX := toHid (hmk.set hlt)
      have HXp := toHid ((set6_heap wr w.heap.size (n * 6) (fld ⟨fast.getD n false, 0, false, false, []⟩ n none 0) (w.heap.size + 1) (by omega)).trans hp)
      have HXb := toHid (set6_below (o := n * 6) (v := fld ⟨fast.getD n false, 0, false, false, []⟩ n none 0) hb (Nat.le_refl _))
      have hfs := HF.out.below hb
      clear hmk hp hb g f hM2
      by_cases hfn : n < fast.length
      · obtain ⟨b, o, rfl, hb0⟩ := hfs.at_ n hfn
        have e : fast.getD n false = fast[n] := by rw [List.getD_eq_getElem?_getD, List.getElem?_eq_getElem hfn, Option.getD_some]
        rw [e] at HX HXp HXb
        simp only [set6, fld, List.length_nil] at HX HXp HXb
        clear hfs e
        go_wp2_with fail
        go_region
        generalize hW : World.drew (World.setCell _ _ _) = W
        have HY : Hid (Mk W w.heap.size m fast (n + 1) ∧ W.heap[w.heap.size + 1]? = some (.cells #[.slice (some ⟨w.heap.size, 0, none⟩) m m] 60) ∧ Below w.heap.size w W) := by
          have HD := HX.out.drew
          have HDb := HXb.out.drew
          rw [hW] at HD HDb
          refine ⟨HD, ?_, HDb⟩
          rw [← hW, heap_drew']
          exact HXp.out
        clear hW HX HXp HXb
        go_wp2_with fail
        go_roundw
        case rel => exact ⟨n + 1, by omega, by simp, HY.out⟩
        case measure => first | omega | (simp only [intOf]; omega)
      · have e : fast.getD n false = false := by rw [List.getD_eq_getElem?_getD, List.getElem?_eq_none (by omega)]; rfl
        rw [e] at HX HXp HXb
        simp only [set6, fld, List.length_nil] at HX HXp HXb
        clear hfs e
        go_wp2_with fail
        go_region
        generalize hW : World.drew (World.setCell _ _ _) = W
        have HY : Hid (Mk W w.heap.size m fast (n + 1) ∧ W.heap[w.heap.size + 1]? = some (.cells #[.slice (some ⟨w.heap.size, 0, none⟩) m m] 60) ∧ Below w.heap.size w W) := by
          have HD := HX.out.drew
          have HDb := HXb.out.drew
          rw [hW] at HD HDb
          refine ⟨HD, ?_, HDb⟩
          rw [← hW, heap_drew']
          exact HXp.out
        clear hW HX HXp HXb
        go_wp2_with fail
        go_roundw
        case rel => exact ⟨n + 1, by omega, by simp, HY.out⟩
        case measure => first | omega | (simp only [intOf]; omega)
    · obtain rfl : n = m := by omega
      clear hmk hp hb
      go_wp2
      refine bodyPost_ret (v := .tuple #[.pointer (some ⟨w.heap.size + 1, 0, none⟩), .int .i64 0]) (by simp [results, Try.results10, go_sem]) rfl ?_
      exact ⟨⟨w.heap.size + 1, w.heap.size, rfl, HM.out.bk HP.out h2, by omega, Nat.le_refl _⟩, HB.out⟩
end Go.Proofs.Ytdlanenbbmnbhaa
