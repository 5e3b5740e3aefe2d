/-
  The store of the laws: what lies in it, Fetch and Stable.
-/
import Derived.Test.YtcloinonhpaojaaQa
import Derived.Test.YtcloinonhpaojaaNe
import Derived.Lib.ConvBytes
import Derived.Laws.IdiomStrings
namespace Go.Proofs.Ytcloinonhpaojaa
open Go.RowKit

/-- What a conversion of a string to bytes lays. -/
theorem bytes_made (w : World) (l : List UInt8) : ∃ cap1 W1, (convert 9 69 (.string (txt l))).run Try.prog w = .ok (.slice (some ⟨w.heap.size, 0, none⟩) l.length cap1) W1 ∧
    SlB W1 (some ⟨w.heap.size, 0, none⟩) l ∧ l.length ≤ cap1 ∧ Below w.heap.size w W1 := by
  have h := run_bytes_of_string (P := Try.prog) w 9 69 5 (txt l) Try.underlying9 Try.underlying69 Try.underlying5
  have hge := grownCap_ge w l.length 0 5
  rw [txt_size] at h
  generalize grownCap w l.length 0 5 = cap1 at *
  have hrow : ∀ j (hj : j < l.length), (bytesRow (txt l) cap1)[j]? = some (.int .u8 (l[j].toNat : Int)) := by
    intro j hj
    simp [bytesRow, txt, Array.getElem?_append, hj]
  generalize bytesRow (txt l) cap1 = C at *
  have hblk : (w.drew.alloc (.cells C 5 (C.size, C.size + 1))).heap[w.heap.size]? = some (.cells C 5 (C.size, C.size + 1)) := heap_alloc_new w.drew _
  refine ⟨cap1, _, h, ⟨fun h => by simp at h, fun x hx j u hu => ?_⟩, hge, (Below.refl _ _).drew.alloc (Nat.le_refl _) _⟩
  simp at hx
  subst hx
  have hj : j < l.length := by have := (List.getElem?_eq_some_iff.1 hu).1; simpa [bcells] using this
  have e : (⟨w.heap.size, 0, none⟩ : Addr).add j = ⟨w.heap.size, j, none⟩ := by unfold Addr.add; split <;> simp_all
  rw [e]
  simp [bcells, List.getElem?_eq_getElem hj] at hu
  subst hu
  simp only [World.cell?, hblk]
  rw [hrow j hj]
  rfl

/-- What lies in a store: which pages were laid, their LSNs and slots, what is stable, and the greatest LSN that was laid. -/
structure Dk where
  on : Nat → Bool
  lsn : Nat → Nat
  l : Nat → List Cl
  stable : Nat
  most : Nat
def dkB (k : Dk) (i : Nat) : List UInt8 := if k.on i = true then pageB i (k.lsn i) (k.l i) else []

structure DkM (M : Array Value) (k : Dk) : Prop where
  size : M.size = 34
  pg : ∀ i, i < 16 → M[i]? = some (.string (txt (dkB k i)))
  bad : ∀ i, i < 16 → M[16 + i]? = some (.bool false)
  stb : M[32]? = some (.int .u64 (k.stable : Int))
  mst : M[33]? = some (.int .u64 (k.most : Int))
structure DkIn (w : World) (d : Nat) (k : Dk) : Prop where
  blk : ∃ M, w.heap[d]? = some (.cells M 59) ∧ DkM M k
  good : ∀ i, GoodL (k.l i)
  low : ∀ i, k.lsn i < 18446744073709551616
  off : ∀ i, k.on i = false → k.lsn i = 0 ∧ k.l i = []

theorem DkIn.lt {w : World} {d : Nat} {k : Dk} (h : DkIn w d k) : d < w.heap.size := by obtain ⟨M, h1, -⟩ := h.blk; exact blk_lt h1
theorem DkIn.below {w w' : World} {d : Nat} {k : Dk} (h : DkIn w d k) (hb : Below w.heap.size w w') : DkIn w' d k := by
  obtain ⟨M, h1, h2⟩ := h.blk
  exact ⟨⟨M, by rw [hb.block d (blk_lt h1)]; exact h1, h2⟩, h.good, h.low, h.off⟩
theorem DkIn.kept {w w' : World} {d : Nat} {k : Dk} (h : DkIn w d k) (hb : w'.heap[d]? = w.heap[d]?) : DkIn w' d k := by
  obtain ⟨M, h1, h2⟩ := h.blk
  exact ⟨⟨M, by rw [hb]; exact h1, h2⟩, h.good, h.low, h.off⟩
theorem DkIn.cells {w : World} {d : Nat} {k : Dk} (h : DkIn w d k) (i : Nat) (hi : i < 16) :
    w.cell? ⟨d, i, none⟩ = some (.string (txt (dkB k i))) ∧ w.cell? ⟨d, 16 + i, none⟩ = some (.bool false) ∧ w.frozen? ⟨d, i, none⟩ = false ∧ d < w.heap.size := by
  obtain ⟨M, h1, h2⟩ := h.blk
  refine ⟨?_, ?_, ?_, blk_lt h1⟩
  · simp [World.cell?, h1, h2.pg i hi]
  · simp [World.cell?, h1, h2.bad i hi]
  · simp [World.frozen?, h1]
theorem DkIn.nums {w : World} {d : Nat} {k : Dk} (h : DkIn w d k) :
    w.cell? ⟨d, 32, none⟩ = some (.int .u64 (k.stable : Int)) ∧ w.cell? ⟨d, 33, none⟩ = some (.int .u64 (k.most : Int)) ∧ w.frozen? ⟨d, 32, none⟩ = false ∧ w.frozen? ⟨d, 33, none⟩ = false ∧ d < w.heap.size := by
  obtain ⟨M, h1, h2⟩ := h.blk
  refine ⟨?_, ?_, ?_, ?_, blk_lt h1⟩
  · simp [World.cell?, h1, h2.stb]
  · simp [World.cell?, h1, h2.mst]
  · simp [World.frozen?, h1]
  · simp [World.frozen?, h1]

theorem DkIn.setStable {w : World} {d : Nat} {k : Dk} (h : DkIn w d k) (n : Nat) : DkIn (w.setCell ⟨d, 32, none⟩ (.int .u64 (n : Int))) d { k with stable := n } := by
  obtain ⟨M, h1, h2⟩ := h.blk
  have hs := h2.size
  refine ⟨⟨_, heap_setCell_same w d 32 M 59 _ h1, ?_⟩, h.good, h.low, h.off⟩
  refine ⟨by simp [hs], fun i hi => ?_, fun i hi => ?_, by simp [hs], ?_⟩
  · rw [Array.getElem?_setIfInBounds, if_neg (by omega)]; exact h2.pg i hi
  · rw [Array.getElem?_setIfInBounds, if_neg (by omega)]; exact h2.bad i hi
  · rw [Array.getElem?_setIfInBounds, if_neg (by omega)]; exact h2.mst
theorem DkIn.setMost {w : World} {d : Nat} {k : Dk} (h : DkIn w d k) (n : Nat) : DkIn (w.setCell ⟨d, 33, none⟩ (.int .u64 (n : Int))) d { k with most := n } := by
  obtain ⟨M, h1, h2⟩ := h.blk
  have hs := h2.size
  refine ⟨⟨_, heap_setCell_same w d 33 M 59 _ h1, ?_⟩, h.good, h.low, h.off⟩
  refine ⟨by simp [hs], fun i hi => ?_, fun i hi => ?_, ?_, by simp [hs]⟩
  · rw [Array.getElem?_setIfInBounds, if_neg (by omega)]; exact h2.pg i hi
  · rw [Array.getElem?_setIfInBounds, if_neg (by omega)]; exact h2.bad i hi
  · rw [Array.getElem?_setIfInBounds, if_neg (by omega)]; exact h2.stb
theorem DkIn.setPage {w : World} {d : Nat} {k : Dk} (h : DkIn w d k) (i lsn : Nat) (l : List Cl) (hi : i < 16) (hg : GoodL l) (hl : lsn < 18446744073709551616) :
    DkIn (w.setCell ⟨d, i, none⟩ (.string (txt (pageB i lsn l)))) d { k with on := upd k.on i true, lsn := upd k.lsn i lsn, l := upd k.l i l } := by
  obtain ⟨M, h1, h2⟩ := h.blk
  have hs := h2.size
  refine ⟨⟨_, heap_setCell_same w d i M 59 _ h1, ?_⟩, fun j => ?_, fun j => ?_, fun j hj => ?_⟩
  · refine ⟨by simp [hs], fun j hj => ?_, fun j hj => ?_, ?_, ?_⟩
    · by_cases e : j = i
      · subst e
        rw [Array.getElem?_setIfInBounds, if_pos rfl, if_pos (by omega)]
        simp [dkB, upd_self]
      · rw [Array.getElem?_setIfInBounds, if_neg (by omega)]
        simp only [dkB, upd_ne _ _ e]
        exact h2.pg j hj
    · rw [Array.getElem?_setIfInBounds, if_neg (by omega)]; exact h2.bad j hj
    · rw [Array.getElem?_setIfInBounds, if_neg (by omega)]; exact h2.stb
    · rw [Array.getElem?_setIfInBounds, if_neg (by omega)]; exact h2.mst
  · by_cases e : j = i
    · subst e; simp only [upd_self]; exact hg
    · simp only [upd_ne _ _ e]; exact h.good j
  · by_cases e : j = i
    · subst e; simp only [upd_self]; exact hl
    · simp only [upd_ne _ _ e]; exact h.low j
  · by_cases e : j = i
    · subst e; simp [upd_self] at hj
    · simp only [upd_ne _ _ e] at hj ⊢; exact h.off j hj

theorem stable_any (d : Nat) (k : Dk) (w : World) (h : DkIn w d k) : Calls Try.prog 119 #[.pointer (some ⟨d, 0, none⟩)] w fun e w' => e = .returned (.int .u64 (k.stable : Int)) ∧ w' = w := by
  obtain ⟨c0, c1, -, -, hlt⟩ := h.nums
  clear h
  go_enter Try.func119, Try.ntmps119
  go_wp2
  go_ret
  exact ⟨rfl, rfl⟩

/-- A page, told. -/
def RetP (w w' : World) (i lsn : Nat) (l : List Cl) (e : Ending) : Prop := ∃ b v, e = .returned (.tuple #[.pointer (some ⟨b, 0, none⟩), .int .i64 0]) ∧ PgOk w' w.heap.size b (i : Int) lsn v l ∧ Below w.heap.size w w'

set_option maxRecDepth 20000 in
set_option maxHeartbeats 1000000 in
theorem fetch_any (d i : Nat) (k : Dk) (w : World) (h : DkIn w d k) (hi : i < 16) : Calls Try.prog 18 #[.pointer (some ⟨d, 0, none⟩), .int .i64 (i : Int)] w fun e w' => RetP w w' i (k.lsn i) (k.l i) e := by
  obtain ⟨c0, c1, -, hlt⟩ := h.cells i hi
  cases hon : k.on i
  · have hz := h.off i hon
    have e0 : dkB k i = [] := by simp [dkB, hon]
    rw [e0] at c0
    have hq : ((txt []).toList == ([] : List UInt8)) = true := by simp [txt_toList]
    have hn := new_yes (i : Int) w (by omega)
    clear h hon e0
    go_enter Try.func18, Try.ntmps18
    go_wp2_with fail
    refine hn.mono ?_
    rintro e w1 ⟨rfl, rfl⟩
    go_wp2
    refine bodyPost_ret (v := .tuple #[.pointer (some ⟨w.heap.size, 0, none⟩), .int .i64 0]) (by simp [results, Try.results18, go_sem]) rfl ?_
    rw [hz.1, hz.2]
    exact ⟨_, _, rfl, PgOk.new (i : Int) w, (Below.refl _ _).alloc (Nat.le_refl _) _⟩
  · have e0 : dkB k i = pageB i (k.lsn i) (k.l i) := by simp [dkB, hon]
    have hlen := pageB_length i (k.lsn i) (k.l i) (h.good i).room
    rw [e0] at c0
    have hg := h.good i
    have hlo := h.low i
    obtain ⟨cap1, W1, hcv, hsl, hcap, hb1⟩ := bytes_made w (pageB i (k.lsn i) (k.l i))
    rw [hlen] at hcv hcap
    have HP := toHid (parse_own w.heap.size 0 cap1 i (k.lsn i) (k.l i) W1 hsl hg hcap hi hlo)
    clear h hon e0 hsl hg hlo
    generalize pageB i (k.lsn i) (k.l i) = L at c0 hlen hcv
    have hq : ((txt L).toList == ([] : List UInt8)) = false := by rw [txt_toList]; cases L; simp at hlen; rfl
    clear hlen
    go_enter Try.func18, Try.ntmps18
    go_wp2_with fail
    refine Calls.mono HP.out ?_
    rintro e w2 ⟨b, v, rfl, hpg, hb2⟩
    clear HP hcv
    have HG := toHid (show PgOk w2 w.heap.size b (i : Int) (k.lsn i) v (k.l i) from ⟨hpg.blk, hpg.own.mono hb1.size, hpg.ne, Nat.le_trans hb1.size hpg.base⟩)
    have hB := below_on hb1 hb2
    clear hpg hb1 hb2
    go_wp2
    exact bodyPost_ret (v := .tuple #[.pointer (some ⟨b, 0, none⟩), .int .i64 0]) (by simp [results, Try.results18, go_sem]) rfl ⟨_, _, rfl, HG.out, hB⟩
end Go.Proofs.Ytcloinonhpaojaa
