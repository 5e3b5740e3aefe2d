/-
  Slices of bytes that came in, and rows of bytes that may be written.
-/
import Derived.Test.YtjdfjeaeoadmdaaOp
import Derived.ProofKit
import Derived.OpenShut
import Derived.ShutString
import Derived.SizedLaws
import Derived.Deep.Strs
namespace Go.Proofs.Ytjdfjeaeoadmdaa
open Go.ChangeShapes Go.WideShapes Go.ChangeAt Go.RowKit

theorem Try.own : ownKnob Try.prog.godebug = none := by kernel_rfl
theorem Try.laidOut : laidOutB Try.prog = true := by kernel_rfl
theorem Try.cells5 : Try.prog.cellsOf 5 = 1 := by kernel_rfl
theorem Try.bytes5 : Try.prog.bytesOf 5 = 1 := by kernel_rfl

/-- Numbers as bytes. -/
def toB (zs : List Int) : List UInt8 := zs.map fun n => UInt8.ofNat n.toNat

theorem slB_ints {W : World} {x : Addr} {zs : List Int} {len : Nat} (hcell : ∀ i, i < zs.length → W.cell? (x.add i) = some (.int .u8 (zs.getD i 0))) (hwz : ∀ n ∈ zs, (Lit.int .u8 n).wf = true) : SlB W (some x) (toB (zs.take len)) := by
  refine ⟨fun h => by simp at h, fun y hy j u hu => ?_⟩
  simp at hy
  subst hy
  have hj : j < (zs.take len).length := by have := (List.getElem?_eq_some_iff.1 hu).1; simpa [bcells, toB] using this
  have hj2 : j < zs.length := by simp at hj; omega
  rw [hcell j hj2]
  have hw := hwz zs[j] (List.getElem_mem hj2)
  have hb : 0 ≤ zs[j] ∧ zs[j] ≤ 255 := by simpa [Lit.wf, IntKind.min, IntKind.max, IntKind.signed, IntKind.bits] using hw
  simp [bcells, toB, List.getElem?_take, hj2] at hu
  obtain ⟨h1, rfl⟩ := hu
  simp [List.getD, List.getElem?_eq_getElem hj2]
  omega

/-- A row of n bytes that may be written. -/
structure Row8 (w : World) (m n : Nat) : Prop where
  cell : ∀ j, j < n → ∃ z, w.cell? ⟨m, j, none⟩ = some (.int .u8 z)
  free : ∀ j, j < n → w.frozen? ⟨m, j, none⟩ = false

theorem Row8.set {w : World} {m n : Nat} (h : Row8 w m n) (k : Nat) (z : Int) : Row8 (w.setCell ⟨m, k, none⟩ (.int .u8 z)) m n :=
  ⟨fun j hj => by
    obtain ⟨y, hy⟩ := h.cell j hj
    by_cases e : k = j
    · subst e
      exact ⟨z, World.cell?_setCell_same _ _ _ hy⟩
    · exact ⟨y, by rw [World.cell?_setCell_other (h := by simp; try omega)]; exact hy⟩,
   fun j hj => by rw [World.frozen?_setCell]; exact h.free j hj⟩

theorem Row8.below {w w' : World} {m n D : Nat} (h : Row8 w m n) (hb : Below D w w') (hm : m < D) : Row8 w' m n :=
  ⟨fun j hj => by rw [hb.cell (p := ⟨m, j, none⟩) hm]; exact h.cell j hj, fun j hj => by rw [hb.frozen (p := ⟨m, j, none⟩) hm]; exact h.free j hj⟩

/-- What a conversion of a string to bytes lays. -/
theorem bytes_made (w : World) (l : List UInt8) : ∃ cap1 W1, (convert 9 22 (.string ⟨l.toArray⟩)).run Try.prog w = .ok (.slice (some ⟨w.heap.size, 0, none⟩) l.length cap1) W1 ∧
    SlB W1 (some ⟨w.heap.size, 0, none⟩) l ∧ Row8 W1 w.heap.size l.length ∧ W1.heap.size = w.heap.size + 1 ∧ Below w.heap.size w W1 := by
  have h := run_bytes_of_string (P := Try.prog) w 9 22 5 ⟨l.toArray⟩ Try.underlying9 Try.underlying22 Try.underlying5
  have hsz : (ByteArray.mk l.toArray).size = l.length := by simp [ByteArray.size]
  rw [hsz] at h
  generalize grownCap w l.length 0 5 = cap1 at *
  have hrow : ∀ j (hj : j < l.length), (bytesRow ⟨l.toArray⟩ cap1)[j]? = some (.int .u8 (l[j].toNat : Int)) := by
    intro j hj
    simp [bytesRow, Array.getElem?_append, hj]
  have hrs : l.length ≤ (bytesRow ⟨l.toArray⟩ cap1).size := by simp [bytesRow]
  generalize bytesRow ⟨l.toArray⟩ cap1 = C at *
  have hblk : (w.drew.alloc (.cells C 5 (C.size, C.size + 1))).heap[w.heap.size]? = some (.cells C 5 (C.size, C.size + 1)) := heap_alloc_new w.drew _
  refine ⟨cap1, _, h, ⟨fun h => by simp at h, fun x hx j u hu => ?_⟩, ⟨fun j hj => ?_, fun j hj => ?_⟩, by simp, (Below.refl _ _).drew.alloc (Nat.le_refl _) _⟩
  · simp at hx
    subst hx
    have hj : j < l.length := by have := (List.getElem?_eq_some_iff.1 hu).1; simpa [bcells] using this
    have e : (⟨w.heap.size, 0, none⟩ : Addr).add j = ⟨w.heap.size, j, none⟩ := by unfold Addr.add; split <;> simp_all
    rw [e]
    simp [bcells, List.getElem?_eq_getElem hj] at hu
    subst hu
    simp only [World.cell?, hblk]
    rw [hrow j hj]
    rfl
  · refine ⟨(l[j].toNat : Int), ?_⟩
    simp only [World.cell?, hblk]
    rw [hrow j hj]
    rfl
  · simp only [World.frozen?, hblk]
    simp
    omega

theorem own_some {w : World} {B : Nat} {v : Value} {n : Nat} {xs : List Value} (h : w.ownsRow B 5 1 v n xs) (hn : 0 < n) : ∃ g cap, v = .slice (some ⟨g, 0, none⟩) n cap ∧ B ≤ g ∧ g < w.heap.size ∧ n ≤ cap ∧ cap ≤ maxLen := by
  rcases h.2 with ⟨rfl, rfl⟩ | ⟨g, cap, cur, rfl, hB, hh, hc, hm, _⟩
  · omega
  · exact ⟨g, cap, rfl, hB, lt_of_block hh, hc, hm⟩

theorem row8_of_own {w : World} {B g cap : Nat} {l : List UInt8} {n : Nat} (h : w.ownsRow B 5 1 (.slice (some ⟨g, 0, none⟩) n cap) n (bcells l)) (hn : n = l.length) : Row8 w g n := by
  subst hn
  have h1 := h.cells (g := g) rfl
  refine ⟨fun j hj => ⟨(l[j].toNat : Int), ?_⟩, fun j hj => ?_⟩
  · have := h1 j (.int .u8 (l[j].toNat : Int)) (by simp [bcells, List.getElem?_eq_getElem hj])
    have e : (⟨g, 0, none⟩ : Addr).add j = ⟨g, j, none⟩ := by unfold Addr.add; split <;> simp_all
    rwa [e] at this
  · rcases h.2 with ⟨h, _⟩ | ⟨g', cap', cur, h, hB, hh, _⟩
    · simp at h
    · simp at h
      obtain ⟨rfl, _⟩ := h
      simp [World.frozen?, hh]


theorem SlB.empty {w : World} : SlB w none [] := ⟨fun _ => rfl, fun x hx => by simp at hx⟩

theorem openB_seal (l : List UInt8) : openB (sealB l) = (l, 0) := by
  have hS := more_lt 0 l
  have e1 : (sealB l).length - 4 = l.length := by rw [sealB_length]; omega
  have e2 : (sealB l).take l.length = l := by unfold sealB; exact List.take_left' rfl
  have e3 : (sealB l).drop l.length = leB (more 0 l) 4 := by unfold sealB; exact List.drop_left' rfl
  unfold openB
  rw [if_neg (by rw [sealB_length]; omega), e1, e2, e3, if_pos]
  rw [leN_leB]
  omega
end Go.Proofs.Ytjdfjeaeoadmdaa
