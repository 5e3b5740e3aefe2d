/-
  Package stable: whole, handled, copied, New; a device in memory.
-/
import Derived.Test.YtbigclhfgcaccaaRows
import Derived.Test.YtbigclhfgcaccaaBa
namespace Go.Proofs.Ytbigclhfgcaccaa
open Go.RowKit

theorem Try.info5 : (Try.prog.info? 5).map (fun i => (i.zero, i.size, i.bytes)) = some (some (.int .u8 0), 1, 1) := by kernel_rfl
theorem size5 : (Try.prog.info? 5).map (·.size) = some 1 := by
  obtain ⟨i0, hi, hz0, hz1, hz2⟩ := info_parts Try.info5
  rw [hi]; simp [hz1]

theorem tm (n : Int) : n.tmod 64 = 0 ↔ n % 64 = 0 := by
  rw [← Int.dvd_iff_tmod_eq_zero, Int.dvd_iff_emod_eq_zero]

theorem whole_any (n : Int) (w : World) : Calls Try.prog 24 #[.int .i64 n] w fun e w' => e = .returned (.bool (decide (n % 64 = 0))) ∧ w' = w := by
  have e : (n.tmod 64 == 0) = decide (n % 64 = 0) := by
    rw [Bool.eq_iff_iff]
    simp [tm]
  go_enter Try.func24, Try.ntmps24
  go_wp2
  go_ret
  rw [← e]
  exact ⟨rfl, rfl⟩

theorem handled_nil (h : Int) (w : World) : Calls Try.prog 28 #[.pointer none, .int .i64 h] w fun e w' => e = .returned (.bool false) ∧ w' = w := by
  go_enter Try.func28, Try.ntmps28
  go_wp2
  go_ret
  simp

theorem handled_any (p : Addr) (h : Int) (w : World) : Calls Try.prog 28 #[.pointer (some p), .int .i64 h] w fun e w' => e = .returned (.bool (decide (0 ≤ h ∧ h < 8))) ∧ w' = w := by
  by_cases h0 : 0 ≤ h
  · go_enter Try.func28, Try.ntmps28
    go_wp2
    go_ret
    simp [h0]
  · go_enter Try.func28, Try.ntmps28
    go_wp2
    go_ret
    simp
    omega

/-- make: noughts in a block of their own. -/
theorem make_run (n : Nat) (hn : n ≤ 1000000) (W : World) : (Instr.makeSlice 34 (.int .i64 (n : Int)) (.int .i64 (n : Int))).run Try.prog W = .ok (.slice (some ⟨W.heap.size, 0, none⟩) n n) (W.alloc (.cells (bcells (List.replicate n 0)).toArray 5)) := by
  obtain ⟨i0, hi, hz0, hz1, hz2⟩ := info_parts Try.info5
  have h := run_make (P := Try.prog) W 34 5 i0 (.int .u8 0) Try.underlying34 hi hz0 .i64 .i64 (n : Int) (n : Int) (by omega) (by omega) (by rw [hz2]; omega) (by omega)
  rw [h]
  have e : madeCells (Value.int .u8 0).cells (((n : Nat) : Int).toNat * i0.size) = (bcells (List.replicate n 0)).toArray := by
    rw [hz1]
    apply Array.ext'
    simp [madeCells, bcells]
    apply List.ext_getElem
    · simp
    · intro i h1 h2
      simp [Value.cells, Nat.mod_one]
  rw [e]
  simp

theorem Buf.new (w : World) (l : List UInt8) : Buf (w.alloc (.cells (bcells l).toArray 5)) w.heap.size l := heap_alloc_new _ _

set_option maxHeartbeats 1000000 in
theorem copied_any (a : Option Addr) (c : Nat) (l : List UInt8) (w : World) (h : SlB w a l) (hl : l.length ≤ 1000000) :
    Calls Try.prog 27 #[.slice a l.length c] w fun e w' => e = .returned (.slice (some ⟨w.heap.size, 0, none⟩) l.length l.length) ∧ Buf w' w.heap.size l ∧ w'.heap.size = w.heap.size + 1 ∧ Below w.heap.size w w' := by
  have hm := make_run l.length hl w
  obtain ⟨W, hW⟩ : ∃ W, W = w.alloc (.cells (bcells (List.replicate l.length 0)).toArray 5) := ⟨_, rfl⟩
  have hB : Buf W w.heap.size (List.replicate l.length 0) := by rw [hW]; exact Buf.new w _
  have hb : Below w.heap.size w W := by rw [hW]; exact (Below.refl _ w).alloc (Nat.le_refl _) _
  have hsz : W.heap.size = w.heap.size + 1 := by rw [hW]; simp
  rw [← hW] at hm
  obtain ⟨W2, h1, h2, h3, h4, h5⟩ := copy_run (P := Try.prog) Try.underlying34 size5 W w.heap.size 0 l.length l.length a c _ l hB (h.below hb) (Nat.le_refl _) (by simp)
  have e : over (List.replicate l.length 0) 0 l = l := by simp [over]
  rw [e] at h2
  clear hW
  go_enter Try.func27, Try.ntmps27
  go_wp2_with fail
  go_ret
  refine ⟨rfl, h2, by omega, hb.trans ?_⟩
  exact (h3 w.heap.size).below (Nat.le_refl _) (Nat.le_refl _) (by omega)

theorem new_no (size : Int) (w : World) (h : ¬ (0 ≤ size ∧ size ≤ 65536 ∧ size % 64 = 0)) : Calls Try.prog 9 #[.int .i64 size] w fun e w' => e = .returned (.tuple #[.pointer none, .int .i64 1]) ∧ w' = w := by
  by_cases h0 : size < 0
  · go_enter Try.func9, Try.ntmps9
    go_wp2_with fail
    exact bodyPost_ret (v := .tuple #[.pointer none, .int .i64 1]) (by simp [results, Try.results9, go_sem]) rfl ⟨rfl, rfl⟩
  · by_cases h1 : 65536 < size
    · go_enter Try.func9, Try.ntmps9
      go_wp2_with fail
      exact bodyPost_ret (v := .tuple #[.pointer none, .int .i64 1]) (by simp [results, Try.results9, go_sem]) rfl ⟨rfl, rfl⟩
    · have h2 : ¬ size % 64 = 0 := fun e => h ⟨by omega, by omega, e⟩
      go_enter Try.func9, Try.ntmps9
      go_wp2_with fail
      refine (whole_any _ _).mono ?_
      rintro e w' ⟨rfl, rfl⟩
      rw [decide_eq_false h2]
      go_wp2_with fail
      exact bodyPost_ret (v := .tuple #[.pointer none, .int .i64 1]) (by simp [results, Try.results9, go_sem]) rfl ⟨rfl, rfl⟩

/-- What a hand has under way, by the block where it lies. -/
def flV (o : Option Nat) : Value := .pointer (o.map fun q => ⟨q, 0, none⟩)
/-- A device's cells. -/
def devC (G n : Nat) (us : List (Option Nat)) : Array Value := (Value.slice (some ⟨G, 0, none⟩) n n :: us.map flV).toArray

set_option maxHeartbeats 1000000 in
theorem new_yes (n : Nat) (w : World) (h : n ≤ 65536) (h2 : n % 64 = 0) : Calls Try.prog 9 #[.int .i64 (n : Int)] w fun e w' => e = .returned (.tuple #[.pointer (some ⟨w.heap.size + 1, 0, none⟩), .int .i64 0]) ∧
    w' = (w.alloc (.cells (bcells (List.replicate n 0)).toArray 5)).alloc (.cells (devC w.heap.size n (List.replicate 8 none)) 63) := by
  have h3 : (n : Int) % 64 = 0 := by omega
  have hm := make_run n (by omega) w
  obtain ⟨W, hW⟩ : ∃ W, W = w.alloc (.cells (bcells (List.replicate n 0)).toArray 5) := ⟨_, rfl⟩
  have hsz : W.heap.size = w.heap.size + 1 := by rw [hW]; simp
  rw [← hW] at hm ⊢
  clear hW
  go_enter Try.func9, Try.ntmps9
  go_wp2_with fail
  refine (whole_any _ _).mono ?_
  rintro e w' ⟨rfl, rfl⟩
  rw [decide_eq_true h3]
  go_wp2_with fail
  exact bodyPost_ret (v := .tuple #[.pointer (some ⟨w'.heap.size + 1, 0, none⟩), .int .i64 0]) (by simp [results, Try.results9, go_sem]) rfl ⟨rfl, rfl⟩

/-- A device: its bytes, and what each hand has under way. -/
structure Dv where
  b : List UInt8
  u : List (Option (Nat × List UInt8))

structure GoodD (d : Dv) : Prop where
  small : d.b.length ≤ 65536
  whole : d.b.length % 64 = 0
  hands : d.u.length = 8
  fits : ∀ (h a : Nat) (m : List UInt8), d.u[h]? = some (some (a, m)) → a % 64 = 0 ∧ m.length % 64 = 0 ∧ 0 < m.length ∧ a + m.length ≤ d.b.length

/-- A write lies in block q, away from some blocks. -/
structure Wr (w : World) (av : List Nat) (q a : Nat) (m : List UInt8) : Prop where
  out : ∃ r, w.heap[q]? = some (.cells #[.int .i64 (a : Int), .slice (some ⟨r, 0, none⟩) m.length m.length] 68) ∧ Buf w r m ∧ q ∉ av ∧ r ∉ av

theorem Wr.keep {w w' : World} {av : List Nat} {q a : Nat} {m : List UInt8} (h : Wr w av q a m) (hk : ∀ k, k < w.heap.size → k ∉ av → w'.heap[k]? = w.heap[k]?) : Wr w' av q a m := by
  obtain ⟨r, h1, h2, h3, h4⟩ := h.out
  refine ⟨r, ?_, ?_, h3, h4⟩
  · rw [hk q (lt_of_blk h1) h3]; exact h1
  · unfold Buf at *
    rw [hk r (lt_of_blk h2) h4]; exact h2

/-- A device lies in block p, its bytes in block G; all its blocks lie away from some others. -/
structure Dev (w : World) (av : List Nat) (p G : Nat) (d : Dv) : Prop where
  good : GoodD d
  buf : Buf w G d.b
  ne : p ≠ G
  avp : p ∉ av
  avG : G ∉ av
  us : ∃ us : List (Option Nat), us.length = 8 ∧ w.heap[p]? = some (.cells (devC G d.b.length us) 63) ∧
    ∀ h, h < 8 → (us[h]? = some none ∧ d.u[h]? = some none) ∨ ∃ q a m, us[h]? = some (some q) ∧ d.u[h]? = some (some (a, m)) ∧ Wr w (p :: G :: av) q a m

theorem Dev.new (n : Nat) (w : World) (av : List Nat) (hav : ∀ k ∈ av, k < w.heap.size) (h : n ≤ 65536) (h2 : n % 64 = 0) :
    Dev ((w.alloc (.cells (bcells (List.replicate n 0)).toArray 5)).alloc (.cells (devC w.heap.size n (List.replicate 8 none)) 63)) av (w.heap.size + 1) w.heap.size ⟨List.replicate n 0, List.replicate 8 none⟩ where
  good := ⟨by simpa using h, by simpa using h2, by simp, fun h a m e => by rw [List.getElem?_replicate] at e; split at e <;> simp at e⟩
  buf := by
    have hb : Below (w.alloc (.cells (bcells (List.replicate n 0)).toArray 5)).heap.size (w.alloc (.cells (bcells (List.replicate n 0)).toArray 5)) _ := (Below.refl _ _).alloc (Nat.le_refl _) (.cells (devC w.heap.size n (List.replicate 8 none)) 63)
    exact (Buf.new w (List.replicate n 0)).below hb (Nat.le_refl _)
  ne := by omega
  avp := fun e => by have := hav _ e; omega
  avG := fun e => by have := hav _ e; omega
  us := ⟨List.replicate 8 none, by simp, by
    have := heap_alloc_new (w.alloc (.cells (bcells (List.replicate n 0)).toArray 5)) (.cells (devC w.heap.size n (List.replicate 8 none)) 63)
    simpa using this, fun h hh => .inl (by rw [List.getElem?_replicate, List.getElem?_replicate, if_pos hh, if_pos hh]; exact ⟨rfl, rfl⟩)⟩

/-- What another one does leaves a device. -/
theorem Dev.keep {w w' : World} {av : List Nat} {p G : Nat} {d : Dv} (h : Dev w av p G d) (hk : ∀ k, k < w.heap.size → k ∉ av → w'.heap[k]? = w.heap[k]?) : Dev w' av p G d := by
  obtain ⟨us, h1, h2, h3⟩ := h.us
  refine ⟨h.good, ?_, h.ne, h.avp, h.avG, us, h1, ?_, fun i hi => ?_⟩
  · have := h.buf
    unfold Buf at *
    rw [hk G (lt_of_blk this) h.avG]; exact this
  · rw [hk p (lt_of_blk h2) h.avp]; exact h2
  · rcases h3 i hi with e | ⟨q, a, m, e1, e2, e3⟩
    · exact .inl e
    · refine .inr ⟨q, a, m, e1, e2, e3.keep fun k k1 k2 => hk k k1 (fun e => k2 (by simp [e]))⟩
theorem Dev.below {w w' : World} {av : List Nat} {p G : Nat} {d : Dv} (h : Dev w av p G d) (hb : Below w.heap.size w w') : Dev w' av p G d := h.keep fun k hk _ => hb.block k hk
theorem Dev.touch {w w' : World} {av : List Nat} {p G p' G' : Nat} {d : Dv} (h : Dev w av p G d) (ht : Touch p' G' w w') (h1 : p' ∈ av) (h2 : G' ∈ av) : Dev w' av p G d :=
  h.keep fun k hk hne => ht.block k hk (fun e => hne (e ▸ h1)) (fun e => hne (e ▸ h2))
theorem Dev.lt {w : World} {av : List Nat} {p G : Nat} {d : Dv} (h : Dev w av p G d) : p < w.heap.size ∧ G < w.heap.size := by
  obtain ⟨us, h1, h2, h3⟩ := h.us
  exact ⟨lt_of_blk h2, lt_of_blk h.buf⟩

theorem dev_cells {w : World} {p G n : Nat} {us : List (Option Nat)} (h : w.heap[p]? = some (.cells (devC G n us) 63)) :
    w.cell? ⟨p, 0, none⟩ = some (.slice (some ⟨G, 0, none⟩) n n) ∧ (∀ (i : Nat) o, us[i]? = some o → w.cell? ⟨p, 1 + i, none⟩ = some (flV o)) ∧ ∀ i, w.frozen? ⟨p, i, none⟩ = false := by
  refine ⟨by simp [World.cell?, h, devC], fun i o hi => ?_, fun i => by simp [World.frozen?, h]⟩
  simp [World.cell?, h, devC, Nat.add_comm 1 i, hi]

theorem dev_set {w : World} {p G n : Nat} {us : List (Option Nat)} (h : w.heap[p]? = some (.cells (devC G n us) 63)) (i : Nat) (o : Option Nat) :
    (w.setCell ⟨p, 1 + i, none⟩ (flV o)).heap[p]? = some (.cells (devC G n (us.set i o)) 63) := by
  rw [heap_setCell_same _ _ _ _ _ _ h]
  simp [devC, Nat.add_comm 1 i]

end Go.Proofs.Ytbigclhfgcaccaa
