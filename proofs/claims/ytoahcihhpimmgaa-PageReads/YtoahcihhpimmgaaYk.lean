/-
  PageReads: both Parses where an argument is bad, the program's of noughts, and bytes out of a string.
-/
import Derived.Test.YtoahcihhpimmgaaYj
import Derived.Test.YtoahcihhpimmgaaYf
import Derived.Lib.ConvBytes
import Derived.Laws.IdiomStrings
namespace Go.Proofs.Ytoahcihhpimmgaa
open Go.RowKit

set_option maxHeartbeats 1000000 in
theorem parse_arg (id : Int) (a : Option Addr) (n C : Nat) (w : World) (h : ¬ (0 ≤ id ∧ id < 16) ∨ n ≠ 512) :
    Calls Try.prog 18 #[.int .i64 id, .slice a n C] w fun e w' => e = .returned (.tuple #[.pointer none, .int .i64 1]) ∧ w' = w := by
  have hk := known_any id w
  by_cases hid : 0 ≤ id ∧ id < 16
  · rw [show (decide (0 ≤ id) && decide (id < 16)) = true by simp; omega] at hk
    have hn : n ≠ 512 := by rcases h with h | h; exact absurd hid h; exact h
    have hne : ((n : Int) != 512) = true := by simp; omega
    clear hn h
    go_enter Try.func18, Try.ntmps18
    go_wp2_with fail
    refine Calls.mono hk ?_
    rintro e w1 ⟨rfl, hw⟩
    obtain rfl := hw.symm
    go_wp2
    exact bodyPost_ret (v := .tuple #[.pointer none, .int .i64 1]) (by simp [results, Try.results18, go_sem]) rfl ⟨rfl, rfl⟩
  · rw [show (decide (0 ≤ id) && decide (id < 16)) = false by simp; omega] at hk
    clear h
    go_enter Try.func18, Try.ntmps18
    go_wp2_with fail
    refine Calls.mono hk ?_
    rintro e w1 ⟨rfl, hw⟩
    obtain rfl := hw.symm
    go_wp2
    exact bodyPost_ret (v := .tuple #[.pointer none, .int .i64 1]) (by simp [results, Try.results18, go_sem]) rfl ⟨rfl, rfl⟩

set_option maxHeartbeats 1000000 in
theorem ref_arg (id : Int) (b : List UInt8) (w : World) (h : ¬ (0 ≤ id ∧ id < 16) ∨ b.length ≠ 512) :
    Calls Try.prog 19 #[.int .i64 id, .string (txt b)] w fun e w' => e = .returned (.tuple #[.agg (refP 0 0 none 0 0), .int .i64 1]) ∧ Below w.heap.size w w' := by
  have hk := fun W => refid_any id W
  have hsz := txt_size b
  have HB1 : Hid (Below w.heap.size w (w.alloc (.cells #[.int .i64 0, .int .u64 0, .slice none 0 0] 33))) := (Below.refl _ _).alloc (Nat.le_refl _) _
  by_cases hid : 0 ≤ id ∧ id < 16
  · rw [show (decide (0 ≤ id) && decide (id < 16)) = true by simp; omega] at hk
    have hn : b.length ≠ 512 := by rcases h with h | h; exact absurd hid h; exact h
    have hne : (((txt b).size : Int) != 512) = true := by rw [hsz]; simp; omega
    have hne' : ((b.length : Int) != 512) = true := by simp; omega
    have HK : Hid (∀ W, Calls Try.prog 10 #[.int .i64 id] W fun e w' => e = .returned (.bool true) ∧ w' = W) := hk
    clear hn h hk
    go_enter Try.func19, Try.ntmps19
    go_wp2_with fail
    refine Calls.mono (HK.out _) ?_
    rintro e w1 ⟨rfl, hw⟩
    obtain rfl := hw.symm
    go_wp2
    refine bodyPost_ret (v := .tuple #[.agg (refP 0 0 none 0 0), .int .i64 1]) ?_ rfl ⟨rfl, HB1.out⟩
    simp [results, Try.results19, go_sem, refP]
  · rw [show (decide (0 ≤ id) && decide (id < 16)) = false by simp; omega] at hk
    have HK : Hid (∀ W, Calls Try.prog 10 #[.int .i64 id] W fun e w' => e = .returned (.bool false) ∧ w' = W) := hk
    clear h hk
    go_enter Try.func19, Try.ntmps19
    go_wp2_with fail
    refine Calls.mono (HK.out _) ?_
    rintro e w1 ⟨rfl, hw⟩
    obtain rfl := hw.symm
    go_wp2
    refine bodyPost_ret (v := .tuple #[.agg (refP 0 0 none 0 0), .int .i64 1]) ?_ rfl ⟨rfl, HB1.out⟩
    simp [results, Try.results19, go_sem, refP]

set_option maxHeartbeats 1000000 in
theorem parse_zero (g o C id : Nat) (b : List UInt8) (w : World) (h : SlB w (some ⟨g, o, none⟩) b) (hlen : b.length = 512) (hid : id < 16) (hz : b.all (· == 0) = true) :
    Calls Try.prog 18 #[.int .i64 (id : Int), .slice (some ⟨g, o, none⟩) 512 C] w fun e w' => e = .returned (.tuple #[.pointer (some ⟨w.heap.size, 0, none⟩), .int .i64 0]) ∧ w' = w.alloc (.cells #[.int .i64 (id : Int), .int .u64 0, .slice none 0 0] 68) := by
  have hk := known_any (id : Int) w
  rw [show (decide (0 ≤ (id : Int)) && decide ((id : Int) < 16)) = true by simp; omega] at hk
  have HNo : Hid (Calls Try.prog 43 #[.slice (some ⟨g, o, none⟩) 512 C] w fun e w' => e = .returned (.bool true) ∧ w' = w) := by
    have := noughts_any (some ⟨g, o, none⟩) C b w h (by omega)
    rw [hz, hlen] at this
    exact this
  have HNe : Hid _ := new_yes (id : Int) w (by omega)
  have HK : Hid _ := hk
  clear hk h hlen hz
  go_enter Try.func18, Try.ntmps18
  go_wp2_with fail
  refine Calls.mono HK.out ?_
  rintro e w1 ⟨rfl, hw⟩
  obtain rfl := hw.symm
  go_wp2_with fail
  refine Calls.mono HNo.out ?_
  rintro e w1 ⟨rfl, hw⟩
  obtain rfl := hw.symm
  go_wp2_with fail
  refine Calls.mono HNe.out ?_
  rintro e w1 ⟨rfl, hw⟩
  subst hw
  go_wp2
  exact bodyPost_ret (v := .tuple #[.pointer (some ⟨w.heap.size, 0, none⟩), .int .i64 0]) (by simp [results, Try.results18, go_sem]) rfl ⟨rfl, rfl⟩

/-- What a conversion of a string to bytes lays. -/
theorem bytes_made (w : World) (l : List UInt8) : ∃ cap1 W1, (convert 9 45 (.string (txt l))).run Try.prog w = .ok (.slice (some ⟨w.heap.size, 0, none⟩) l.length cap1) W1 ∧
    SlB W1 (some ⟨w.heap.size, 0, none⟩) l ∧ l.length ≤ cap1 ∧ Below w.heap.size w W1 := by
  have h := run_bytes_of_string (P := Try.prog) w 9 45 5 (txt l) Try.underlying9 Try.underlying45 Try.underlying5
  have hge := grownCap_ge w l.length 0 5
  rw [txt_size] at h
  generalize grownCap w l.length 0 5 = cap1 at *
  have hrow : ∀ j (hj : j < l.length), (bytesRow (txt l) cap1)[j]? = some (.int .u8 (l[j].toNat : Int)) := by
    intro j hj
    simp [bytesRow, txt, Array.getElem?_append, hj]
  generalize bytesRow (txt l) cap1 = C at *
  have hblk : (w.drew.alloc (.cells C 5 (C.size, C.size + 1))).heap[w.heap.size]? = some (.cells C 5 (C.size, C.size + 1)) := heap_alloc_new w.drew _
  refine ⟨cap1, _, h, ⟨fun h => by simp at h, fun x hx j u hu => ?_⟩, hge, (Below.refl _ _).drew.alloc (Nat.le_refl _) _⟩
  simp at hx
  subst hx
  have hj : j < l.length := by have := (List.getElem?_eq_some_iff.1 hu).1; simpa [bcells] using this
  have e : (⟨w.heap.size, 0, none⟩ : Addr).add j = ⟨w.heap.size, j, none⟩ := by unfold Addr.add; split <;> simp_all
  rw [e]
  simp [bcells, List.getElem?_eq_getElem hj] at hu
  subst hu
  simp only [World.cell?, hblk]
  rw [hrow j hj]
  rfl

/-- A page's bytes say which page it is. -/
theorem page_inj {id lsn lsn' : Nat} {l l' : List Cl} (hg : GoodL l) (hg' : GoodL l') (h : lsn < 18446744073709551616) (h' : lsn' < 18446744073709551616) (e : pageB id lsn l = pageB id lsn' l') : lsn = lsn' ∧ l = l' := by
  have hl : l.length = l'.length := by rw [← count_page id lsn l hg, e, count_page id lsn' l' hg']
  refine ⟨by rw [← lsn_page id lsn l h, e, lsn_page id lsn' l' h'], List.ext_getElem hl (fun j h1 h2 => ?_)⟩
  have e1 := slot_page id lsn l hg j h1
  rw [e, slot_page id lsn' l' hg' j h2] at e1
  simp at e1
  exact e1.symm

end Go.Proofs.Ytoahcihhpimmgaa
