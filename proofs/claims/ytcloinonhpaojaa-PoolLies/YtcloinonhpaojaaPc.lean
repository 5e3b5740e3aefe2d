/-
  The small functions of package page: which keys may be, a slot's size, the first slot of which something holds, a text copied.
-/
import Derived.Test.YtcloinonhpaojaaRows
import Derived.Test.YtcloinonhpaojaaBase
import Derived.Test.YtcloinonhpaojaaQt
import Derived.Lib.Strings
import Derived.Lib.Walk
import Derived.Lib.BufferWrite
import Derived.Lib.UnsafeStr
import Derived.Lib.Hide
import Derived.Laws.MakeOwn
namespace Go.Proofs.Ytcloinonhpaojaa
open Go.RowKit

/-- A text of some bytes. -/
def txt (l : List UInt8) : ByteArray := ⟨l.toArray⟩
theorem txt_size (l : List UInt8) : (txt l).size = l.length := by simp [txt, ByteArray.size]
theorem txt_toList (l : List UInt8) : (txt l).toList = l := by simp [txt]
theorem txt_inj (l m : List UInt8) : txt l = txt m ↔ l = m := by
  constructor
  · intro h
    have := congrArg (fun b => b.data.toList) h
    simpa [txt] using this
  · rintro rfl; rfl

/-- A slot's cells. -/
def cellV (c : Cl) : Array Value := #[.bool c.used, .string (txt c.key), .string (txt c.val)]

theorem known_any (id : Int) (w : World) : Calls Try.prog 71 #[.int .i64 id] w fun e w' => e = .returned (.bool (decide (0 ≤ id) && decide (id < 16))) ∧ w' = w := by
  by_cases h : 0 ≤ id
  · go_enter Try.func71, Try.ntmps71
    go_wp2
    go_ret
    simp [h]
  · go_enter Try.func71, Try.ntmps71
    go_wp2
    go_ret
    simp
    omega

theorem slotAt_any (i : Nat) (w : World) (h : i ≤ 1000000) : Calls Try.prog 45 #[.int .i64 (i : Int)] w fun e w' => e = .returned (.int .i64 ((16 + 4 * i : Nat) : Int)) ∧ w' = w := by
  go_enter Try.func45, Try.ntmps45
  go_wp2
  go_ret
  simp

theorem cellSize_any (c : Cl) (w : World) (h : c.key.length + c.val.length ≤ 1000000) : Calls Try.prog 43 #[.agg (cellV c)] w fun e w' => e = .returned (.int .i64 (sizeC c : Nat)) ∧ Below w.heap.size w w' := by
  obtain ⟨u, k, v⟩ := c
  have hB := (Below.refl w.heap.size w).alloc (Nat.le_refl _) (.cells (cellV ⟨u, k, v⟩) 98)
  simp only [cellV] at hB
  simp only at h
  cases u
  · simp only [cellV]
    go_enter Try.func43, Try.ntmps43
    go_wp2
    go_ret
    exact ⟨rfl, hB⟩
  · have e1 := txt_size k
    have e2 := txt_size v
    simp only [cellV]
    go_enter Try.func43, Try.ntmps43
    go_wp2
    go_ret
    refine ⟨?_, hB⟩
    simp [sizeC]

theorem may_any (k v : List UInt8) (w : World) (hk : k.length ≤ maxLen) (hv : v.length ≤ maxLen) : Calls Try.prog 31 #[.string (txt k), .string (txt v)] w fun e w' => e = .returned (.bool (mayK k v)) ∧ w' = w := by
  unfold maxLen at hk hv
  have e1 := txt_size k
  have e2 := txt_size v
  unfold mayK
  by_cases h1 : 1 ≤ k.length
  · by_cases h2 : k.length ≤ 16
    · go_enter Try.func31, Try.ntmps31
      go_wp2
      go_ret
      simp [h1, h2]
      omega
    · go_enter Try.func31, Try.ntmps31
      go_wp2
      go_ret
      simp
  · go_enter Try.func31, Try.ntmps31
    go_wp2
    go_ret
    simp

/-- A slice of slots. -/
structure SlC (w : World) (a : Option Addr) (l : List Cl) : Prop where
  nonil : a = none → l = []
  cells : ∀ x, a = some x → ∀ i t, l[i]? = some t → x.spot = none ∧ w.cell? ⟨x.block, x.off + i * 3, none⟩ = some (.bool t.used) ∧ w.cell? ⟨x.block, x.off + i * 3 + 1, none⟩ = some (.string (txt t.key)) ∧ w.cell? ⟨x.block, x.off + i * 3 + 2, none⟩ = some (.string (txt t.val))

theorem SlC.below {w w' : World} {a : Option Addr} {l : List Cl} (h : SlC w a l) (hb : Below w.heap.size w w') : SlC w' a l :=
  ⟨h.nonil, fun x hx i t ht => by
    obtain ⟨h0, h1, h2, h3⟩ := h.cells x hx i t ht
    have hlt := World.block_lt_of_cell? _ _ h1
    exact ⟨h0, by rw [hb.cell (by exact hlt)]; exact h1, by rw [hb.cell (by exact hlt)]; exact h2, by rw [hb.cell (by exact hlt)]; exact h3⟩⟩

theorem SlC.at {w : World} {a : Option Addr} {l : List Cl} (h : SlC w a l) (i : Nat) (hi : i < l.length) : ∃ b o, a = some ⟨b, o, none⟩ ∧ b < w.heap.size ∧
    w.cell? ⟨b, o + i * 3, none⟩ = some (.bool l[i].used) ∧ w.cell? ⟨b, o + i * 3 + 1, none⟩ = some (.string (txt l[i].key)) ∧ w.cell? ⟨b, o + i * 3 + 2, none⟩ = some (.string (txt l[i].val)) := by
  cases a with
  | none => have := h.nonil rfl; subst this; simp at hi
  | some x =>
    obtain ⟨b, o, sp⟩ := x
    obtain ⟨h0, h1, h2, h3⟩ := h.cells _ rfl i _ (List.getElem?_eq_getElem hi)
    simp only at h0 h1 h2 h3
    subst h0
    exact ⟨b, o, rfl, World.block_lt_of_cell? _ _ h1, h1, h2, h3⟩

theorem SlC.here {w : World} {b o : Nat} {l : List Cl} (h : SlC w (some ⟨b, o, none⟩) l) (i : Nat) (hi : i < l.length) : b < w.heap.size ∧
    w.cell? ⟨b, o + i * 3, none⟩ = some (.bool l[i].used) ∧ w.cell? ⟨b, o + i * 3 + 1, none⟩ = some (.string (txt l[i].key)) ∧ w.cell? ⟨b, o + i * 3 + 2, none⟩ = some (.string (txt l[i].val)) := by
  obtain ⟨b', o', e, h1⟩ := h.at i hi
  simp at e
  obtain ⟨rfl, rfl⟩ := e
  exact h1

theorem pred75 (c : Cl) (W : World) : Calls Try.prog 67 #[.agg (cellV c)] W fun e w' => e = .returned (.bool (isFree c)) ∧ Below W.heap.size W w' := by
  have hB := (Below.refl W.heap.size W).alloc (Nat.le_refl _) (.cells (cellV c) 98)
  simp only [cellV] at hB ⊢
  go_enter Try.func67, Try.ntmps67
  go_wp2
  go_ret
  exact ⟨by simp [isFree], hB⟩

theorem pred73 (k : List UInt8) (g : Nat) (c : Cl) (W : World) (hg : g < W.heap.size) (hc : W.cell? ⟨g, 0, none⟩ = some (.string (txt k))) :
    Calls Try.prog 65 #[.agg (cellV c), .pointer (some ⟨g, 0, none⟩)] W fun e w' => e = .returned (.bool (isKey k c)) ∧ Below W.heap.size W w' := by
  have hB := (Below.refl W.heap.size W).alloc (Nat.le_refl _) (.cells (cellV c) 98)
  have hne : g ≠ W.heap.size := by omega
  obtain ⟨u, key, val⟩ := c
  simp only [cellV] at hB ⊢
  cases u
  · go_enter Try.func65, Try.ntmps65
    go_wp2
    go_ret
    exact ⟨by simp [isKey], hB⟩
  · go_enter Try.func65, Try.ntmps65
    go_wp2
    go_ret
    refine ⟨?_, hB⟩
    simp [isKey, txt_toList]

end Go.Proofs.Ytcloinonhpaojaa

/-
  The first slot of which something holds; a text copied.
-/
namespace Go.Proofs.Ytcloinonhpaojaa
open Go.RowKit

theorem below_on {w W W' : World} (h : Below w.heap.size w W) (h' : Below W.heap.size W W') : Below w.heap.size w W' := h.trans (h'.mono h.size)

set_option maxHeartbeats 1000000 in
theorem idx_free (a : Option Addr) (c : Nat) (l : List Cl) (w : World) (h : SlC w a l) (hl : l.length ≤ 1000000) :
    Calls Try.prog 64 #[.slice a l.length c, .func (.func 67) #[] #[]] w fun e w' => e = .returned (.int .i64 (ixI (l.findIdx? isFree))) ∧ Below w.heap.size w w' := by
  go_enter Try.func64, Try.ntmps64
  go_wp2_with fail
  go_loopw [8] (fun i wr => ∃ k : Nat, k ≤ l.length ∧ i = .int .i64 k ∧ (∀ j (hj : j < l.length), j < k → isFree l[j] = false) ∧ Below w.heap.size w wr) (fun i _ => l.length - (intOf i).toNat)
  case atStart => exact ⟨0, Nat.zero_le _, rfl, fun j _ hj => absurd hj (by omega), Below.refl _ _⟩
  case round =>
    obtain ⟨k, hk, rfl, hup, hB⟩ := hrel
    have HU := (show Hid _ from hup)
    clear hup
    have hsl := h.below hB
    by_cases hlt : k < l.length
    · obtain ⟨b, o, rfl, hbl, c0, c1, c2⟩ := hsl.at k hlt
      go_wp2_with fail
      refine (pred75 l[k] _).mono ?_
      rintro e w' ⟨rfl, hb'⟩
      have hB' := below_on hB hb'
      cases hp : isFree l[k]
      · go_wp2_with fail
        go_roundw
        case rel =>
          refine ⟨k + 1, by omega, by simp, fun j hj hjk => ?_, hB'⟩
          by_cases e : j = k
          · subst e; exact hp
          · exact HU.out j hj (by omega)
        case measure => first | omega | (simp only [intOf]; omega)
      · go_wp2
        go_ret
        refine ⟨?_, hB'⟩
        have : l.findIdx? isFree = some k := by
          rw [List.findIdx?_eq_some_iff_getElem]
          exact ⟨hlt, hp, fun j hj => by rw [HU.out j (by omega) hj]; simp⟩
        rw [this]
        rfl
    · have : k = l.length := by omega
      subst this
      go_wp2
      go_ret
      refine ⟨?_, hB⟩
      have : l.findIdx? isFree = none := by
        rw [List.findIdx?_eq_none_iff]
        intro x hx
        obtain ⟨j, hj, rfl⟩ := List.getElem_of_mem hx
        exact HU.out j hj hj
      rw [this]
      rfl


set_option maxHeartbeats 1000000 in
theorem idx_key (q : List UInt8) (g : Nat) (a : Option Addr) (c : Nat) (l : List Cl) (w : World) (h : SlC w a l) (hl : l.length ≤ 1000000) (hg : g < w.heap.size) (hc : w.cell? ⟨g, 0, none⟩ = some (.string (txt q))) :
    Calls Try.prog 64 #[.slice a l.length c, .func (.func 65) #[] #[.pointer (some ⟨g, 0, none⟩)]] w fun e w' => e = .returned (.int .i64 (ixI (l.findIdx? (isKey q)))) ∧ Below w.heap.size w w' := by
  go_enter Try.func64, Try.ntmps64
  go_wp2_with fail
  go_loopw [8] (fun i wr => ∃ k : Nat, k ≤ l.length ∧ i = .int .i64 k ∧ (∀ j (hj : j < l.length), j < k → (isKey q) l[j] = false) ∧ Below w.heap.size w wr) (fun i _ => l.length - (intOf i).toNat)
  case atStart => exact ⟨0, Nat.zero_le _, rfl, fun j _ hj => absurd hj (by omega), Below.refl _ _⟩
  case round =>
    obtain ⟨k, hk, rfl, hup, hB⟩ := hrel
    have HU := (show Hid _ from hup)
    clear hup
    have hsl := h.below hB
    by_cases hlt : k < l.length
    · obtain ⟨b, o, rfl, hbl, c0, c1, c2⟩ := hsl.at k hlt
      go_wp2_with fail
      refine (pred73 q g l[k] _ (Nat.lt_of_lt_of_le hg hB.size) ((hB.cell (p := ⟨g, 0, none⟩) hg).trans hc)).mono ?_
      rintro e w' ⟨rfl, hb'⟩
      have hB' := below_on hB hb'
      cases hp : (isKey q) l[k]
      · go_wp2_with fail
        go_roundw
        case rel =>
          refine ⟨k + 1, by omega, by simp, fun j hj hjk => ?_, hB'⟩
          by_cases e : j = k
          · subst e; exact hp
          · exact HU.out j hj (by omega)
        case measure => first | omega | (simp only [intOf]; omega)
      · go_wp2
        go_ret
        refine ⟨?_, hB'⟩
        have : l.findIdx? (isKey q) = some k := by
          rw [List.findIdx?_eq_some_iff_getElem]
          exact ⟨hlt, hp, fun j hj => by rw [HU.out j (by omega) hj]; simp⟩
        rw [this]
        rfl
    · have : k = l.length := by omega
      subst this
      go_wp2
      go_ret
      refine ⟨?_, hB⟩
      have : l.findIdx? (isKey q) = none := by
        rw [List.findIdx?_eq_none_iff]
        intro x hx
        obtain ⟨j, hj, rfl⟩ := List.getElem_of_mem hx
        exact HU.out j hj hj
      rw [this]
      rfl


end Go.Proofs.Ytcloinonhpaojaa

/-
  find, firstFree, trimmed; a text copied.
-/
namespace Go.Proofs.Ytcloinonhpaojaa
open Go.RowKit

theorem find_any (q : List UInt8) (a : Option Addr) (c : Nat) (l : List Cl) (w : World) (h : SlC w a l) (hl : l.length ≤ 1000000) :
    Calls Try.prog 32 #[.slice a l.length c, .string (txt q)] w fun e w' => e = .returned (.int .i64 (ixI (l.findIdx? (isKey q)))) ∧ Below w.heap.size w w' := by
  have hB := (Below.refl w.heap.size w).alloc (Nat.le_refl _) (.cells #[.string (txt q)] 9)
  have hX := (show Hid _ from idx_key q w.heap.size a c l _ (h.below hB) hl (by simp) (by simp))
  clear h
  go_enter Try.func32, Try.ntmps32
  go_wp2_with fail
  refine Calls.mono hX.out ?_
  rintro e w' ⟨rfl, hb⟩
  have hf := below_on hB hb
  clear hB hb
  go_wp2
  go_ret
  exact ⟨rfl, hf⟩

theorem firstFree_any (a : Option Addr) (c : Nat) (l : List Cl) (w : World) (h : SlC w a l) (hl : l.length ≤ 1000000) :
    Calls Try.prog 34 #[.slice a l.length c] w fun e w' => e = .returned (.int .i64 (ixI (l.findIdx? isFree))) ∧ Below w.heap.size w w' := by
  have hX := (show Hid _ from idx_free a c l _ h hl)
  clear h
  go_enter Try.func34, Try.ntmps34
  go_wp2_with fail
  refine Calls.mono hX.out ?_
  rintro e w' ⟨rfl, hb⟩
  go_wp2
  go_ret
  exact ⟨rfl, hb⟩

theorem trimL_take (l : List Cl) (k : Nat) (hk : k < l.length) (hu : l[k].used = false) : trimL (l.take (k + 1)) = trimL (l.take k) := by
  rw [List.take_add_one, List.getElem?_eq_getElem hk]
  exact trimL_snoc_free _ _ hu

set_option maxHeartbeats 1000000 in
theorem trimmed_any (a : Option Addr) (c : Nat) (l : List Cl) (w : World) (h : SlC w a l) (hl : l.length ≤ 1000000) (hc : l.length ≤ c) :
    Calls Try.prog 87 #[.slice a l.length c] w fun e w' => e = .returned (.slice a (trimL l).length c) ∧ w' = w := by
  go_enter Try.func87, Try.ntmps87
  go_wp2_with fail
  go_loop [3] (fun i => ∃ k : Nat, k ≤ l.length ∧ i = .int .i64 k ∧ trimL (l.take k) = trimL l) (fun i => (intOf i).toNat)
  case atStart => exact ⟨l.length, Nat.le_refl _, rfl, by rw [List.take_length]⟩
  case round =>
    obtain ⟨k, hk, rfl, ht⟩ := hrel
    have HT := (show Hid _ from ht)
    clear ht
    cases k with
    | zero =>
      have e0 : (trimL l).length = 0 := by rw [← HT.out]; rfl
      go_wp2
      go_ret
      exact ⟨rfl, rfl⟩
    | succ k =>
      obtain ⟨b, o, rfl, hbl, c0, c1, c2⟩ := h.at k (by omega)
      have ek : ((k + 1 : Nat) : Int) - 1 = (k : Int) := by omega
      cases hu : l[k].used
      · rw [hu] at c0
        go_wp2_with fail
        go_round
        case rel => exact ⟨k, by omega, by simp, by rw [← trimL_take l k (by omega) hu]; exact HT.out⟩
        case measure => first | omega | (simp only [intOf]; omega)
      · rw [hu] at c0
        have e0 : (trimL l).length = k + 1 := by
          rw [← HT.out, List.take_add_one, List.getElem?_eq_getElem (by omega)]
          simp only [Option.toList_some]
          rw [trimL_snoc_used _ _ hu]
          simp
          omega
        go_wp2
        go_ret
        exact ⟨rfl, rfl⟩

theorem Try.info5 : (Try.prog.info? 5).map (fun i => (i.zero, i.size, i.bytes)) = some (some (.int .u8 0), 1, 1) := by kernel_rfl

set_option maxRecDepth 100000 in
set_option maxHeartbeats 4000000 in
theorem slite_any (l : List UInt8) (w : World) (hl : l.length ≤ 1000000) :
    Calls Try.prog 85 #[.string (txt l)] w fun e w' => e = .returned (.string (txt l)) ∧ Below w.heap.size w w' := by
  have es := txt_size l
  by_cases h0 : l = []
  · subst h0
    go_enter Try.func85, Try.ntmps85
    go_wp2
    go_ret
    exact ⟨rfl, Below.refl _ _⟩
  · obtain ⟨i0, hi, hz0, hz1, hz2⟩ := info_parts Try.info5
    have hinfo : (Try.prog.info? 5).map (·.size) = some 1 := by rw [hi]; simp [hz1]
    have hco : Try.prog.cellsOf 5 = 1 := by simp [Program.cellsOf, hi, hz1]
    obtain ⟨M, hM⟩ : ∃ M, M = madeCells (Value.int .u8 0).cells (((l.length : Nat) : Int).toNat * i0.size) := ⟨_, rfl⟩
    have hMs : M.size = l.length := by rw [hM, size_madeCells, hz1]; simp
    have hmk : ∀ W : World, (Instr.makeSlice 69 (.int .i64 (l.length : Int)) (.int .i64 (l.length : Int))).run Try.prog W = .ok (.slice (some ⟨W.heap.size, 0, none⟩) l.length l.length) (W.alloc (.cells M 5)) := fun W => by
      have h := run_make (P := Try.prog) W 69 5 i0 (.int .u8 0) Try.underlying69 hi hz0 .i64 .i64 (l.length : Int) (l.length : Int) (by omega) (by omega) (by rw [hz2]; omega) (by omega)
      rw [← hM] at h
      simpa using h
    clear hM
    have hcp := Lib.run_copy_row_string (P := Try.prog) (w.alloc (.cells M 5)) 69 9 3 5 w.heap.size 0 l.length l.length (txt l) M 5 Try.underlying69 hinfo (heap_alloc_new w _) (by rw [txt_size]; exact Nat.le_refl _) (by omega)
    obtain ⟨Y, hY⟩ : ∃ Y, Y = (M.toList.take 0 ++ Lib.byteCells (txt l).data.toList ++ M.toList.drop (0 + (txt l).size)).toArray := ⟨_, rfl⟩
    rw [← hY] at hcp
    have hYl : Y.toList = Lib.byteCells l := by
      rw [hY, List.toList_toArray, List.take_zero, List.nil_append, List.drop_of_length_le (by rw [Array.length_toList, es]; omega), List.append_nil]
      rfl
    have hYs : Y.size = l.length := by rw [← Array.length_toList, hYl, Lib.byteCells_length]
    have hgY : ((w.alloc (.cells M 5)).setRow w.heap.size Y).heap[w.heap.size]? = some (.cells Y 5 (0, 0)) := setRow_heap _ _ M _ 5 (0, 0) (heap_alloc_new w _)
    have hUS := Lib.run_unsafeString_row (P := Try.prog) ((w.alloc (.cells M 5)).setRow w.heap.size Y) 163 3 9 5 Try.underlying163 hco w.heap.size Y.size (by unfold World.shape?; rw [hgY]) l h0 (by omega) (by omega)
      (fun j x hx => Lib.cells_of_row hgY Y.size j _ (by rw [List.take_of_length_le (by rw [Array.length_toList]; exact Nat.le_refl _), hYl]; simp [Lib.byteCells, hx]))
    have hb1 : Below w.heap.size w (w.alloc (.cells M 5)) := (Below.refl _ w).alloc (Nat.le_refl _) _
    have hb2 : Below w.heap.size (w.alloc (.cells M 5)) ((w.alloc (.cells M 5)).setRow w.heap.size Y) := ⟨rfl, rfl, rfl, by simp, fun k hk => setRow_other _ _ _ _ (by omega)⟩
    have hfin := Lib.below_freeze (hb1.trans hb2) (p := ⟨w.heap.size, 0, none⟩) (Nat.le_refl _) l.length
    rw [es] at hcp
    have h0' : ¬ (l.length : Int) = 0 := by have := List.length_pos_iff.mpr h0; omega
    have hpos := List.length_pos_iff.mpr h0
    clear hY hb1 hb2 h0
    go_enter Try.func85, Try.ntmps85
    go_wp2
    go_ret
    exact ⟨rfl, hfin⟩

theorem sclone_any (l : List UInt8) (w : World) (hl : l.length ≤ 1000000) :
    Calls Try.prog 66 #[.string (txt l)] w fun e w' => e = .returned (.string (txt l)) ∧ Below w.heap.size w w' := by
  go_enter Try.func66, Try.ntmps66
  go_wp2_with fail
  refine Calls.mono (slite_any l w hl) ?_
  rintro e w' ⟨rfl, hb⟩
  go_wp2
  go_ret
  exact ⟨rfl, hb⟩

theorem box_in {w W : World} {o : Obj} (h : Below (w.alloc o).heap.size (w.alloc o) W) : W.heap[w.heap.size]? = some o := by
  rw [h.block _ (by simp)]
  exact heap_alloc_new w o
theorem box_in' {W W' : World} {g : Nat} {o : Obj} (h : W.heap[g]? = some o) (hb : Below W.heap.size W W') : W'.heap[g]? = some o := by
  rw [hb.block _ (by have := Array.getElem?_eq_some_iff.mp h; exact this.1)]
  exact h
theorem cell3 {w : World} {g : Nat} {a b c : Value} {t : TypeId} (h : w.heap[g]? = some (.cells #[a, b, c] t)) :
    w.cell? ⟨g, 0, none⟩ = some a ∧ w.cell? ⟨g, 1, none⟩ = some b ∧ w.cell? ⟨g, 2, none⟩ = some c ∧ w.frozen? ⟨g, 0, none⟩ = false ∧ w.frozen? ⟨g, 1, none⟩ = false ∧ w.frozen? ⟨g, 2, none⟩ = false ∧ g < w.heap.size := by
  have hg := (Array.getElem?_eq_some_iff.mp h).1
  refine ⟨?_, ?_, ?_, ?_, ?_, ?_, hg⟩ <;> simp [World.cell?, World.frozen?, h]

set_option maxHeartbeats 1000000 in
theorem kept_any (k v : List UInt8) (w : World) (hk : k.length ≤ 1000000) (hv : v.length ≤ 1000000) :
    Calls Try.prog 33 #[.string (txt k), .string (txt v)] w fun e w' => e = .returned (.agg (cellV (cellOfKV k v))) ∧ Below w.heap.size w w' := by
  have hB := (Below.refl w.heap.size w).alloc (Nat.le_refl _) (.cells (cellV Cl.none) 98)
  simp only [cellV, Cl.none] at hB
  go_enter Try.func33, Try.ntmps33
  go_wp2_with fail
  refine Calls.mono (sclone_any k _ hk) ?_
  rintro e w1 ⟨rfl, hb1⟩
  have hk1 := box_in hb1
  have hB1 := below_on hB hb1
  clear hB hb1
  go_wp2_with fail
  refine Calls.mono (sclone_any v _ hv) ?_
  rintro e w2 ⟨rfl, hb2⟩
  have hk2 := box_in' hk1 hb2
  have hB2 := below_on hB1 hb2
  clear hB1 hb2 hk1
  have hp1 : Below w.heap.size w ((w2.setCell ⟨w.heap.size, 0, none⟩ (.bool true)).setCell ⟨w.heap.size, 1, none⟩ (.string (txt k))) := (hB2.setCell (Nat.le_refl _) _).setCell (Nat.le_refl _) _
  have hfin := hp1.setCell (p := ⟨w.heap.size, 2, none⟩) (Nat.le_refl _) (.string (txt v))
  obtain ⟨q0, q1, q2, f0, f1, f2, hz⟩ := cell3 hk2
  have hk3 := heap_setCell_same _ w.heap.size 2 _ 98 (.string (txt v)) (heap_setCell_same _ w.heap.size 1 _ 98 (.string (txt k)) (heap_setCell_same w2 w.heap.size 0 _ 98 (.bool true) hk2))
  obtain ⟨r0, r1, r2, _⟩ := cell3 (show _ = some (Obj.cells #[.bool true, .string (txt k), .string (txt v)] 98) from hk3)
  clear hk2 hp1 hk3
  go_wp2
  refine bodyPost_ret (v := .agg (cellV (cellOfKV k v))) (by simp only [results, Try.results33, go_sem, cellV, cellOfKV]; simp [go_sem, r0, r1, r2]) rfl ⟨rfl, ?_⟩
  exact hfin

end Go.Proofs.Ytcloinonhpaojaa
