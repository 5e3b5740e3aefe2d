/-
  Texts put together: Pb Pc Pd Pe Pf.
-/
import Derived.Test.YtebchgoaelamcaaDoorX1
import Derived.OneCell
namespace Go.Proofs.YtebchgoaelamcaaDoor
open Go.RowKit
set_option maxRecDepth 100000

theorem below_on {w W W' : World} (h : Below w.heap.size w W) (h' : Below W.heap.size W W') : Below w.heap.size w W' := h.trans (h'.mono h.size)

set_option maxHeartbeats 1000000 in
theorem idx_free (a : Option Addr) (c : Nat) (l : List Cl) (w : World) (h : SlC w a l) (hl : l.length ≤ 1000000) :
    Calls Tryd.prog 76 #[.slice a l.length c, .func (.func 79) #[] #[]] w fun e w' => e = .returned (.int .i64 (ixI (l.findIdx? isFree))) ∧ Below w.heap.size w w' := by
  go_enter Tryd.func76, Tryd.ntmps76
  go_wp2_with fail
  go_loopw [8] (fun i wr => ∃ k : Nat, k ≤ l.length ∧ i = .int .i64 k ∧ (∀ j (hj : j < l.length), j < k → isFree l[j] = false) ∧ Below w.heap.size w wr) (fun i _ => l.length - (intOf i).toNat)
  case atStart => exact ⟨0, Nat.zero_le _, rfl, fun j _ hj => absurd hj (by omega), Below.refl _ _⟩
  case round =>
    obtain ⟨k, hk, rfl, hup, hB⟩ := hrel
    have HU := (show Hid _ from hup)
    clear hup
    have hsl := h.below hB
    by_cases hlt : k < l.length
    · obtain ⟨b, o, rfl, hbl, c0, c1, c2⟩ := hsl.at k hlt
      go_wp2_with fail
      refine (pred75 l[k] _).mono ?_
      rintro e w' ⟨rfl, hb'⟩
      have hB' := below_on hB hb'
      cases hp : isFree l[k]
      · go_wp2_with fail
        go_roundw
        case rel =>
          refine ⟨k + 1, by omega, by simp, fun j hj hjk => ?_, hB'⟩
          by_cases e : j = k
          · subst e; exact hp
          · exact HU.out j hj (by omega)
        case measure => first | omega | (simp only [intOf]; omega)
      · go_wp2
        go_ret
        refine ⟨?_, hB'⟩
        have : l.findIdx? isFree = some k := by
          rw [List.findIdx?_eq_some_iff_getElem]
          exact ⟨hlt, hp, fun j hj => by rw [HU.out j (by omega) hj]; simp⟩
        rw [this]
        rfl
    · have : k = l.length := by omega
      subst this
      go_wp2
      go_ret
      refine ⟨?_, hB⟩
      have : l.findIdx? isFree = none := by
        rw [List.findIdx?_eq_none_iff]
        intro x hx
        obtain ⟨j, hj, rfl⟩ := List.getElem_of_mem hx
        exact HU.out j hj hj
      rw [this]
      rfl


set_option maxHeartbeats 1000000 in
theorem idx_key (q : List UInt8) (g : Nat) (a : Option Addr) (c : Nat) (l : List Cl) (w : World) (h : SlC w a l) (hl : l.length ≤ 1000000) (hg : g < w.heap.size) (hc : w.cell? ⟨g, 0, none⟩ = some (.string (txt q))) :
    Calls Tryd.prog 76 #[.slice a l.length c, .func (.func 77) #[] #[.pointer (some ⟨g, 0, none⟩)]] w fun e w' => e = .returned (.int .i64 (ixI (l.findIdx? (isKey q)))) ∧ Below w.heap.size w w' := by
  go_enter Tryd.func76, Tryd.ntmps76
  go_wp2_with fail
  go_loopw [8] (fun i wr => ∃ k : Nat, k ≤ l.length ∧ i = .int .i64 k ∧ (∀ j (hj : j < l.length), j < k → (isKey q) l[j] = false) ∧ Below w.heap.size w wr) (fun i _ => l.length - (intOf i).toNat)
  case atStart => exact ⟨0, Nat.zero_le _, rfl, fun j _ hj => absurd hj (by omega), Below.refl _ _⟩
  case round =>
    obtain ⟨k, hk, rfl, hup, hB⟩ := hrel
    have HU := (show Hid _ from hup)
    clear hup
    have hsl := h.below hB
    by_cases hlt : k < l.length
    · obtain ⟨b, o, rfl, hbl, c0, c1, c2⟩ := hsl.at k hlt
      go_wp2_with fail
      refine (pred73 q g l[k] _ (Nat.lt_of_lt_of_le hg hB.size) ((hB.cell (p := ⟨g, 0, none⟩) hg).trans hc)).mono ?_
      rintro e w' ⟨rfl, hb'⟩
      have hB' := below_on hB hb'
      cases hp : (isKey q) l[k]
      · go_wp2_with fail
        go_roundw
        case rel =>
          refine ⟨k + 1, by omega, by simp, fun j hj hjk => ?_, hB'⟩
          by_cases e : j = k
          · subst e; exact hp
          · exact HU.out j hj (by omega)
        case measure => first | omega | (simp only [intOf]; omega)
      · go_wp2
        go_ret
        refine ⟨?_, hB'⟩
        have : l.findIdx? (isKey q) = some k := by
          rw [List.findIdx?_eq_some_iff_getElem]
          exact ⟨hlt, hp, fun j hj => by rw [HU.out j (by omega) hj]; simp⟩
        rw [this]
        rfl
    · have : k = l.length := by omega
      subst this
      go_wp2
      go_ret
      refine ⟨?_, hB⟩
      have : l.findIdx? (isKey q) = none := by
        rw [List.findIdx?_eq_none_iff]
        intro x hx
        obtain ⟨j, hj, rfl⟩ := List.getElem_of_mem hx
        exact HU.out j hj hj
      rw [this]
      rfl


end Go.Proofs.YtebchgoaelamcaaDoor

namespace Go.Proofs.YtebchgoaelamcaaDoor
open Go.RowKit
set_option maxRecDepth 100000

theorem find_any (q : List UInt8) (a : Option Addr) (c : Nat) (l : List Cl) (w : World) (h : SlC w a l) (hl : l.length ≤ 1000000) :
    Calls Tryd.prog 58 #[.slice a l.length c, .string (txt q)] w fun e w' => e = .returned (.int .i64 (ixI (l.findIdx? (isKey q)))) ∧ Below w.heap.size w w' := by
  have hB := (Below.refl w.heap.size w).alloc (Nat.le_refl _) (.cells #[.string (txt q)] 9)
  have hX := (show Hid _ from idx_key q w.heap.size a c l _ (h.below hB) hl (by simp) (by simp))
  clear h
  go_enter Tryd.func58, Tryd.ntmps58
  go_wp2_with fail
  refine Calls.mono hX.out ?_
  rintro e w' ⟨rfl, hb⟩
  have hf := below_on hB hb
  clear hB hb
  go_wp2
  go_ret
  exact ⟨rfl, hf⟩

theorem firstFree_any (a : Option Addr) (c : Nat) (l : List Cl) (w : World) (h : SlC w a l) (hl : l.length ≤ 1000000) :
    Calls Tryd.prog 60 #[.slice a l.length c] w fun e w' => e = .returned (.int .i64 (ixI (l.findIdx? isFree))) ∧ Below w.heap.size w w' := by
  have hX := (show Hid _ from idx_free a c l _ h hl)
  clear h
  go_enter Tryd.func60, Tryd.ntmps60
  go_wp2_with fail
  refine Calls.mono hX.out ?_
  rintro e w' ⟨rfl, hb⟩
  go_wp2
  go_ret
  exact ⟨rfl, hb⟩

theorem trimL_take (l : List Cl) (k : Nat) (hk : k < l.length) (hu : l[k].used = false) : trimL (l.take (k + 1)) = trimL (l.take k) := by
  rw [List.take_add_one, List.getElem?_eq_getElem hk]
  exact trimL_snoc_free _ _ hu

set_option maxHeartbeats 1000000 in
theorem trimmed_any (a : Option Addr) (c : Nat) (l : List Cl) (w : World) (h : SlC w a l) (hl : l.length ≤ 1000000) (hc : l.length ≤ c) :
    Calls Tryd.prog 111 #[.slice a l.length c] w fun e w' => e = .returned (.slice a (trimL l).length c) ∧ w' = w := by
  go_enter Tryd.func111, Tryd.ntmps111
  go_wp2_with fail
  go_loop [3] (fun i => ∃ k : Nat, k ≤ l.length ∧ i = .int .i64 k ∧ trimL (l.take k) = trimL l) (fun i => (intOf i).toNat)
  case atStart => exact ⟨l.length, Nat.le_refl _, rfl, by rw [List.take_length]⟩
  case round =>
    obtain ⟨k, hk, rfl, ht⟩ := hrel
    have HT := (show Hid _ from ht)
    clear ht
    cases k with
    | zero =>
      have e0 : (trimL l).length = 0 := by rw [← HT.out]; rfl
      go_wp2
      go_ret
      exact ⟨rfl, rfl⟩
    | succ k =>
      obtain ⟨b, o, rfl, hbl, c0, c1, c2⟩ := h.at k (by omega)
      have ek : ((k + 1 : Nat) : Int) - 1 = (k : Int) := by omega
      cases hu : l[k].used
      · rw [hu] at c0
        go_wp2_with fail
        go_round
        case rel => exact ⟨k, by omega, by simp, by rw [← trimL_take l k (by omega) hu]; exact HT.out⟩
        case measure => first | omega | (simp only [intOf]; omega)
      · rw [hu] at c0
        have e0 : (trimL l).length = k + 1 := by
          rw [← HT.out, List.take_add_one, List.getElem?_eq_getElem (by omega)]
          simp only [Option.toList_some]
          rw [trimL_snoc_used _ _ hu]
          simp
          omega
        go_wp2
        go_ret
        exact ⟨rfl, rfl⟩

theorem Tryd.info5 : (Tryd.prog.info? 5).map (fun i => (i.zero, i.size, i.bytes)) = some (some (.int .u8 0), 1, 1) := by kernel_rfl

set_option maxRecDepth 100000 in
set_option maxHeartbeats 4000000 in
theorem slite_any (l : List UInt8) (w : World) (hl : l.length ≤ 1000000) :
    Calls Tryd.prog 99 #[.string (txt l)] w fun e w' => e = .returned (.string (txt l)) ∧ Below w.heap.size w w' := by
  have es := txt_size l
  by_cases h0 : l = []
  · subst h0
    go_enter Tryd.func99, Tryd.ntmps99
    go_wp2
    go_ret
    exact ⟨rfl, Below.refl _ _⟩
  · obtain ⟨i0, hi, hz0, hz1, hz2⟩ := info_parts Tryd.info5
    have hinfo : (Tryd.prog.info? 5).map (·.size) = some 1 := by rw [hi]; simp [hz1]
    have hco : Tryd.prog.cellsOf 5 = 1 := by simp [Program.cellsOf, hi, hz1]
    obtain ⟨M, hM⟩ : ∃ M, M = madeCells (Value.int .u8 0).cells (((l.length : Nat) : Int).toNat * i0.size) := ⟨_, rfl⟩
    have hMs : M.size = l.length := by rw [hM, size_madeCells, hz1]; simp
    have hmk : ∀ W : World, (Instr.makeSlice 42 (.int .i64 (l.length : Int)) (.int .i64 (l.length : Int))).run Tryd.prog W = .ok (.slice (some ⟨W.heap.size, 0, none⟩) l.length l.length) (W.alloc (.cells M 5)) := fun W => by
      have h := run_make (P := Tryd.prog) W 42 5 i0 (.int .u8 0) Tryd.underlying42 hi hz0 .i64 .i64 (l.length : Int) (l.length : Int) (by omega) (by omega) (by rw [hz2]; omega) (by omega)
      rw [← hM] at h
      simpa using h
    clear hM
    have hcp := Lib.run_copy_row_string (P := Tryd.prog) (w.alloc (.cells M 5)) 42 9 3 5 w.heap.size 0 l.length l.length (txt l) M 5 Tryd.underlying42 hinfo (heap_alloc_new w _) (by rw [txt_size]; exact Nat.le_refl _) (by omega)
    obtain ⟨Y, hY⟩ : ∃ Y, Y = (M.toList.take 0 ++ Lib.byteCells (txt l).data.toList ++ M.toList.drop (0 + (txt l).size)).toArray := ⟨_, rfl⟩
    rw [← hY] at hcp
    have hYl : Y.toList = Lib.byteCells l := by
      rw [hY, List.toList_toArray, List.take_zero, List.nil_append, List.drop_of_length_le (by rw [Array.length_toList, es]; omega), List.append_nil]
      rfl
    have hYs : Y.size = l.length := by rw [← Array.length_toList, hYl, Lib.byteCells_length]
    have hgY : ((w.alloc (.cells M 5)).setRow w.heap.size Y).heap[w.heap.size]? = some (.cells Y 5 (0, 0)) := setRow_heap _ _ M _ 5 (0, 0) (heap_alloc_new w _)
    have hUS := Lib.run_unsafeString_row (P := Tryd.prog) ((w.alloc (.cells M 5)).setRow w.heap.size Y) 155 3 9 5 Tryd.underlying155 hco w.heap.size Y.size (by unfold World.shape?; rw [hgY]) l h0 (by omega) (by omega)
      (fun j x hx => Lib.cells_of_row hgY Y.size j _ (by rw [List.take_of_length_le (by rw [Array.length_toList]; exact Nat.le_refl _), hYl]; simp [Lib.byteCells, hx]))
    have hb1 : Below w.heap.size w (w.alloc (.cells M 5)) := (Below.refl _ w).alloc (Nat.le_refl _) _
    have hb2 : Below w.heap.size (w.alloc (.cells M 5)) ((w.alloc (.cells M 5)).setRow w.heap.size Y) := ⟨rfl, rfl, rfl, by simp, fun k hk => setRow_other _ _ _ _ (by omega)⟩
    have hfin := Lib.below_freeze (hb1.trans hb2) (p := ⟨w.heap.size, 0, none⟩) (Nat.le_refl _) l.length
    rw [es] at hcp
    have h0' : ¬ (l.length : Int) = 0 := by have := List.length_pos_iff.mpr h0; omega
    have hpos := List.length_pos_iff.mpr h0
    clear hY hb1 hb2 h0
    go_enter Tryd.func99, Tryd.ntmps99
    go_wp2
    go_ret
    exact ⟨rfl, hfin⟩

theorem sclone_any (l : List UInt8) (w : World) (hl : l.length ≤ 1000000) :
    Calls Tryd.prog 78 #[.string (txt l)] w fun e w' => e = .returned (.string (txt l)) ∧ Below w.heap.size w w' := by
  go_enter Tryd.func78, Tryd.ntmps78
  go_wp2_with fail
  refine Calls.mono (slite_any l w hl) ?_
  rintro e w' ⟨rfl, hb⟩
  go_wp2
  go_ret
  exact ⟨rfl, hb⟩

theorem box_in {w W : World} {o : Obj} (h : Below (w.alloc o).heap.size (w.alloc o) W) : W.heap[w.heap.size]? = some o := by
  rw [h.block _ (by simp)]
  exact heap_alloc_new w o
theorem box_in' {W W' : World} {g : Nat} {o : Obj} (h : W.heap[g]? = some o) (hb : Below W.heap.size W W') : W'.heap[g]? = some o := by
  rw [hb.block _ (by have := Array.getElem?_eq_some_iff.mp h; exact this.1)]
  exact h
theorem cell3 {w : World} {g : Nat} {a b c : Value} {t : TypeId} (h : w.heap[g]? = some (.cells #[a, b, c] t)) :
    w.cell? ⟨g, 0, none⟩ = some a ∧ w.cell? ⟨g, 1, none⟩ = some b ∧ w.cell? ⟨g, 2, none⟩ = some c ∧ w.frozen? ⟨g, 0, none⟩ = false ∧ w.frozen? ⟨g, 1, none⟩ = false ∧ w.frozen? ⟨g, 2, none⟩ = false ∧ g < w.heap.size := by
  have hg := (Array.getElem?_eq_some_iff.mp h).1
  refine ⟨?_, ?_, ?_, ?_, ?_, ?_, hg⟩ <;> simp [World.cell?, World.frozen?, h]

set_option maxHeartbeats 1000000 in
theorem kept_any (k v : List UInt8) (w : World) (hk : k.length ≤ 1000000) (hv : v.length ≤ 1000000) :
    Calls Tryd.prog 59 #[.string (txt k), .string (txt v)] w fun e w' => e = .returned (.agg (cellV (cellOfKV k v))) ∧ Below w.heap.size w w' := by
  have hB := (Below.refl w.heap.size w).alloc (Nat.le_refl _) (.cells (cellV Cl.none) 55)
  simp only [cellV, Cl.none] at hB
  go_enter Tryd.func59, Tryd.ntmps59
  go_wp2_with fail
  refine Calls.mono (sclone_any k _ hk) ?_
  rintro e w1 ⟨rfl, hb1⟩
  have hk1 := box_in hb1
  have hB1 := below_on hB hb1
  clear hB hb1
  go_wp2_with fail
  refine Calls.mono (sclone_any v _ hv) ?_
  rintro e w2 ⟨rfl, hb2⟩
  have hk2 := box_in' hk1 hb2
  have hB2 := below_on hB1 hb2
  clear hB1 hb2 hk1
  have hp1 : Below w.heap.size w ((w2.setCell ⟨w.heap.size, 0, none⟩ (.bool true)).setCell ⟨w.heap.size, 1, none⟩ (.string (txt k))) := (hB2.setCell (Nat.le_refl _) _).setCell (Nat.le_refl _) _
  have hfin := hp1.setCell (p := ⟨w.heap.size, 2, none⟩) (Nat.le_refl _) (.string (txt v))
  obtain ⟨q0, q1, q2, f0, f1, f2, hz⟩ := cell3 hk2
  have hk3 := heap_setCell_same _ w.heap.size 2 _ 55 (.string (txt v)) (heap_setCell_same _ w.heap.size 1 _ 55 (.string (txt k)) (heap_setCell_same w2 w.heap.size 0 _ 55 (.bool true) hk2))
  obtain ⟨r0, r1, r2, _⟩ := cell3 (show _ = some (Obj.cells #[.bool true, .string (txt k), .string (txt v)] 55) from hk3)
  clear hk2 hp1 hk3
  go_wp2
  refine bodyPost_ret (v := .agg (cellV (cellOfKV k v))) (by simp only [results, Tryd.results59, go_sem, cellV, cellOfKV]; simp [go_sem, r0, r1, r2]) rfl ⟨rfl, ?_⟩
  exact hfin

end Go.Proofs.YtebchgoaelamcaaDoor

namespace Go.Proofs.YtebchgoaelamcaaDoor
open Go.RowKit
set_option maxRecDepth 100000

/-- Slots as cells. -/
def cellsV (l : List Cl) : List Value := l.flatMap fun c => [.bool c.used, .string (txt c.key), .string (txt c.val)]
theorem cellsV_length (l : List Cl) : (cellsV l).length = l.length * 3 := by
  induction l with
  | nil => rfl
  | cons c r ih => simp [cellsV] at *; omega
theorem cellsV_append (l m : List Cl) : cellsV (l ++ m) = cellsV l ++ cellsV m := by simp [cellsV]
theorem cellsV_at (l : List Cl) (i : Nat) (t : Cl) (h : l[i]? = some t) :
    (cellsV l)[i * 3]? = some (.bool t.used) ∧ (cellsV l)[i * 3 + 1]? = some (.string (txt t.key)) ∧ (cellsV l)[i * 3 + 2]? = some (.string (txt t.val)) := by
  induction l generalizing i with
  | nil => simp at h
  | cons c r ih =>
    cases i with
    | zero => simp at h; subst h; simp [cellsV]
    | succ i =>
      have := ih i (by simpa using h)
      have e : cellsV (c :: r) = [.bool c.used, .string (txt c.key), .string (txt c.val)] ++ cellsV r := rfl
      rw [e]
      have e0 : (i + 1) * 3 = i * 3 + 3 := by omega
      rw [e0]
      simpa using this

theorem addr_add (g j : Nat) : (⟨g, 0, none⟩ : Addr).add j = ⟨g, j, none⟩ := by unfold Addr.add; split <;> simp_all

theorem slC_of_own {w : World} {B : Nat} {a : Option Addr} {n c : Nat} {l : List Cl} (h : w.ownsRow B 55 3 (.slice a n c) l.length (cellsV l)) : SlC w a l ∧ n = l.length ∧ l.length ≤ c ∧ l.length ≤ maxLen := by
  rcases h.2 with ⟨h1, h2⟩ | ⟨g, cap, cur, h1, hB, hh, hc, hm, _⟩
  · simp at h1
    obtain ⟨rfl, rfl, rfl⟩ := h1
    have : l = [] := List.eq_nil_of_length_eq_zero h2
    subst this
    exact ⟨⟨fun _ => rfl, fun x hx => by simp at hx⟩, rfl, by simp, by simp⟩
  · simp at h1
    obtain ⟨rfl, rfl, rfl⟩ := h1
    refine ⟨⟨fun h => by simp at h, fun x hx i t ht => ?_⟩, rfl, hc, by omega⟩
    simp at hx
    subst hx
    obtain ⟨e0, e1, e2⟩ := cellsV_at l i t ht
    have k0 := h.cells (g := g) rfl _ _ e0
    have k1 := h.cells (g := g) rfl _ _ e1
    have k2 := h.cells (g := g) rfl _ _ e2
    refine ⟨rfl, ?_, ?_, ?_⟩
    · simpa [addr_add] using k0
    · simpa [addr_add] using k1
    · simpa [addr_add] using k2

/-- A page lies in block p, its slots in a row of its own. -/
structure PgOk (w : World) (B p : Nat) (id : Int) (lsn : Nat) (v : Value) (l : List Cl) : Prop where
  blk : w.heap[p]? = some (.cells #[.int .i64 id, .int .u64 (lsn : Int), v] 88)
  own : w.ownsRow B 55 3 v l.length (cellsV l)
  ne : v.ownBlock ≠ some p
  base : B ≤ p

theorem lt_of_blk {w : World} {p : Nat} {o : Obj} (h : w.heap[p]? = some o) : p < w.heap.size := (Array.getElem?_eq_some_iff.mp h).1

theorem PgOk.below {w w' : World} {B D p : Nat} {id : Int} {lsn : Nat} {v : Value} {l : List Cl} (h : PgOk w B p id lsn v l) (hb : Below D w w') (hD : w.heap.size ≤ D) : PgOk w' B p id lsn v l :=
  ⟨by rw [hb.block p (Nat.lt_of_lt_of_le (lt_of_blk h.blk) hD)]; exact h.blk, ownsRow_below h.own hb (fun k hk => Nat.lt_of_lt_of_le (ownsRow_lt h.own k hk) hD), h.ne, h.base⟩

theorem PgOk.cells {w : World} {B p : Nat} {id : Int} {lsn : Nat} {v : Value} {l : List Cl} (h : PgOk w B p id lsn v l) :
    w.cell? ⟨p, 0, none⟩ = some (.int .i64 id) ∧ w.cell? ⟨p, 1, none⟩ = some (.int .u64 (lsn : Int)) ∧ w.cell? ⟨p, 2, none⟩ = some v ∧ w.frozen? ⟨p, 0, none⟩ = false ∧ w.frozen? ⟨p, 1, none⟩ = false ∧ w.frozen? ⟨p, 2, none⟩ = false ∧ p < w.heap.size := cell3 h.blk

theorem sumC_take (l : List Cl) (k : Nat) (hk : k < l.length) : sumC (l.take (k + 1)) = sumC (l.take k) + sizeC l[k] := by
  rw [List.take_add_one, List.getElem?_eq_getElem hk, sumC_append]
  simp [sumC]
theorem sumC_le (l : List Cl) (k : Nat) : sumC (l.take k) ≤ sumC l := by
  have : sumC l = sumC (l.take k) + sumC (l.drop k) := by rw [← sumC_append, List.take_append_drop]
  omega

theorem GoodL.small {l : List Cl} (h : GoodL l) (c : Cl) (hc : c ∈ l) : c.key.length ≤ 16 ∧ c.val.length ≤ 32 := by
  have := h.cells c hc
  unfold goodC at this
  split at this
  · omega
  · rw [this.1, this.2]; simp

set_option maxHeartbeats 1000000 in
theorem free_any (B p : Nat) (id : Int) (lsn : Nat) (v : Value) (l : List Cl) (w : World) (h : PgOk w B p id lsn v l) (hg : GoodL l) :
    Calls Tryd.prog 80 #[.pointer (some ⟨p, 0, none⟩)] w fun e w' => e = .returned (.int .i64 (freeL l)) ∧ Below w.heap.size w w' := by
  obtain ⟨a, c, rfl⟩ := ownsRow_shape h.own
  obtain ⟨hsl, _, hlc, _⟩ := slC_of_own h.own
  have hfew := hg.few
  have hroom := hg.room
  obtain ⟨p0, p1, p2, f0, f1, f2, hz⟩ := h.cells
  have HG := (show Hid _ from hg.small)
  have HP := (show Hid _ from h)
  clear h hg
  go_enter Tryd.func80, Tryd.ntmps80
  go_wp2_with fail
  refine (slotAt_any l.length _ (by omega)).mono ?_
  rintro e w1 ⟨rfl, hw1⟩
  obtain rfl := hw1.symm
  go_wp2_with fail
  go_loopw [3, 20] (fun f i wr => ∃ k : Nat, k ≤ l.length ∧ i = .int .i64 k ∧ f = .int .i64 (496 - 4 * (l.length : Int) - (sumC (l.take k) : Int)) ∧ Below w.heap.size w wr) (fun _ i _ => l.length - (intOf i).toNat)
  case atStart => exact ⟨0, Nat.zero_le _, rfl, by simp [sumC]; omega, Below.refl _ _⟩
  case round =>
    obtain ⟨k, hk, rfl, rfl, hB⟩ := hrel
    have hsl' := hsl.below hB
    have hle := sumC_le l k
    unfold freeL at hroom
    by_cases hlt : k < l.length
    · obtain ⟨b, o, rfl, hbl, c0, c1, c2⟩ := hsl'.at k hlt
      have hst := sumC_take l k hlt
      have hle1 := sumC_le l (k + 1)
      have hsm := HG.out l[k] (List.getElem_mem hlt)
      have hBA := hB.alloc hB.size (.cells (cellV l[k]) 55)
      have HX := (show Hid _ from cellSize_any l[k] (wr.alloc (.cells (cellV l[k]) 55)) (by omega))
      simp only [cellV] at hBA HX
      go_wp2_with fail
      refine Calls.mono HX.out ?_
      rintro e w2 ⟨rfl, hb2⟩
      have hB2 := below_on hBA hb2
      clear HX hb2 hBA
      go_wp2_with fail
      go_roundw
      case rel => exact ⟨k + 1, by omega, by simp, by rw [hst]; congr 1; omega, hB2⟩
      case measure => first | omega | (simp only [intOf]; omega)
    · have : k = l.length := by omega
      subst this
      go_wp2
      go_ret
      exact ⟨by simp [freeL], hB⟩

end Go.Proofs.YtebchgoaelamcaaDoor

namespace Go.Proofs.YtebchgoaelamcaaDoor
open Go.RowKit
set_option maxRecDepth 100000

theorem Tryd.info55 : (Tryd.prog.info? 55).map (fun i => (i.zero, i.size, i.bytes)) = some (some (.agg #[.bool false, .string ⟨#[]⟩, .string ⟨#[]⟩]), 3, 40) := by kernel_rfl

theorem cellsV_one (l : List Cl) : ∀ u ∈ cellsV l, u.oneCell' = true := by
  intro u hu
  simp [cellsV] at hu
  obtain ⟨c, _, h | h | h⟩ := hu <;> (subst h; rfl)

theorem own_nilcap {w : World} {B : Nat} {a : Option Addr} {n c : Nat} {e : TypeId} {size : Nat} {xs : List Value} {m : Nat} (h : w.ownsRow B e size (.slice a n c) m xs) : a = none → c = 0 := by
  rintro rfl
  rcases h.2 with ⟨h, _⟩ | ⟨_, _, _, h, _⟩ <;> simp at h
  exact h.2

/-- The cells of a slice of slots, one behind the other. -/
theorem SlC.flat {w : World} {x : Addr} {l : List Cl} (h : SlC w (some x) l) : ∀ j u, (cellsV l)[j]? = some u → w.cell? (x.add j) = some u := by
  intro j u hu
  have hj : j < l.length * 3 := by
    have := (List.getElem?_eq_some_iff.mp hu).1
    rw [cellsV_length] at this
    exact this
  have hi : j / 3 < l.length := by omega
  obtain ⟨h0, h1, h2, h3⟩ := h.cells x rfl (j / 3) l[j / 3] (List.getElem?_eq_getElem hi)
  obtain ⟨e0, e1, e2⟩ := cellsV_at l (j / 3) l[j / 3] (List.getElem?_eq_getElem hi)
  obtain ⟨b, o, sp⟩ := x
  simp only at h0
  subst h0
  have ea : (⟨b, o, none⟩ : Addr).add j = ⟨b, o + j, none⟩ := by unfold Addr.add; split <;> simp_all
  rw [ea]
  have hr : j % 3 = 0 ∨ j % 3 = 1 ∨ j % 3 = 2 := by omega
  rcases hr with hr | hr | hr
  · have : j = j / 3 * 3 := by omega
    rw [← this] at e0 h1
    rw [e0] at hu
    simp at hu
    rw [← hu]; exact h1
  · have : j = j / 3 * 3 + 1 := by omega
    rw [← this] at e1
    rw [e1] at hu
    simp at hu
    rw [← hu]
    have e : o + j = o + j / 3 * 3 + 1 := by omega
    rw [e]
    exact h2
  · have : j = j / 3 * 3 + 2 := by omega
    rw [← this] at e2
    rw [e2] at hu
    simp at hu
    rw [← hu]
    have e : o + j = o + j / 3 * 3 + 2 := by omega
    rw [e]
    exact h3

set_option maxHeartbeats 1000000 in
theorem cells_any (B p : Nat) (id : Int) (lsn : Nat) (v : Value) (l : List Cl) (w : World) (h : PgOk w B p id lsn v l) (hl : l.length ≤ 1000000) :
    Calls Tryd.prog 105 #[.pointer (some ⟨p, 0, none⟩)] w fun e w' => ∃ r, e = .returned r ∧ w'.ownsRow w.heap.size 55 3 r l.length (cellsV l) ∧ Below w.heap.size w w' := by
  obtain ⟨i0, hi, hz0, hz1, hz2⟩ := info_parts Tryd.info55
  obtain ⟨a, c, rfl⟩ := ownsRow_shape h.own
  obtain ⟨hsl, _, hlc, _⟩ := slC_of_own h.own
  have hnil := own_nilcap h.own
  obtain ⟨p0, p1, p2, f0, f1, f2, hz⟩ := h.cells
  clear h
  cases a with
  | none =>
    have := hsl.nonil rfl
    subst this
    obtain rfl := hnil rfl
    go_enter Tryd.func105, Tryd.ntmps105
    go_wp2_with (at_builtin; refine wpList_append_own_none rfl _ _ 37 rfl w.heap.size 55 i0 3 Tryd.underlying37 hi (.slice none 0 0) 0 [] rfl (World.ownsRow_nil _ _ _ _) rfl ?_)
    go_ret
    exact ⟨_, rfl, World.ownsRow_nil _ _ _ _, Below.refl _ _⟩
  | some x =>
    have hcs := hsl.flat
    go_enter Tryd.func105, Tryd.ntmps105
    go_wp2_with (at_builtin; refine wpList_append_own _ rfl _ _ 37 rfl w.heap.size 55 i0 _ 3 40 Tryd.underlying37 hi hz0 hz1 hz2 rfl (by decide) (.slice none 0 0) 0 [] rfl (World.ownsRow_nil _ _ _ _) x l.length c (cellsV l) rfl (cellsV_length l) hcs (cellsV_one l) (by unfold maxLen; omega) (by omega) (Nat.le_refl _) ?_; intro v' w1 hown hgrow _)
    go_ret
    exact ⟨_, rfl, by simpa using hown, (Below.refl _ _).grown hgrow (Nat.le_refl _) (fun k hk => by simp [Value.ownBlock] at hk)⟩

/-- What Get tells. -/
def getL (l : List Cl) (k : List UInt8) : Option (List UInt8) := (l.findIdx? (isKey k)).map fun i => (l[i]?.getD Cl.none).val

theorem get_any (B p : Nat) (id : Int) (lsn : Nat) (v : Value) (l : List Cl) (k : List UInt8) (w : World) (h : PgOk w B p id lsn v l) (hl : l.length ≤ 1000000) :
    Calls Tryd.prog 44 #[.pointer (some ⟨p, 0, none⟩), .string (txt k)] w fun e w' => e = .returned (.tuple #[.string (txt ((getL l k).getD [])), .bool (getL l k).isSome]) ∧ Below w.heap.size w w' := by
  obtain ⟨a, c, rfl⟩ := ownsRow_shape h.own
  obtain ⟨hsl, _, hlc, _⟩ := slC_of_own h.own
  obtain ⟨p0, p1, p2, f0, f1, f2, hz⟩ := h.cells
  go_enter Tryd.func44, Tryd.ntmps44
  go_wp2_with fail
  refine (find_any k a c l _ hsl hl).mono ?_
  rintro e w1 ⟨rfl, hb1⟩
  obtain ⟨q0, q1, q2, g0, g1, g2, hz1⟩ := (h.below hb1 (Nat.le_refl _)).cells
  have hsl1 := hsl.below hb1
  clear h p0 p1 p2 f0 f1 f2 hz hsl
  cases hf : l.findIdx? (isKey k) with
  | none =>
    simp only [ixI]
    go_wp2
    refine bodyPost_ret (v := .tuple #[.string ⟨#[]⟩, .bool false]) (by simp [results, Tryd.results44, go_sem]) rfl ⟨?_, hb1⟩
    simp [getL, hf, txt]
  | some i =>
    obtain ⟨hi, _⟩ := find_some hf
    simp only [ixI]
    obtain ⟨b, o, rfl, hbl, c0, c1, c2⟩ := hsl1.at i hi
    go_wp2
    refine bodyPost_ret (v := .tuple #[.string (txt l[i].val), .bool true]) (by simp [results, Tryd.results44, go_sem]) rfl ⟨?_, hb1⟩
    simp [getL, hf, List.getElem?_eq_getElem hi]

theorem new_no (id : Int) (w : World) (h : ¬ (0 ≤ id ∧ id < 16)) :
    Calls Tryd.prog 30 #[.int .i64 id] w fun e w' => e = .returned (.tuple #[.pointer none, .int .i64 1]) ∧ w' = w := by
  have hk := known_any id w
  rw [show (decide (0 ≤ id) && decide (id < 16)) = false by simp; omega] at hk
  go_enter Tryd.func30, Tryd.ntmps30
  go_wp2_with fail
  refine Calls.mono hk ?_
  rintro e w1 ⟨rfl, hw1⟩
  obtain rfl := hw1.symm
  go_wp2
  exact bodyPost_ret (v := .tuple #[.pointer none, .int .i64 1]) (by simp [results, Tryd.results30, go_sem]) rfl ⟨rfl, rfl⟩

theorem new_yes (id : Int) (w : World) (h : 0 ≤ id ∧ id < 16) :
    Calls Tryd.prog 30 #[.int .i64 id] w fun e w' => e = .returned (.tuple #[.pointer (some ⟨w.heap.size, 0, none⟩), .int .i64 0]) ∧ w' = w.alloc (.cells #[.int .i64 id, .int .u64 0, .slice none 0 0] 88) := by
  have hk := known_any id w
  rw [show (decide (0 ≤ id) && decide (id < 16)) = true by simp; omega] at hk
  go_enter Tryd.func30, Tryd.ntmps30
  go_wp2_with fail
  refine Calls.mono hk ?_
  rintro e w1 ⟨rfl, hw1⟩
  obtain rfl := hw1.symm
  go_wp2
  exact bodyPost_ret (v := .tuple #[.pointer (some ⟨w.heap.size, 0, none⟩), .int .i64 0]) (by simp [results, Tryd.results30, go_sem]) rfl ⟨rfl, rfl⟩

theorem PgOk.new (id : Int) (w : World) : PgOk (w.alloc (.cells #[.int .i64 id, .int .u64 0, .slice none 0 0] 88)) w.heap.size w.heap.size id 0 (.slice none 0 0) [] :=
  ⟨heap_alloc_new _ _, World.ownsRow_nil _ _ _ _, by simp [Value.ownBlock], Nat.le_refl _⟩

end Go.Proofs.YtebchgoaelamcaaDoor

namespace Go.Proofs.YtebchgoaelamcaaDoor
open Go.RowKit
set_option maxRecDepth 100000

/-- A row that another one grew into lies where it lay, or is new. -/
def Fresh (w : World) (v v' : Value) : Prop := ∀ k, v'.ownBlock = some k → v.ownBlock = some k ∨ w.heap.size ≤ k

theorem Fresh.refl (w : World) (v : Value) : Fresh w v v := fun _ h => .inl h

theorem run_append_fresh {P : Program} (w : World) (base : Nat) (t ty e : TypeId) (i : TypeInfo) (z : Value) (size bytes : Nat) (ht : P.underlying t = some (.slice e)) (hi : P.info? e = some i) (hz : i.zero = some z)
    (hsize : i.size = size) (hby : i.bytes = bytes) (hzs : z.cells.size = size) (hsz : 0 < size)
    (v : Value) (n : Nat) (xs : List Value) (hown : w.ownsRow base e size v n xs)
    (a : Addr) (m c : Nat) (news : List Value) (hl : news.length = m * size) (hnews : ∀ j u, news[j]? = some u → w.cell? (a.add j) = some u) (h1 : ∀ u ∈ news, u.oneCell' = true)
    (h63 : n + m ≤ maxLen) (hbytes : (n + m) * bytes ≤ 140737488355328) (hbase : base ≤ w.heap.size) :
    ∃ v' w', (Builtin.append_ #[t, t] ty #[v, .slice (some a) m c]).run P w = .ok v' w' ∧ w'.ownsRow base e size v' (n + m) (xs ++ news) ∧ w.grownBy w' v.ownBlock ∧ Fresh w v v' := by
  obtain ⟨v', w', hr, h2, h3, h4⟩ := run_append_own (P := P) w base t ty e i z size bytes ht hi hz hsize hby hzs hsz v n xs hown a m c news hl hnews h1 h63 hbytes hbase
  refine ⟨v', w', hr, h2, h3, ?_⟩
  subst hsize
  subst hby
  rcases hown.2 with ⟨rfl, rfl⟩ | ⟨g, cap, cur, rfl, hbg, hg, hnc, hcm, hcs, htake⟩
  · by_cases hm : m = 0
    · rw [h4.mpr ⟨rfl, hm⟩]
      exact Fresh.refl _ _
    · have hx : xs = [] := List.eq_nil_of_length_eq_zero (by simpa using hown.1)
      subst hx
      have hr2 := run_append_nil (P := P) w t ty e i z ht hi hz a m c news hl hnews (by omega) (by simp only [maxLen] at h63; omega) (by have hb := hbytes; simp only [Nat.zero_add] at hb; omega)
      rw [hr] at hr2
      injection hr2 with e1 e2
      subst e1
      intro k hk
      simp [Value.ownBlock] at hk
      exact .inr (by omega)
  · by_cases hroom : n + m ≤ cap
    · have hfit : n * i.size + news.length ≤ cur.size := by rw [hl, hcs, ← Nat.add_mul]; exact Nat.mul_le_mul_right _ hroom
      have hr2 := run_append_room (P := P) w t ty e i ht hi g n cap cur hg a m c news hl hnews h1 hroom hfit
      rw [hr] at hr2
      injection hr2 with e1 e2
      subst e1
      intro k hk
      exact .inl hk
    · have holds : ∀ j u, xs[j]? = some u → w.cell? ((⟨g, 0, none⟩ : Addr).add j) = some u := hown.cells (g := g) rfl
      have hr2 := run_append_grow (P := P) w t ty e i z ht hi hz ⟨g, 0, none⟩ n cap xs hown.1 holds a m c news hl hnews (by omega) (by simp only [maxLen] at h63; omega) (growslice_fits (by omega) hbytes)
      rw [hr] at hr2
      injection hr2 with e1 e2
      subst e1
      intro k hk
      simp [Value.ownBlock] at hk
      exact .inr (by omega)

/-- An append to an owned row, as one step of a region that draws its order; and where it lies. -/
theorem step_append_fresh {P : Program} {ops : Array Oper} {o : Oper} {a : Act} {w : World} {K : Act → World → Prop} {Q : Exit → Act → World → Prop} {E : Prop}
    (hg : o.guard = none) (s x : Operand) (t : TypeId) (hop : o.op = Op.call { callee := Callee.builtin Builtin.append, args := #[s, x], argTypes := #[t, t] })
    (base : Nat) (e : TypeId) (i : TypeInfo) (z : Value) (size bytes : Nat) (h1 : P.underlying t = some (.slice e)) (h2 : P.info? e = some i) (h3 : i.zero = some z) (h4 : i.size = size) (h5 : i.bytes = bytes) (h6 : z.cells.size = size) (h7 : 0 < size)
    (v : Value) (n : Nat) (xs : List Value) (hs : a.eval s = v) (hown : w.ownsRow base e size v n xs)
    (ad : Addr) (m c : Nat) (news : List Value) (hx : a.eval x = .slice (some ad) m c) (hn : news.length = m * size) (hc : ∀ j u, news[j]? = some u → w.cell? (ad.add j) = some u) (h1c : ∀ u ∈ news, u.oneCell' = true)
    (b1 : n + m ≤ maxLen) (b2 : (n + m) * bytes ≤ 140737488355328) (hb : base ≤ w.heap.size)
    (hK : ∀ v' w', w'.ownsRow base e size v' (n + m) (xs ++ news) → w.grownBy w' v.ownBlock → Fresh w v v' → K (a.put o.dst v') w') :
    if Region.wanted o (yielded ops a.tmps) = true then Oper.wp P o a w K Q else E := by
  have hw : Region.wanted o (yielded ops a.tmps) = true := by simp [Region.wanted, hg]
  rw [if_pos hw]
  obtain ⟨v', w', hrun, r1, r2, r3⟩ := run_append_fresh (P := P) w base t o.type e i z size bytes h1 h2 h3 h4 h5 h6 h7 v n xs hown ad m c news hn hc h1c b1 b2 hb
  unfold Oper.wp
  simp [execOp, hop, resolve, invoke, builtin, hs, hx, hrun, Result.andThen]
  exact hK v' w' r1 r2 r3

/-- Nothing that was there has turned but block p and row o. -/
structure Touch (p : Nat) (o : Option Nat) (w w' : World) : Prop where
  os : w'.os = w.os
  tape : w'.tape = w.tape
  output : w'.output = w.output
  size : w.heap.size ≤ w'.heap.size
  block : ∀ k, k < w.heap.size → k ≠ p → some k ≠ o → w'.heap[k]? = w.heap[k]?

theorem Touch.of {w w' : World} {p : Nat} {o : Option Nat} (h : Below w.heap.size w w') : Touch p o w w' := ⟨h.os, h.tape, h.output, h.size, fun k hk _ _ => h.block k hk⟩
theorem Touch.refl (w : World) (p : Nat) (o : Option Nat) : Touch p o w w := Touch.of (Below.refl _ _)
theorem Touch.trans {w w1 w2 : World} {p : Nat} {o : Option Nat} (h : Touch p o w w1) (k : Touch p o w1 w2) : Touch p o w w2 :=
  ⟨k.os.trans h.os, k.tape.trans h.tape, k.output.trans h.output, Nat.le_trans h.size k.size, fun i hi h1 h2 => (k.block i (Nat.lt_of_lt_of_le hi h.size) h1 h2).trans (h.block i hi h1 h2)⟩
theorem Touch.fresh {w w1 w2 : World} {p : Nat} {v v1 : Value} (h : Touch p v.ownBlock w w1) (hf : Fresh w v v1) (k : Touch p v1.ownBlock w1 w2) : Touch p v.ownBlock w w2 :=
  ⟨k.os.trans h.os, k.tape.trans h.tape, k.output.trans h.output, Nat.le_trans h.size k.size, fun i hi h1 h2 => by
    refine (k.block i (Nat.lt_of_lt_of_le hi h.size) h1 (fun e => ?_)).trans (h.block i hi h1 h2)
    rcases hf i e.symm with e' | e'
    · exact h2 e'.symm
    · omega⟩
theorem Touch.setCell {w w1 : World} {p : Nat} {o : Option Nat} (h : Touch p o w w1) {a : Addr} (ha : a.block = p ∨ some a.block = o) (u : Value) : Touch p o w (w1.setCell a u) :=
  ⟨h.os, h.tape, h.output, by simpa using h.size, fun k hk h1 h2 => by
    rw [heap_setCell_other _ _ _ _ (fun e => by rcases ha with ha | ha; exact h1 (e.trans ha); exact h2 (by rw [e, ha]))]
    exact h.block k hk h1 h2⟩
theorem Touch.grown {w w1 w2 : World} {p : Nat} {o : Option Nat} (h : Touch p o w w1) (hg : w1.grownBy w2 o) : Touch p o w w2 :=
  ⟨hg.os.trans h.os, hg.tape.trans h.tape, hg.output.trans h.output, Nat.le_trans h.size hg.size, fun k hk h1 h2 => (hg.block k (Nat.lt_of_lt_of_le hk h.size) h2).trans (h.block k hk h1 h2)⟩
theorem Touch.below {w w1 : World} {p B : Nat} {o : Option Nat} (h : Touch p o w w1) (hp : B ≤ p) (ho : ∀ k, o = some k → B ≤ k) (hw : B ≤ w.heap.size) : Below B w w1 :=
  ⟨h.os, h.tape, h.output, h.size, fun k hk => h.block k (by omega) (by omega) (fun e => by have := ho k e.symm; omega)⟩

theorem Fresh.trans {w w1 : World} {v v1 v2 : Value} (h : Fresh w v v1) (hs : w.heap.size ≤ w1.heap.size) (k : Fresh w1 v1 v2) : Fresh w v v2 := fun i hi => by
  rcases k i hi with e | e
  · exact h i e
  · exact .inr (by omega)

/-- A cell of an owned row that is written. -/
theorem own_set {w : World} {B g n cap : Nat} {e : TypeId} {size : Nat} {xs : List Value} (h : w.ownsRow B e size (.slice (some ⟨g, 0, none⟩) n cap) n xs) (k : Nat) (u : Value) :
    (w.setCell ⟨g, k, none⟩ u).ownsRow B e size (.slice (some ⟨g, 0, none⟩) n cap) n (xs.set k u) := by
  rcases h.2 with ⟨h1, _⟩ | ⟨g', cap', cur, h1, hB, hh, hc, hm, hs, ht⟩
  · simp at h1
  · simp at h1
    obtain ⟨rfl, rfl⟩ := h1
    refine ⟨by simpa using h.1, .inr ⟨g, cap, cur.setIfInBounds k u, rfl, hB, heap_setCell_same _ _ _ _ _ _ hh, hc, hm, by simpa using hs, ?_⟩⟩
    rw [← ht]
    simp [List.take_set]

theorem cellsV_set (l : List Cl) (i : Nat) (c : Cl) (h : i < l.length) :
    cellsV (l.set i c) = (((cellsV l).set (i * 3) (.bool c.used)).set (i * 3 + 1) (.string (txt c.key))).set (i * 3 + 2) (.string (txt c.val)) := by
  induction l generalizing i with
  | nil => simp at h
  | cons d r ih =>
    cases i with
    | zero => simp [cellsV]
    | succ i =>
      have e : ∀ (x : Cl) (m : List Cl), cellsV (x :: m) = .bool x.used :: .string (txt x.key) :: .string (txt x.val) :: cellsV m := fun _ _ => rfl
      rw [List.set_cons_succ, e, e, ih i (by simpa using h)]
      have e0 : (i + 1) * 3 = i * 3 + 1 + 1 + 1 := by omega
      rw [e0]
      simp [List.set_cons_succ]

end Go.Proofs.YtebchgoaelamcaaDoor

