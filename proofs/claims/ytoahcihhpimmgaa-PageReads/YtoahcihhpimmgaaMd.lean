/-
  The walk of made.
-/
import Derived.Test.YtoahcihhpimmgaaLv
namespace Go.Proofs.Ytoahcihhpimmgaa
open Go.RowKit

/-- A step. -/
structure Ov where
  kind : Int
  key : List UInt8
  val : List UInt8
  tm : Nat

/-- A slice of steps. -/
structure SlO (w : World) (a : Option Addr) (l : List Ov) : Prop where
  nonil : a = none → l = []
  cells : ∀ x, a = some x → ∀ i t, l[i]? = some t → x.spot = none ∧ w.cell? ⟨x.block, x.off + i * 4, none⟩ = some (.int .i64 t.kind) ∧ w.cell? ⟨x.block, x.off + i * 4 + 1, none⟩ = some (.string (txt t.key)) ∧ w.cell? ⟨x.block, x.off + i * 4 + 2, none⟩ = some (.string (txt t.val)) ∧ w.cell? ⟨x.block, x.off + i * 4 + 3, none⟩ = some (.int .u64 (t.tm : Int))
  small : ∀ t ∈ l, t.key.length ≤ maxLen ∧ t.val.length ≤ maxLen ∧ t.tm < 18446744073709551616

theorem SlO.below {w w' : World} {a : Option Addr} {l : List Ov} (h : SlO w a l) (hb : Below w.heap.size w w') : SlO w' a l :=
  ⟨h.nonil, fun x hx i t ht => by
    obtain ⟨h0, h1, h2, h3, h4⟩ := h.cells x hx i t ht
    have hlt := World.block_lt_of_cell? _ _ h1
    exact ⟨h0, by rw [hb.cell (by exact hlt)]; exact h1, by rw [hb.cell (by exact hlt)]; exact h2, by rw [hb.cell (by exact hlt)]; exact h3, by rw [hb.cell (by exact hlt)]; exact h4⟩, h.small⟩

theorem SlO.at {w : World} {a : Option Addr} {l : List Ov} (h : SlO w a l) (i : Nat) (hi : i < l.length) : ∃ b o, a = some ⟨b, o, none⟩ ∧ b < w.heap.size ∧
    w.cell? ⟨b, o + i * 4, none⟩ = some (.int .i64 l[i].kind) ∧ w.cell? ⟨b, o + i * 4 + 1, none⟩ = some (.string (txt l[i].key)) ∧ w.cell? ⟨b, o + i * 4 + 2, none⟩ = some (.string (txt l[i].val)) ∧ w.cell? ⟨b, o + i * 4 + 3, none⟩ = some (.int .u64 (l[i].tm : Int)) := by
  cases a with
  | none => have := h.nonil rfl; subst this; simp at hi
  | some x =>
    obtain ⟨b, o, sp⟩ := x
    obtain ⟨h0, h1, h2, h3, h4⟩ := h.cells _ rfl i _ (List.getElem?_eq_getElem hi)
    simp only at h0 h1 h2 h3 h4
    subst h0
    exact ⟨b, o, rfl, World.block_lt_of_cell? _ _ h1, h1, h2, h3, h4⟩

/-- What a step makes of slots and an LSN. -/
def stepM (s : List Cl × Nat) (o : Ov) : List Cl × Nat :=
  if o.kind = 0 then ((insL s.1 o.key o.val).1, s.2) else if o.kind = 1 then ((updL s.1 o.key o.val).1, s.2) else if o.kind = 2 then ((delL s.1 o.key).1, s.2) else if o.kind = 4 then (s.1, o.tm) else s
def runM (l : List Ov) : List Cl × Nat := l.foldl stepM ([], 0)

theorem runM_snoc (l : List Ov) (k : Nat) (hk : k < l.length) : runM (l.take (k + 1)) = stepM (runM (l.take k)) l[k] := by
  have et : l.take (k + 1) = l.take k ++ [l[k]] := by rw [List.take_add_one, List.getElem?_eq_getElem hk]; rfl
  unfold runM
  rw [et, List.foldl_append]
  rfl

theorem stepM_good (s : List Cl × Nat) (o : Ov) (h : GoodL s.1) : GoodL (stepM s o).1 := by
  unfold stepM
  split
  · exact ins_good h _ _
  · split
    · exact upd_good h _ _
    · split
      · exact del_good h _
      · split <;> exact h
theorem stepM_lsn (s : List Cl × Nat) (o : Ov) (h : s.2 < 18446744073709551616) (ho : o.tm < 18446744073709551616) : (stepM s o).2 < 18446744073709551616 := by
  unfold stepM
  split
  · exact h
  · split
    · exact h
    · split
      · exact h
      · split
        · exact ho
        · exact h

theorem made_no (id : Int) (a : Option Addr) (c : Nat) (l : List Ov) (w : World) (h : ¬ (0 ≤ id ∧ id < 16)) :
    Calls Try.prog 20 #[.int .i64 id, .slice a l.length c] w fun e w' => e = .returned (.pointer none) ∧ w' = w := by
  go_enter Try.func20, Try.ntmps20
  go_wp2_with fail
  refine Calls.mono (new_no id w h) ?_
  rintro e w1 ⟨rfl, hw1⟩
  obtain rfl := hw1.symm
  go_wp2
  go_ret
  exact ⟨rfl, rfl⟩

set_option maxRecDepth 20000 in
set_option maxHeartbeats 2000000 in
theorem made_yes (id : Int) (a : Option Addr) (c : Nat) (l : List Ov) (w : World) (h : 0 ≤ id ∧ id < 16) (hsl : SlO w a l) (hl : l.length ≤ maxLen) :
    Calls Try.prog 20 #[.int .i64 id, .slice a l.length c] w fun e w' => ∃ p v, e = .returned (.pointer (some ⟨p, 0, none⟩)) ∧ PgOk w' w.heap.size p id (runM (l.take 100)).2 v (runM (l.take 100)).1 ∧ GoodL (runM (l.take 100)).1 ∧ (runM (l.take 100)).2 < 18446744073709551616 ∧ Below w.heap.size w w' := by
  unfold maxLen at hl
  go_enter Try.func20, Try.ntmps20
  go_wp2_with fail
  refine Calls.mono (new_yes id w h) ?_
  rintro e w1 ⟨rfl, hw1⟩
  have HP0 := (show Hid _ from PgOk.new id w)
  have HB0 : Hid (Below w.heap.size w w1) := by rw [hw1]; exact (Below.refl _ _).alloc (Nat.le_refl _) _
  rw [← hw1] at HP0
  clear hw1
  go_wp2_with fail
  go_loopw [7] (fun i wr => ∃ k : Nat, k ≤ l.length ∧ k ≤ 100 ∧ i = .int .i64 k ∧ (∃ v, PgOk wr w.heap.size w.heap.size id (runM (l.take k)).2 v (runM (l.take k)).1) ∧ GoodL (runM (l.take k)).1 ∧ (runM (l.take k)).2 < 18446744073709551616 ∧ Below w.heap.size w wr) (fun i _ => l.length - (intOf i).toNat)
  case atStart => exact ⟨0, Nat.zero_le _, by omega, rfl, ⟨_, HP0.out⟩, goodL_nil, by show 0 < _; omega, HB0.out⟩
  case round =>
    obtain ⟨k, hk, hk1, rfl, ⟨v, hp⟩, hg, hlsn, hB⟩ := hrel
    have HB := (show Hid _ from hB)
    have HP := (show Hid _ from hp)
    have HG := (show Hid _ from hg)
    have HL := (show Hid _ from hlsn)
    have hsl' := hsl.below hB
    clear hB hp hg hlsn
    by_cases hlt : k < l.length
    · by_cases h100 : k < 100
      · obtain ⟨b, o, rfl, hbl, c0, c1, c2, c3⟩ := hsl'.at k hlt
        have hsm := hsl'.small l[k] (List.getElem_mem hlt)
        have HS := (show Hid _ from runM_snoc l k hlt)
        have HGS := (show Hid _ from stepM_good (runM (l.take k)) l[k] HG.out)
        have HLS := (show Hid _ from stepM_lsn (runM (l.take k)) l[k] HL.out hsm.2.2)
        have FIN : Hid (∀ w', (∃ v, PgOk w' w.heap.size w.heap.size id (stepM (runM (l.take k)) l[k]).2 v (stepM (runM (l.take k)) l[k]).1) → Below w.heap.size w w' → ∃ k' : Nat, k' ≤ l.length ∧ k' ≤ 100 ∧ Value.int .i64 ((k : Int) + 1) = .int .i64 k' ∧ (∃ v, PgOk w' w.heap.size w.heap.size id (runM (l.take k')).2 v (runM (l.take k')).1) ∧ GoodL (runM (l.take k')).1 ∧ (runM (l.take k')).2 < 18446744073709551616 ∧ Below w.heap.size w w') := fun w' h1 h2 => ⟨k + 1, by omega, by omega, by simp, by rw [HS.out]; exact h1, by rw [HS.out]; exact HGS.out, by rw [HS.out]; exact HLS.out, h2⟩
        clear hsl' HS HGS HLS
        generalize hRe : runM (l.take k) = R at *
        obtain ⟨L, T⟩ := R
        simp only at HP HG HL
        generalize hoe : l[k] = op at *
        obtain ⟨kd, key, val, tm⟩ := op
        simp only at c0 c1 c2 c3 hsm
        by_cases hkd0 : kd = 0
        · subst hkd0
          go_wp2_with fail
          refine wp_region_quiet_tail 11 Try.mixed (by kernel_rfl) ?_
          simp only [List.take_succ_cons, List.take_zero, List.drop_succ_cons, List.drop_zero]
          repeat (go_big_quiet_step (fail))
          refine wpQuiet_nil ?_
          go_wp2_with fail
          refine Calls.mono (insert_any _ _ id T v L key val _ HP.out.drew HG.out hsm.1 hsm.2.1) ?_
          rintro e w2 ⟨rfl, v2, hp2, ht2, hf2⟩
          have HB2 := (show Hid _ from HB.out.drew.trans (HP.out.drew.touched ht2))
          have HP2 := (show Hid _ from hp2)
          clear hp2 ht2 c0 c1 c2 c3
          go_wp2_with fail
          go_roundw
          case rel => exact FIN.out _ ⟨_, HP2.out⟩ HB2.out
          case measure => first | omega | (simp only [intOf]; omega)
        by_cases hkd1 : kd = 1
        · subst hkd1
          go_wp2_with fail
          refine wp_region_quiet_tail 11 Try.mixed (by kernel_rfl) ?_
          simp only [List.take_succ_cons, List.take_zero, List.drop_succ_cons, List.drop_zero]
          repeat (go_big_quiet_step (fail))
          refine wpQuiet_nil ?_
          go_wp2_with fail
          refine Calls.mono (update_any _ _ id T v L key val _ HP.out.drew HG.out hsm.1 hsm.2.1) ?_
          rintro e w2 ⟨rfl, hp2, ht2⟩
          have HB2 := (show Hid _ from HB.out.drew.trans (HP.out.drew.touched ht2))
          have HP2 := (show Hid _ from hp2)
          clear hp2 ht2 c0 c1 c2 c3
          go_wp2_with fail
          go_roundw
          case rel => exact FIN.out _ ⟨_, HP2.out⟩ HB2.out
          case measure => first | omega | (simp only [intOf]; omega)
        by_cases hkd2 : kd = 2
        · subst hkd2
          go_wp2_with fail
          refine Calls.mono (delete_any _ _ id T v L key _ HP.out HG.out) ?_
          rintro e w2 ⟨rfl, v2, hp2, ht2, hf2⟩
          have HB2 := (show Hid _ from HB.out.trans (HP.out.touched ht2))
          have HP2 := (show Hid _ from hp2)
          clear hp2 ht2 c0 c1 c2 c3
          go_wp2_with fail
          go_roundw
          case rel => exact FIN.out _ ⟨_, HP2.out⟩ HB2.out
          case measure => first | omega | (simp only [intOf]; omega)
        by_cases hkd4 : kd = 4
        · subst hkd4
          go_wp2_with fail
          refine Calls.mono (stamp_any _ _ id T v L tm _ HP.out) ?_
          rintro e w2 ⟨rfl, hp2, ht2⟩
          have HB2 := (show Hid _ from HB.out.trans (HP.out.touched ht2))
          have HP2 := (show Hid _ from hp2)
          clear hp2 ht2 c0 c1 c2 c3
          go_wp2_with fail
          go_roundw
          case rel => exact FIN.out _ ⟨_, HP2.out⟩ HB2.out
          case measure => first | omega | (simp only [intOf]; omega)
        have n0 : (kd == 0) = false := by simp [hkd0]
        have n1 : (kd == 1) = false := by simp [hkd1]
        have n2 : (kd == 2) = false := by simp [hkd2]
        have n4 : (kd == 4) = false := by simp [hkd4]
        have HE : Hid (stepM (L, T) ⟨kd, key, val, tm⟩ = (L, T)) := by
          show _ = _
          simp [stepM, hkd0, hkd1, hkd2, hkd4]
        rw [HE.out] at FIN
        clear HE hkd0 hkd1 hkd2 hkd4
        go_wp2_with fail
        go_roundw
        case rel => exact FIN.out _ ⟨_, HP.out⟩ HB.out
        case measure => first | omega | (simp only [intOf]; omega)
      · obtain rfl : k = 100 := by omega
        go_wp2
        go_ret
        exact ⟨_, v, rfl, HP.out, HG.out, HL.out, HB.out⟩
    · have e : l.take 100 = l.take k := by rw [List.take_of_length_le (by omega), List.take_of_length_le (by omega)]
      go_wp2
      go_ret
      rw [e]
      exact ⟨_, v, rfl, HP.out, HG.out, HL.out, HB.out⟩

end Go.Proofs.Ytoahcihhpimmgaa
