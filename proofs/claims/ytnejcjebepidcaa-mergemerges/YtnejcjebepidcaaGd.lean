/-
  The walks of changes and Last, the program's and the document's.
-/
import Derived.Test.YtnejcjebepidcaaRd
import Derived.Lib.MinMax
namespace Go.Proofs.Ytnejcjebepidcaa
open Go.RowKit

/-- Is a record a change of a page? -/
def chgB (r : Rc) (page : Int) : Bool := (r.kind == 1 || r.kind == 2) && r.page == page
def lastS (page : Int) (m : Nat) (r : Rc) : Nat := if chgB r page then max m r.lsn else m
def lastL (l : List Rc) (page : Int) : Nat := l.foldl (lastS page) 0
theorem last_take {l : List Rc} {page : Int} {k : Nat} (h : k < l.length) : lastL (l.take (k + 1)) page = lastS page (lastL (l.take k) page) l[k] := by
  unfold lastL
  rw [List.take_succ_eq_append_getElem h, List.foldl_append]
  rfl

theorem changes41 (r : Rc) (p : Pl) (page : Int) (w : World) : Calls Try.prog 41 #[recV r p, .int .i64 page] w fun e w' => e = .returned (.bool (chgB r page)) ∧ Below w.heap.size w w' := by
  have HB := toHid (show Below w.heap.size w (w.alloc (.cells (recC r p) 46)) from (Below.refl _ _).alloc (Nat.le_refl _) _)
  obtain ⟨k1, hk1⟩ : ∃ b, (r.kind == 1) = b := ⟨_, rfl⟩
  obtain ⟨k2, hk2⟩ : ∃ b, (r.kind == 2) = b := ⟨_, rfl⟩
  obtain ⟨k3, hk3⟩ : ∃ b, (r.page == page) = b := ⟨_, rfl⟩
  have HC := toHid (show chgB r page = ((k1 || k2) && k3) by unfold chgB; rw [hk1, hk2, hk3])
  rw [HC.out]
  cases k1 <;> cases k2 <;> cases k3
  all_goals
    go_enter Try.func41, Try.ntmps41
    go_wp2
    go_ret
    exact ⟨rfl, HB.out⟩

set_option maxRecDepth 100000 in
set_option maxHeartbeats 8000000 in
theorem last21 (a : Option Addr) (c : Nat) (l : List Rc) (page : Int) (w : World) (hL : SlR w a l) (hl : l.length ≤ 100000) :
    Calls Try.prog 21 #[.slice a l.length c, .int .i64 page] w fun e w' => e = .returned (.int .u64 (lastL l page : Int)) ∧ Below w.heap.size w w' := by
  have HL := toHid hL
  clear hL
  go_enter Try.func21, Try.ntmps21
  go_wp2_with fail
  go_loopw [5, 10] (fun x k W => ∃ i m : Nat, i ≤ l.length ∧ k = .int .i64 i ∧ x = .int .u64 (m : Int) ∧ m = lastL (l.take i) page ∧ Below w.heap.size w W) (fun _ k _ => l.length - (intOf k).toNat)
  case atStart => exact ⟨0, 0, Nat.zero_le _, rfl, rfl, rfl, Below.refl _ _⟩
  case round =>
    obtain ⟨i, m, hi, rfl, rfl, hm, hbw⟩ := hrel
    have HM := toHid hm
    have HBw := toHid hbw
    clear hm hbw
    by_cases hlt : i < l.length
    · obtain ⟨b, o, rfl, _⟩ := HL.out.there (by omega)
      obtain ⟨pl, h12, -⟩ := (HL.out.below HBw.out).get i hlt
      obtain ⟨d0, d1, d2, d3, d4, d5, d6, d7, d8, d9, d10, d11⟩ := h12
      have hi1 : (i : Int) < (l.length : Int) := by omega
      have hi2 : 0 ≤ (i : Int) := by omega
      have HC := toHid (changes41 l[i] pl page (wr.alloc (.cells (recC l[i] pl) 46)))
      have HT := toHid (last_take (page := page) hlt)
      have HBx := toHid (show Below wr.heap.size wr (wr.alloc (.cells (recC l[i] pl) 46)) from (Below.refl _ _).alloc (Nat.le_refl _) _)
      have HNx := toHid (heap_alloc_new wr (.cells (recC l[i] pl) 46))
      go_wp2_with fail
      refine Calls.mono HC.out ?_
      rintro e w2 ⟨rfl, hb2⟩
      have hbx := (hb2.block wr.heap.size (by simp)).trans HNx.out
      obtain ⟨t0, t1, t2, t3, t4, t5, t6, t7, t8, t9, t10, t11, tf⟩ := cell12 hbx
      have HB2 := toHid (HBw.out.trans ((HBx.out.trans (hb2.mono (by simp))).mono HBw.out.size))
      clear hb2 hbx HC d0 d1 d2 d3 d4 d5 d6 d7 d8 d9 d10 d11
      cases hcb : chgB l[i] page
      · have HS := toHid (show lastS page m l[i] = m by simp [lastS, hcb])
        clear hcb
        go_wp2_with fail
        go_roundw
        case rel => exact ⟨i + 1, m, by omega, by go_num, rfl, by rw [HT.out, ← HM.out, HS.out], HB2.out⟩
        case measure => simp [intOf]; omega
      · have HS := toHid (show lastS page m l[i] = max m l[i].lsn by simp [lastS, hcb])
        clear hcb
        go_wp2_with fail
        go_roundw
        case rel => exact ⟨i + 1, max m l[i].lsn, by omega, by go_num, by first | rfl | go_num | (congr 1; omega), by rw [HT.out, ← HM.out, HS.out], HB2.out⟩
        case measure => simp [intOf]; omega
    · obtain rfl : i = l.length := by omega
      have HE := toHid (show m = lastL l page by rw [HM.out, List.take_length])
      go_wp2
      go_ret
      exact ⟨by rw [HE.out]; rfl, HBw.out⟩

set_option maxRecDepth 100000 in
set_option maxHeartbeats 8000000 in
theorem last22 (a : Option Addr) (c : Nat) (l : List Rc) (page : Int) (w : World) (hL : SlR w a l) (hl : l.length ≤ 100000) :
    Calls Try.prog 22 #[.slice a l.length c, .int .i64 page] w fun e w' => e = .returned (.int .u64 (lastL l page : Int)) ∧ Below w.heap.size w w' := by
  have HL := toHid hL
  clear hL
  go_enter Try.func22, Try.ntmps22
  go_wp2_with fail
  go_loopw [5, 6] (fun x k W => ∃ i m : Nat, i ≤ l.length ∧ k = .int .i64 i ∧ x = .int .u64 (m : Int) ∧ m = lastL (l.take i) page ∧ Below w.heap.size w W) (fun _ k _ => l.length - (intOf k).toNat)
  case atStart => exact ⟨0, 0, Nat.zero_le _, rfl, rfl, rfl, Below.refl _ _⟩
  case round =>
    obtain ⟨i, m, hi, rfl, rfl, hm, hbw⟩ := hrel
    have HM := toHid hm
    have HBw := toHid hbw
    clear hm hbw
    by_cases hlt : i < l.length
    · obtain ⟨b, o, rfl, _⟩ := HL.out.there (by omega)
      obtain ⟨pl, h12, -⟩ := (HL.out.below HBw.out).get i hlt
      obtain ⟨d0, d1, d2, d3, d4, d5, d6, d7, d8, d9, d10, d11⟩ := h12
      have hi1 : (i : Int) < (l.length : Int) := by omega
      have hi2 : 0 ≤ (i : Int) := by omega
      have HT := toHid (last_take (page := page) hlt)
      have HBx := toHid (HBw.out.trans ((show Below wr.heap.size wr (wr.alloc (.cells (recC l[i] pl) 46)) from (Below.refl _ _).alloc (Nat.le_refl _) _).mono HBw.out.size))
      obtain ⟨k1, hk1⟩ : ∃ b, (l[i].kind == 1) = b := ⟨_, rfl⟩
      obtain ⟨k2, hk2⟩ : ∃ b, (l[i].kind == 2) = b := ⟨_, rfl⟩
      obtain ⟨k3, hk3⟩ : ∃ b, (l[i].page == page) = b := ⟨_, rfl⟩
      have HC := toHid (show chgB l[i] page = ((k1 || k2) && k3) by unfold chgB; rw [hk1, hk2, hk3])
      by_cases hgt : m < l[i].lsn
      · have g1 : (m : Int) < (l[i].lsn : Int) := by omega
        have HS := toHid (show lastS page m l[i] = if ((k1 || k2) && k3) = true then l[i].lsn else m by unfold lastS; rw [HC.out, Nat.max_eq_right (by omega)])
        clear HC
        cases k1 <;> cases k2 <;> cases k3
        all_goals
          go_wp2_with fail
          go_roundw
          case rel => exact ⟨i + 1, _, by omega, by go_num, rfl, by rw [HT.out, ← HM.out, HS.out]; rfl, HBx.out⟩
          case measure => simp [intOf]; omega
      · have g1 : ¬ (m : Int) < (l[i].lsn : Int) := by omega
        have HS := toHid (show lastS page m l[i] = m by unfold lastS; rw [Nat.max_eq_left (by omega)]; split <;> rfl)
        clear HC
        cases k1 <;> cases k2 <;> cases k3
        all_goals
          go_wp2_with fail
          go_roundw
          case rel => exact ⟨i + 1, _, by omega, by go_num, rfl, by rw [HT.out, ← HM.out, HS.out], HBx.out⟩
          case measure => simp [intOf]; omega
    · obtain rfl : i = l.length := by omega
      have HE := toHid (show m = lastL l page by rw [HM.out, List.take_length])
      go_wp2
      go_ret
      exact ⟨by rw [HE.out]; rfl, HBw.out⟩

end Go.Proofs.Ytnejcjebepidcaa
