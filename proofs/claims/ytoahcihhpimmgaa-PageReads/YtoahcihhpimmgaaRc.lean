/-
  Whether slots are the same.
-/
import Derived.Test.YtoahcihhpimmgaaRa
namespace Go.Proofs.Ytoahcihhpimmgaa
open Go.RowKit

theorem Try.held65 : Try.prog.stoodInHeld 65 = false := by kernel_rfl
theorem Try.struct65 : Try.prog.underlying 65 = some (.struct (Try.prog.fieldsOf 65)) := by kernel_rfl
theorem Try.guard65 : Try.prog.eqGuardType Try.prog.depth 65 = false := by kernel_rfl

theorem cl_eq (a a' : Bool) (k v k' v' : ByteArray) (w : World) :
    (Op.equalIn 10000 65 (.agg #[.bool a, .string k, .string v]) (.agg #[.bool a', .string k', .string v'])).run Try.prog w = .ok ((a == a') && ((k.toList == k'.toList) && (v.toList == v'.toList))) w := by
  rw [show (10000 : Nat) = 9999 + 1 from rfl, run_equalIn_struct w 9999 65 _ _ Try.struct65 Try.held65]
  simp [Program.fieldsOf, Try.underlying65, Op.eqFields, go_sem]
  repeat' split
  all_goals simp_all
theorem cl_same (t u : Cl) (w : World) :
    (Op.equalIn 10000 65 (.agg #[.bool t.used, .string (txt t.key), .string (txt t.val)]) (.agg #[.bool u.used, .string (txt u.key), .string (txt u.val)])).run Try.prog w = .ok (decide (t = u)) w := by
  rw [cl_eq]
  congr 1
  obtain ⟨a, b, c⟩ := t
  obtain ⟨a', b', c'⟩ := u
  simp only [txt_toList]
  rw [Bool.eq_iff_iff]
  simp
theorem take_eq_succ {α : Type} (l m : List α) (k : Nat) (hl : k < l.length) (hm : k < m.length) (h : l.take k = m.take k) (e : l[k] = m[k]) : l.take (k + 1) = m.take (k + 1) := by
  rw [List.take_succ_eq_append_getElem hl, List.take_succ_eq_append_getElem hm, h, e]
theorem below_drewN' {B : Nat} {w W : World} (h : Below B w W) (n : Nat) : Below B w (W.drewN n) := by
  induction n with
  | zero => exact h
  | succ n ih => exact ih.drew

set_option maxRecDepth 20000 in
set_option maxHeartbeats 1000000 in
theorem samecells_any (a : Option Addr) (c : Nat) (l : List Cl) (a2 : Option Addr) (c2 : Nat) (m : List Cl) (w : World) (h : SlC w a l) (h2 : SlC w a2 m) (hl : l.length ≤ 1000000) (hm : m.length ≤ 1000000) :
    Calls Try.prog 22 #[.slice a l.length c, .slice a2 m.length c2] w fun e w' => e = .returned (.bool (decide (l = m))) ∧ Below w.heap.size w w' := by
  by_cases hlen : l.length = m.length
  · rw [← hlen]
    go_enter Try.func22, Try.ntmps22
    go_wp2_with fail
    go_loopw [5] (fun i wr => ∃ k : Nat, k ≤ l.length ∧ i = .int .i64 k ∧ l.take k = m.take k ∧ Below w.heap.size w wr) (fun i _ => l.length - (intOf i).toNat)
    case atStart => exact ⟨0, Nat.zero_le _, rfl, by simp, Below.refl _ _⟩
    case round =>
      obtain ⟨k, hk, rfl, htk, hB⟩ := hrel
      have HTK := (show Hid _ from htk)
      have HB := (show Hid _ from hB)
      have hsl := h.below hB
      have hsm := h2.below hB
      clear htk
      by_cases hlt : k < l.length
      · have hlm : k < m.length := by omega
        obtain ⟨b, o, rfl, hbl, c0, c1, c2'⟩ := hsl.at k hlt
        obtain ⟨b2, o2, rfl, hbl2, d0, d1, d2⟩ := hsm.at k hlm
        clear hB
        have hlm' : (k : Int) < (l.length : Int) := by omega
        have e1 := txt_toList
        have hE := cl_same l[k] m[k]
        have hge := Try.guard65
        by_cases heq : l[k] = m[k]
        · rw [decide_eq_true heq] at hE
          have HQ := (show Hid _ from take_eq_succ l m k hlt hlm HTK.out heq)
          clear heq e1
          go_wp2_with fail
          go_quiet (fail)
          go_wp2
          go_roundw
          case rel => exact ⟨k + 1, by omega, by simp, HQ.out, below_drewN' HB.out _⟩
          case measure => first | omega | (simp only [intOf]; omega)
        · rw [decide_eq_false heq] at hE
          have HQ : Hid (decide (l = m) = false) := by
            show _ = _
            exact decide_eq_false (fun e => heq (by subst e; rfl))
          clear heq e1
          go_wp2_with fail
          go_quiet (fail)
          go_wp2
          go_ret
          exact ⟨by rw [HQ.out]; rfl, below_drewN' HB.out _⟩
      · obtain rfl : k = l.length := by omega
        have : l = m := by
          have := HTK.out
          rw [List.take_length, List.take_of_length_le (by omega)] at this
          exact this
        go_wp2
        go_ret
        exact ⟨by simp [this], hB⟩
  · have hne : ¬ l = m := fun e => hlen (by rw [e])
    have hb : ((l.length : Int) == (m.length : Int)) = false := by simp; omega
    go_enter Try.func22, Try.ntmps22
    go_wp2
    go_ret
    exact ⟨by simp [hne], Below.refl _ _⟩

end Go.Proofs.Ytoahcihhpimmgaa
