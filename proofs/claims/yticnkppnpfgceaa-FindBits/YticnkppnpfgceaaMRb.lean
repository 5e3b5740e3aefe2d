/-
  The walks of Rises, the program's and the document's.
-/
import Derived.Test.YticnkppnpfgceaaMRa
namespace Go.Proofs.Yticnkppnpfgceaa.Mg
open Go.RowKit

set_option maxHeartbeats 1000000 in
theorem rises12 (a : Option Addr) (c : Nat) (l : List Rc) (w : World) (h : SlR w a l) (hl : l.length ≤ 1000000000) :
    Calls Try.prog 37 #[.slice a l.length c] w fun e w' => e = .returned (.bool (risB l)) ∧ ∃ n, w' = w.drewN n := by
  have HS := toHid h
  clear h
  go_enter Try.func37, Try.ntmps37
  go_wp2_with fail
  go_loopw [3] (fun k W => ∃ i : Nat, i ≤ l.length ∧ k = .int .i64 ((i : Int) + 1) ∧ (∀ j, (hj : j + 1 < l.length) → j < i → l[j].lsn < l[j + 1].lsn) ∧ ∃ n, W = w.drewN n) (fun k _ => l.length + 1 - (intOf k).toNat)
  case atStart => exact ⟨0, Nat.zero_le _, rfl, fun j _ hj => by omega, 0, rfl⟩
  case round =>
    obtain ⟨i, hi, rfl, hok, n, rfl⟩ := hrel
    have HOK := toHid hok
    clear hok
    by_cases hlt : i + 1 < l.length
    · obtain ⟨b, o, rfl, hb⟩ := HS.out.there (by omega)
      obtain ⟨p, h1, -⟩ := HS.out.get i (by omega)
      obtain ⟨p', h1', -⟩ := HS.out.get (i + 1) hlt
      have c0 := h1.2.1
      have c1 := h1'.2.1
      have e1 : (i : Int) + 1 < (l.length : Int) := by omega
      have e2 : (i : Int) < (l.length : Int) := by omega
      have e3 : 0 ≤ (i : Int) := by omega
      have e4 : 0 ≤ (i : Int) + 1 := by omega
      clear h1 h1'
      by_cases hle : l[i].lsn < l[i + 1].lsn
      · have q1 : decide ((l[i + 1].lsn : Int) ≤ (l[i].lsn : Int)) = false := by simp; omega
        have q2 : ¬ l[i + 1].lsn ≤ l[i].lsn := by omega
        have HL := toHid hle
        clear hle
        go_wp2_with fail
        go_quiet (fail)
        go_wp2
        go_roundw
        case rel => exact ⟨i + 1, by omega, by go_num, fun j hj hji => by
          by_cases e : j = i
          · subst e; exact HL.out
          · exact HOK.out j hj (by omega), _, rfl⟩
        case measure => simp [intOf]; omega
      · have q1 : decide ((l[i + 1].lsn : Int) ≤ (l[i].lsn : Int)) = true := by simp; omega
        have q2 : l[i + 1].lsn ≤ l[i].lsn := by omega
        have HL := toHid (risB_false hlt hle)
        clear hle
        go_wp2_with fail
        go_quiet (fail)
        go_wp2
        go_ret
        exact ⟨by rw [HL.out]; rfl, _, World.drewN_drewN _ _ _⟩
    · have HT := toHid ((risB_iff l).2 (fun j hj => HOK.out j hj (by omega)))
      have e1 : ¬ (i : Int) + 1 < (l.length : Int) := by omega
      go_wp2
      go_ret
      exact ⟨by rw [HT.out]; rfl, _, rfl⟩

set_option maxHeartbeats 1000000 in
theorem rises13 (a : Option Addr) (c : Nat) (l : List Rc) (w : World) (h : SlR w a l) (hl : l.length ≤ 1000000000) :
    Calls Try.prog 25 #[.slice a l.length c] w fun e w' => e = .returned (.bool (risB l)) ∧ ∃ n, w' = w.drewN n := by
  have HS := toHid h
  clear h
  go_enter Try.func25, Try.ntmps25
  go_wp2_with fail
  go_loopw [3] (fun k W => ∃ i : Nat, i ≤ l.length ∧ k = .int .i64 ((i : Int) + 1) ∧ (∀ j, (hj : j + 1 < l.length) → j < i → l[j].lsn < l[j + 1].lsn) ∧ ∃ n, W = w.drewN n) (fun k _ => l.length + 1 - (intOf k).toNat)
  case atStart => exact ⟨0, Nat.zero_le _, rfl, fun j _ hj => by omega, 0, rfl⟩
  case round =>
    obtain ⟨i, hi, rfl, hok, n, rfl⟩ := hrel
    have HOK := toHid hok
    clear hok
    by_cases hlt : i + 1 < l.length
    · obtain ⟨b, o, rfl, hb⟩ := HS.out.there (by omega)
      obtain ⟨p, h1, -⟩ := HS.out.get i (by omega)
      obtain ⟨p', h1', -⟩ := HS.out.get (i + 1) hlt
      have c0 := h1.2.1
      have c1 := h1'.2.1
      have e1 : (i : Int) + 1 < (l.length : Int) := by omega
      have e2 : (i : Int) < (l.length : Int) := by omega
      have e3 : 0 ≤ (i : Int) := by omega
      have e4 : 0 ≤ (i : Int) + 1 := by omega
      clear h1 h1'
      by_cases hle : l[i].lsn < l[i + 1].lsn
      · have q1 : decide ((l[i + 1].lsn : Int) ≤ (l[i].lsn : Int)) = false := by simp; omega
        have q2 : ¬ l[i + 1].lsn ≤ l[i].lsn := by omega
        have HL := toHid hle
        clear hle
        go_wp2_with fail
        go_quiet (fail)
        go_wp2
        go_roundw
        case rel => exact ⟨i + 1, by omega, by go_num, fun j hj hji => by
          by_cases e : j = i
          · subst e; exact HL.out
          · exact HOK.out j hj (by omega), _, rfl⟩
        case measure => simp [intOf]; omega
      · have q1 : decide ((l[i + 1].lsn : Int) ≤ (l[i].lsn : Int)) = true := by simp; omega
        have q2 : l[i + 1].lsn ≤ l[i].lsn := by omega
        have HL := toHid (risB_false hlt hle)
        clear hle
        go_wp2_with fail
        go_quiet (fail)
        go_wp2
        go_ret
        exact ⟨by rw [HL.out]; rfl, _, World.drewN_drewN _ _ _⟩
    · have HT := toHid ((risB_iff l).2 (fun j hj => HOK.out j hj (by omega)))
      have e1 : ¬ (i : Int) + 1 < (l.length : Int) := by omega
      go_wp2
      go_ret
      exact ⟨by rw [HT.out]; rfl, _, rfl⟩

end Go.Proofs.Yticnkppnpfgceaa.Mg
