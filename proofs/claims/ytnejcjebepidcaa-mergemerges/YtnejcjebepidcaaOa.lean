/-
  The walk of given.
-/
import Derived.Test.YtnejcjebepidcaaTa
import Derived.Test.YtnejcjebepidcaaRd
namespace Go.Proofs.Ytnejcjebepidcaa
open Go.RowKit

def noId (id : Int) (r : Rc) : Prop := ∀ t, t ∈ r.txns → t.id ≠ id

theorem SlT.get {w : World} {a : Option Addr} {l : List Tx} (h : SlT w a l) (i : Nat) (hi : i < l.length) : ∃ b o, a = some ⟨b, o, none⟩ ∧ w.cell? ⟨b, o + i * 3, none⟩ = some (.int .i64 l[i].id) := by
  cases a with
  | none => have := h.nonil rfl; subst this; simp at hi
  | some x =>
    obtain ⟨b, o, sp⟩ := x
    obtain ⟨h0, h1, _⟩ := h.cells _ rfl i _ (List.getElem?_eq_getElem hi)
    simp only at h0 h1
    subst h0
    exact ⟨b, o, rfl, h1⟩

set_option maxRecDepth 100000 in
set_option maxHeartbeats 8000000 in
theorem given32 (a : Option Addr) (c : Nat) (logs : List (List Rc)) (id : Int) (w : World) (hL : SlL w a logs) (hl : logs.length ≤ 1000) (hl2 : ∀ q, q ∈ logs → q.length ≤ 100000 ∧ ∀ r, r ∈ q → Lim r) :
    Calls Try.prog 32 #[.slice a logs.length c, .int .i64 id] w fun e w' => ∃ b, e = .returned (.bool b) ∧ (b = false → ∀ q, q ∈ logs → ∀ r, r ∈ q → noId id r) ∧ ∃ n, w' = w.drewN n := by
  have HL := toHid hL
  have HW := toHid hl2
  clear hL hl2
  go_enter Try.func32, Try.ntmps32
  go_wp2_with fail
  go_loopw [5] (fun k W => ∃ i : Nat, i ≤ logs.length ∧ k = .int .i64 i ∧ (∀ j, (hj : j < logs.length) → j < i → ∀ r, r ∈ logs[j] → noId id r) ∧ ∃ n, W = w.drewN n) (fun k _ => logs.length - (intOf k).toNat)
  case atStart => exact ⟨0, Nat.zero_le _, rfl, fun j _ hj => by omega, 0, rfl⟩
  case round =>
    obtain ⟨i, hi, rfl, h1, n, rfl⟩ := hrel
    have H1 := toHid h1
    clear h1
    by_cases hlt : i < logs.length
    · obtain ⟨b, o, la, lc, rfl, c0, hs, -⟩ := HL.out.get i hlt
      have hi1 : (i : Int) < (logs.length : Int) := by omega
      have hi2 : 0 ≤ (i : Int) := by omega
      obtain ⟨hql, hqr⟩ := HW.out logs[i] (List.getElem_mem hlt)
      have HS := toHid hs
      have HQ := toHid hqr
      clear hs hqr
      go_wp2_with fail
      go_loopw [6] (fun k W => ∃ j : Nat, j ≤ logs[i].length ∧ k = .int .i64 j ∧ (∀ m, (hm : m < logs[i].length) → m < j → noId id logs[i][m]) ∧ ∃ n, W = w.drewN n) (fun k _ => logs[i].length - (intOf k).toNat)
      case atStart => exact ⟨0, Nat.zero_le _, rfl, fun j _ hj => by omega, n, rfl⟩
      case round =>
        obtain ⟨j, hj, rfl, h2, n2, rfl⟩ := hrel
        have H2 := toHid h2
        clear h2
        by_cases hjl : j < logs[i].length
        · obtain ⟨b1, o1, rfl, _⟩ := HS.out.there (by omega)
          obtain ⟨p1, h12, hri⟩ := HS.out.get j hjl
          have d10 := h12.2.2.2.2.2.2.2.2.2.2.1
          have hlm := (HQ.out logs[i][j] (List.getElem_mem hjl)).1
          have HRI := toHid hri
          have hj1 : (j : Int) < (logs[i].length : Int) := by omega
          have hj2 : 0 ≤ (j : Int) := by omega
          clear h12 hri
          go_wp2_with fail
          go_loopw [7] (fun k W => ∃ t : Nat, t ≤ logs[i][j].txns.length ∧ k = .int .i64 t ∧ (∀ m, (hm : m < logs[i][j].txns.length) → m < t → logs[i][j].txns[m].id ≠ id) ∧ ∃ n, W = w.drewN n) (fun k _ => logs[i][j].txns.length - (intOf k).toNat)
          case atStart => exact ⟨0, Nat.zero_le _, rfl, fun j _ hj => by omega, n2, rfl⟩
          case round =>
            obtain ⟨t, ht, rfl, h3, n3, rfl⟩ := hrel
            have H3 := toHid h3
            clear h3
            by_cases htl : t < logs[i][j].txns.length
            · obtain ⟨b2, o2, hta, ct⟩ := HRI.out.t.get t htl
              obtain ⟨pta, ptc, pda, pdc⟩ := p1
              simp only at hta d10
              subst hta
              have ht1 : (t : Int) < (logs[i][j].txns.length : Int) := by omega
              have ht2 : 0 ≤ (t : Int) := by omega
              by_cases he : logs[i][j].txns[t].id = id
              · have q1 : (logs[i][j].txns[t].id == id) = true := by simp [he]
                clear he
                go_wp2
                go_ret
                exact ⟨true, rfl, by simp, _, rfl⟩
              · have q1 : (logs[i][j].txns[t].id == id) = false := by simp [he]
                have HE := toHid he
                clear he
                go_wp2_with fail
                go_roundw
                case rel => exact ⟨t + 1, by omega, by go_num, fun m hm hmt => by
                  by_cases e : m = t
                  · subst e; exact HE.out
                  · exact H3.out m hm (by omega), _, rfl⟩
                case measure => simp [intOf]; omega
            · obtain rfl : t = logs[i][j].txns.length := by omega
              go_wp2_with fail
              go_roundw
              case rel => exact ⟨j + 1, by omega, by go_num, fun m hm hmj => by
                by_cases e : m = j
                · subst e
                  intro x hx
                  obtain ⟨k, hk, rfl⟩ := List.getElem_of_mem hx
                  exact H3.out k hk hk
                · exact H2.out m hm (by omega), _, rfl⟩
              case measure => simp [intOf]; omega
        · obtain rfl : j = logs[i].length := by omega
          go_wp2_with fail
          go_roundw
          case rel => exact ⟨i + 1, by omega, by go_num, fun m hm hmi r hr => by
            by_cases e : m = i
            · subst e
              obtain ⟨k, hk, rfl⟩ := List.getElem_of_mem hr
              exact H2.out k hk hk
            · exact H1.out m hm (by omega) r hr, _, rfl⟩
          case measure => simp [intOf]; omega
    · obtain rfl : i = logs.length := by omega
      go_wp2
      go_ret
      exact ⟨false, rfl, fun _ q hq r hr => by
        obtain ⟨k, hk, rfl⟩ := List.getElem_of_mem hq
        exact H1.out k hk hk r hr, _, rfl⟩

end Go.Proofs.Ytnejcjebepidcaa
