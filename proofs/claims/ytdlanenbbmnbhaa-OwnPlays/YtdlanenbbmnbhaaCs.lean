/-
  Of the document's: Same and Has of numbers.
-/
import Derived.Test.YtdlanenbbmnbhaaCb
namespace Go.Proofs.Ytdlanenbbmnbhaa
open Go.RowKit

theorem same24 {w : World} {va vb : Option Addr} {c d : Nat} {l m : List Int} (h : SlI w va l) (hm : SlI w vb m) (hl : l.length ≤ 1000000) (hl2 : m.length ≤ 1000000) :
    Calls Try.prog 24 #[.slice va l.length c, .slice vb m.length d] w fun e w' => e = .returned (.bool (decide (l = m))) ∧ Below w.heap.size w w' := by
  have HR := toHid h
  have HM := toHid hm
  clear h hm
  by_cases hlen : l.length = m.length
  · rw [← hlen]
    go_enter Try.func24, Try.ntmps24
    go_wp2_with fail
    go_loopw [5] (fun k W => ∃ i : Nat, i ≤ l.length ∧ k = .int .i64 i ∧ Hid (l.take i = m.take i) ∧ Hid (Below w.heap.size w W)) (fun k _ => l.length - (intOf k).toNat)
    case atStart => exact ⟨0, Nat.zero_le _, rfl, toHid (by simp), toHid (Below.refl _ _)⟩
    case round =>
      obtain ⟨i, hi, rfl, HN, HB⟩ := hrel
      by_cases hlt : i < l.length
      · obtain ⟨g, og, rfl, -, c0⟩ := (HR.out.below HB.out).at i hlt
        have hlt2 : i < m.length := by omega
        obtain ⟨g', og', rfl, -, d0⟩ := (HM.out.below HB.out).at i hlt2
        obtain ⟨y, hy⟩ : ∃ y, l[i] = y := ⟨_, rfl⟩
        obtain ⟨z, hz⟩ : ∃ z, m[i] = z := ⟨_, rfl⟩
        rw [hy] at c0
        rw [hz] at d0
        have HT : Hid (l.take (i + 1) = l.take i ++ [y]) := by show _ = _; rw [← hy, List.take_succ_eq_append_getElem hlt]
        have HT2 : Hid (m.take (i + 1) = m.take i ++ [z]) := by show _ = _; rw [← hz, List.take_succ_eq_append_getElem hlt2]
        have HLL := toHid hlen
        have HNE : Hid (y ≠ z → l ≠ m) := fun e e1 => e (by subst e1; rw [← hy, ← hz])
        clear hy hz hlen
        have hq1 : (i : Int) < (l.length : Int) := by omega
        have hq2 : 0 ≤ (i : Int) := by omega
        by_cases he : y = z
        · subst he
          go_wp2_with fail
          go_region
          go_wp2
          go_roundw
          case rel => exact ⟨i + 1, by omega, by simp, toHid (by rw [HT.out, HT2.out, HN.out]), toHid HB.out.drew⟩
          case measure => first | omega | (simp only [intOf]; omega)
        · go_wp2_with fail
          go_region
          go_wp2
          go_ret
          exact ⟨by rw [decide_eq_false (HNE.out he)]; rfl, HB.out.drew⟩
      · obtain rfl : i = l.length := by omega
        have heq : l = m := by have := HN.out; rw [List.take_length, hlen, List.take_length] at this; exact this
        have HEQ := toHid heq
        clear heq hlen
        go_wp2
        go_ret
        exact ⟨by rw [decide_eq_true HEQ.out]; rfl, HB.out⟩
  · have hne : l ≠ m := fun e => hlen (by rw [e])
    have hlen' : (l.length : Int) ≠ (m.length : Int) := by omega
    rw [decide_eq_false hne]
    go_enter Try.func24, Try.ntmps24
    go_wp2
    go_ret
    exact ⟨rfl, Below.refl _ _⟩

theorem has25 {w : World} {a : Option Addr} {c : Nat} {l : List Int} {k : Int} (h : SlI w a l) (hl : l.length ≤ 1000000) :
    Calls Try.prog 25 #[.slice a l.length c, .int .i64 k] w fun e w' => e = .returned (.bool (decide (k ∈ l))) ∧ w' = w := by
  have HS := toHid h
  clear h
  go_enter Try.func25, Try.ntmps25
  go_wp2_with fail
  go_loopw [5] (fun i wr => ∃ n : Nat, n ≤ l.length ∧ i = .int .i64 n ∧ (∀ j (hj : j < l.length), j < n → l[j] ≠ k) ∧ wr = w) (fun i _ => l.length - (intOf i).toNat)
  case atStart => exact ⟨0, Nat.zero_le _, rfl, fun j _ hj => absurd hj (by omega), rfl⟩
  case round =>
    obtain ⟨n, hn, rfl, hup, rfl⟩ := hrel
    have HU := toHid hup
    clear hup
    by_cases hlt : n < l.length
    · obtain ⟨b, o, rfl, hbl, c0⟩ := HS.out.at n hlt
      by_cases hp : l[n] = k
      · have HP : Hid (k ∈ l) := toHid (hp ▸ List.getElem_mem hlt)
        rw [hp] at c0
        clear hp
        go_wp2
        go_ret
        exact ⟨by simp [HP.out], rfl⟩
      · go_wp2_with fail
        go_roundw
        case rel =>
          refine ⟨n + 1, by omega, by simp, fun j hj hjn => ?_, by first | rfl | trivial⟩
          by_cases e : j = n
          · subst e; exact hp
          · exact HU.out j hj (by omega)
        case measure => first | omega | (simp only [intOf]; omega)
    · obtain rfl : n = l.length := by omega
      have HN : Hid (k ∉ l) := toHid fun e => by
        obtain ⟨j, hj, e1⟩ := List.getElem_of_mem e
        exact HU.out j hj hj e1
      go_wp2
      go_ret
      exact ⟨by simp [HN.out], rfl⟩
end Go.Proofs.Ytdlanenbbmnbhaa
