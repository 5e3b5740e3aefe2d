/-
  quit and Fail.
-/
import Derived.Test.YtdlanenbbmnbhaaCh
namespace Go.Proofs.Ytdlanenbbmnbhaa
open Go.RowKit

def quN (l : List Lf) (k : Int) (n : Nat) : List Lf := l.mapIdx fun i x => if i < n then quitF k x else x
theorem quN_zero (l : List Lf) (k : Int) : quN l k 0 = l := by
  refine List.ext_getElem (by simp [quN]) fun i h1 h2 => ?_
  simp [quN]
theorem quN_len (l : List Lf) (k : Int) (n : Nat) : (quN l k n).length = l.length := by simp [quN]
theorem quN_at (l : List Lf) (k : Int) (n i : Nat) (hi : i < l.length) : (quN l k n)[i]'(by rw [quN_len]; exact hi) = if i < n then quitF k l[i] else l[i] := by simp [quN]
theorem quN_succ (l : List Lf) (k : Int) (n : Nat) (hn : n < l.length) : quN l k (n + 1) = (quN l k n).set n (quitF k l[n]) := by
  refine List.ext_getElem (by simp [quN]) fun i h1 h2 => ?_
  rw [quN_len] at h1
  rw [quN_at l k _ i h1, List.getElem_set, quN_at l k _ i h1]
  by_cases e : n = i
  · subst e; simp
  · rw [if_neg e]
    by_cases h : i < n
    · rw [if_pos h, if_pos (by omega)]
    · rw [if_neg h, if_neg (by omega)]
theorem quN_all (l : List Lf) (k : Int) : quN l k l.length = l.map (quitF k) := by
  refine List.ext_getElem (by simp [quN]) fun i h1 h2 => ?_
  rw [quN_len] at h1
  rw [quN_at l k _ i h1, if_pos h1, List.getElem_map]

set_option maxHeartbeats 4000000 in
theorem quit_any (p q : Nat) (l : List Lf) (k : Int) (w : World) (h : Bk w p q l) (hok : BkOk l) :
    Calls Try.prog 37 #[.pointer (some ⟨p, 0, none⟩), .int .i64 k] w fun e w' => e = .returned (.tuple #[]) ∧ Bk w' p q (l.map (quitF k)) ∧ One q w w' := by
  obtain ⟨c0, hc0⟩ := h.at
  have hm := h.most
  have HH := toHid h
  have HK := toHid hok
  have hlt0 := h.lt
  clear h hok
  go_enter Try.func37, Try.ntmps37
  go_wp2_with fail
  go_loopw [12] (fun i wr => ∃ n : Nat, n ≤ l.length ∧ i = .int .i64 n ∧ Bk wr p q (quN l k n) ∧ One q w wr) (fun i _ => l.length - (intOf i).toNat)
  case atStart => exact ⟨0, Nat.zero_le _, rfl, by rw [quN_zero]; exact HH.out, One.refl _ _⟩
  case round =>
    obtain ⟨n, hn, rfl, hb, ho⟩ := hrel
    have HO := toHid ho
    have HB := toHid hb
    clear ho
    by_cases hlt : n < l.length
    · have hn' : n < (quN l k n).length := by rw [quN_len]; exact hlt
      obtain ⟨c1, hc1⟩ := hb.at
      rw [quN_len] at hc1
      obtain ⟨a, c, -, -, -, -, -, p5, hs, hof, hc, hf⟩ := hb.page n hn'
      have e := quN_at l k n n hlt
      rw [if_neg (by omega)] at e
      rw [e] at p5 hs hc
      have hlen := (HK.out.at hlt).len
      have HW := toHid (without_any a c l[n].ws k wr.drew (hs.below (Below.refl _ _).drew) (by omega) hc)
      have HOf := toHid hof
      have hltr := hb.lt.2.1
      clear hb hs hof hc hf e
      go_wp2_with fail
      have hc1d : wr.drew.cell? ⟨p, 0, none⟩ = some (.slice (some ⟨q, 0, none⟩) l.length c1) := hc1
      go_region_with (first
        | (go_at_call 44; refine Calls.mono HW.out ?_; rintro e w2 ⟨⟨a', d, rfl, hs2, hd2, hw2⟩, hb2⟩; have HB2 := toHid (HB.out.drew.below hb2); have HO2 := toHid (HO.out.drew.trans (One.of hb2)); have hc2 := (HB2.out).at; rw [quN_len] at hc2; obtain ⟨c2, hc2⟩ := hc2; obtain ⟨a9, c9, -, -, -, -, -, q5, -, -, -, hf2⟩ := HB2.out.page n hn'; have f5 := hf2 (n * 6 + 5); have HS2 := toHid hs2; have HD2 := toHid hd2; have HW2 := toHid hw2; clear hs2 hd2 hw2 hb2 hf2))
      all_goals
        have HX : Hid (Bk (w2.setCell ⟨q, n * 6 + 5, none⟩ (.slice a' (l[n].ws.erase k).length d)) p q (quN l k (n + 1))) := by
          have hoq : ∀ y, a' = some y → y.block ≠ q := fun y hy => by
            rcases HW2.out y hy with h1 | ⟨z, hz, h1⟩
            · have h2 : wr.heap.size ≤ y.block := h1
              omega
            · rw [h1]; exact HOf.out z hz
          have q2 := HB2.out.setWaits n hn' (l[n].ws.erase k) a' d HS2.out hoq HD2.out
          have e2 : (quN l k n)[n]'hn' = l[n] := by rw [quN_at l k n n hlt]; simp
          rw [e2] at q2
          rw [quN_succ l k n hlt]
          exact q2
        have HY := toHid (HO2.out.set (n * 6 + 5) (.slice a' (l[n].ws.erase k).length d))
        go_wp2_with fail
        go_roundw
        case rel => exact ⟨n + 1, by omega, by simp, HX.out, HY.out⟩
        case measure => first | omega | (simp only [intOf]; omega)
    · obtain rfl : n = l.length := by omega
      rw [quN_all] at HB
      clear hb
      go_wp2
      go_end0
      exact ⟨rfl, HB.out, HO.out⟩
end Go.Proofs.Ytdlanenbbmnbhaa
