/-
  The document's book: New (11), SameOrders (30).
-/
import Derived.Test.YtdlanenbbmnbhaaEd
import Derived.Test.YtdlanenbbmnbhaaCn
namespace Go.Proofs.Ytdlanenbbmnbhaa
open Go.RowKit

def newP (fast : List Bool) (n : Nat) : List Pl := (List.range n).map fun i => ⟨⟨fast.getD i false, 0, false, false, []⟩, none, 0⟩
theorem newP_succ (fast : List Bool) (n : Nat) : newP fast (n + 1) = newP fast n ++ [⟨⟨fast.getD n false, 0, false, false, []⟩, none, 0⟩] := by simp [newP, List.range_succ]
theorem newP_len (fast : List Bool) (n : Nat) : (newP fast n).length = n := by simp [newP]
theorem newP_pls (fast : List Bool) (n : Nat) : pls (newP fast n) = newL n fast := by simp [pls, newP, newL]
theorem newD_no (n : Int) (a : Option Addr) (c : Nat) (fast : List Bool) (w : World) (h : newB n fast = false) :
    Calls Try.prog 11 #[.int .i64 n, .slice a fast.length c] w fun e w' => e = .returned (.tuple #[.slice none 0 0, .bool false]) ∧ w' = w := by
  by_cases h1 : n < 1
  · go_enter Try.func11, Try.ntmps11
    go_wp2
    exact bodyPost_ret (v := .tuple #[.slice none 0 0, .bool false]) (by simp [results, Try.results11, go_sem]) rfl ⟨rfl, rfl⟩
  · by_cases h2 : 16 < n
    · clear h
      go_enter Try.func11, Try.ntmps11
      go_wp2
      exact bodyPost_ret (v := .tuple #[.slice none 0 0, .bool false]) (by simp [results, Try.results11, go_sem]) rfl ⟨rfl, rfl⟩
    · have h3 : n < (fast.length : Int) := by simp [newB] at h; omega
      clear h
      go_enter Try.func11, Try.ntmps11
      go_wp2
      exact bodyPost_ret (v := .tuple #[.slice none 0 0, .bool false]) (by simp [results, Try.results11, go_sem]) rfl ⟨rfl, rfl⟩

def NewD (w : World) (m : Nat) (fast : List Bool) (e : Ending) (w' : World) : Prop := ∃ v L, e = .returned (.tuple #[v, .bool true]) ∧ Dl w' v L ∧ pls L = newL m fast ∧ Below w.heap.size w w'
set_option maxHeartbeats 2000000 in
theorem newD_yes (m : Nat) (a : Option Addr) (c : Nat) (fast : List Bool) (w : World) (h1 : 1 ≤ m) (h2 : m ≤ 16) (h3 : fast.length ≤ m) (hf : SlB w a fast) :
    Calls Try.prog 11 #[.int .i64 (m : Int), .slice a fast.length c] w fun e w' => NewD w m fast e w' := by
  have HF := toHid hf
  have h3' : ¬ (m : Int) < (fast.length : Int) := by omega
  clear hf
  go_enter Try.func11, Try.ntmps11
  go_wp2_with fail
  go_loopw [6, 7] (fun u i W => ∃ n : Nat, n ≤ m ∧ i = .int .i64 n ∧ W.ownsRow w.heap.size 65 5 u n (plVs (newP fast n)) ∧ Below w.heap.size w W) (fun _ i _ => m - (intOf i).toNat)
  case atStart => exact ⟨0, Nat.zero_le _, rfl, World.ownsRow_nil _ _ _ _, Below.refl _ _⟩
  case round =>
    obtain ⟨n, hn, rfl, hown, hb⟩ := hrel
    have HO := toHid hown
    have HB := toHid hb
    obtain ⟨ua, uc, rfl⟩ := own_shape hown
    have hsz := hb.size
    by_cases hlt : n < m
    · have hrun := fun (f : Bool) => run_pl (wr.alloc (.cells (plA ⟨⟨f, 0, false, false, []⟩, none, 0⟩) 65)) 29 w.heap.size (.slice ua n uc) (newP fast n) n (newP_len fast n).symm (own_below hown ((Below.refl _ _).alloc (Nat.le_refl _) _)) (by simp; omega) (some ⟨wr.heap.size, 0, none⟩) 1 1 [⟨⟨f, 0, false, false, []⟩, none, 0⟩] rfl (fun e => by cases e) (fun b hb j u hu => by cases hb; exact one_cells _ j u hu) (by omega)
      have HRun := toHid hrun
      by_cases hfl : n < fast.length
      · obtain ⟨b, o, rfl, e0⟩ := (HF.out.below hb).at_ n hfl
        have HG := toHid (show fast.getD n false = fast[n] by rw [List.getD_eq_getElem?_getD, List.getElem?_eq_getElem hfl, Option.getD_some])
        generalize fast[n] = f at *
        clear hown hb hrun
        go_wp2_with (at_builtin; go_must (
          obtain ⟨v2, w2, hr, r1, r2⟩ := HRun.out f
          simp only [plA, List.length_nil] at hr
          refine wpList_of_run rfl (.tmp 25) (.tmp 37) 29 rfl rfl rfl hr ?_
          have HR := toHid r1
          have HBx := toHid (grown_low ((HB.out.mono (Nat.le_refl _)).alloc hsz (.cells (plA ⟨⟨f, 0, false, false, []⟩, none, 0⟩) 65)) (by simp; omega) (own_below HO.out ((Below.refl _ _).alloc (Nat.le_refl _) _)) r2)
          clear r1 r2 hr))
        go_roundw
        case rel => exact ⟨n + 1, by omega, by simp, by rw [newP_succ, HG.out]; exact HR.out, HBx.out⟩
        case measure => simp only [intOf]; omega
      · have HG := toHid (show fast.getD n false = false by rw [List.getD_eq_getElem?_getD, List.getElem?_eq_none (by omega), Option.getD_none])
        clear hown hb hrun
        go_wp2_with (at_builtin; go_must (
          obtain ⟨v2, w2, hr, r1, r2⟩ := HRun.out false
          simp only [plA, List.length_nil] at hr
          refine wpList_of_run rfl (.tmp 25) (.tmp 37) 29 rfl rfl rfl hr ?_
          have HR := toHid r1
          have HBx := toHid (grown_low ((HB.out.mono (Nat.le_refl _)).alloc hsz (.cells (plA ⟨⟨false, 0, false, false, []⟩, none, 0⟩) 65)) (by simp; omega) (own_below HO.out ((Below.refl _ _).alloc (Nat.le_refl _) _)) r2)
          clear r1 r2 hr))
        go_roundw
        case rel => exact ⟨n + 1, by omega, by simp, by rw [newP_succ, HG.out]; exact HR.out, HBx.out⟩
        case measure => simp only [intOf]; omega
    · obtain rfl : n = m := by omega
      have HX := toHid (show NewD w n fast (.returned (.tuple #[.slice ua n uc, .bool true])) wr from ⟨_, newP fast n, rfl, ⟨by rw [newP_len]; exact own_base hown (Nat.zero_le _), fun t ht => by
        simp only [newP, List.mem_map] at ht
        obtain ⟨i, -, rfl⟩ := ht
        exact ⟨SlI.nil _ _, by simp, fun _ => rfl⟩⟩, newP_pls fast n, hb⟩)
      clear hown hb
      go_wp2
      exact bodyPost_ret (v := .tuple #[.slice ua n uc, .bool true]) (by simp [results, Try.results11, go_sem]) rfl HX.out

set_option maxHeartbeats 1000000 in
theorem same30 {w : World} {va vb : Option Addr} {c d : Nat} {l : List Od} (h : SlD w va l) (hm : SlD w vb l) (hl : l.length ≤ 1000000) :
    Calls Try.prog 30 #[.slice va l.length c, .slice vb l.length d] w fun e w' => e = .returned (.bool true) ∧ Below w.heap.size w w' := by
  have HR := toHid h
  have HM := toHid hm
  clear h hm
  go_enter Try.func30, Try.ntmps30
  go_wp2_with fail
  go_loopw [5] (fun k W => ∃ i : Nat, i ≤ l.length ∧ k = .int .i64 i ∧ Hid (Below w.heap.size w W)) (fun k _ => l.length - (intOf k).toNat)
  case atStart => exact ⟨0, Nat.zero_le _, rfl, toHid (Below.refl _ _)⟩
  case round =>
    obtain ⟨i, hi, rfl, HB⟩ := hrel
    by_cases hlt : i < l.length
    · obtain ⟨g, og, rfl, -, c0, c1, c2, c3, c4⟩ := (HR.out.below HB.out).at i hlt
      obtain ⟨g', og', rfl, -, d0, d1, d2, d3, d4⟩ := (HM.out.below HB.out).at i hlt
      generalize l[i] = y at *
      go_wp2_with fail
      go_quiet (fail)
      go_wp2
      go_roundw
      case rel => exact ⟨i + 1, by omega, by simp, toHid (below_drewN HB.out _)⟩
      case measure => first | omega | (simp only [intOf]; omega)
    · obtain rfl : i = l.length := by omega
      go_wp2
      go_ret
      exact ⟨rfl, HB.out⟩
end Go.Proofs.Ytdlanenbbmnbhaa
