/-
  put: a row with those behind it that there are.
-/
import Derived.Test.YtnejcjebepidcaaHIa
namespace Go.Proofs.Ytnejcjebepidcaa
open Go.RowKit

theorem Try.infoPI : (Try.prog.info? 83).map (fun i => (i.zero, i.size, i.bytes)) = some (some (.pointer none), 1, 8) := by kernel_rfl

set_option maxRecDepth 100000 in
set_option maxHeartbeats 4000000 in
theorem putI (B : Nat) (v : Value) (l : List Nat) (b o c : Nat) (m : List (Option Nat)) (w : World) (hv : w.ownsRow B 83 1 v l.length (ptrs l))
    (hm : ∀ j (hj : j < m.length), w.cell? ⟨b, o + j, none⟩ = some (.pointer (m[j].map fun x => ⟨x, 0, none⟩))) (hab : v.ownBlock ≠ some b) (hbl : m ≠ [] → b < w.heap.size) (hl : l.length + m.length ≤ 1000000) (hB : B ≤ w.heap.size) :
    Calls Try.prog 52 #[v, .slice (some ⟨b, o, none⟩) m.length c] w fun e w' => ∃ v', e = .returned v' ∧ w'.ownsRow B 83 1 v' (l ++ m.filterMap id).length (ptrs (l ++ m.filterMap id)) ∧ w.grownBy w' v.ownBlock ∧ Fresh w v v' := by
  obtain ⟨i0, hi0, hz0, hz1, hz2⟩ := info_parts Try.infoPI
  have HV := toHid <| hv
  have HM := toHid <| hm
  have HA := toHid <| hab
  clear hv hm hab
  go_enter Try.func52, Try.ntmps52
  go_wp2_with fail
  go_loopw [0, 9] (fun r k W => ∃ (i : Nat) (u : Value), i ≤ m.length ∧ k = .int .i64 i ∧ r = u ∧ W.ownsRow B 83 1 u (l ++ (m.take i).filterMap id).length (ptrs (l ++ (m.take i).filterMap id)) ∧ w.grownBy W v.ownBlock ∧ Fresh w v u) (fun _ k _ => m.length - (intOf k).toNat)
  case atStart => exact ⟨0, v, Nat.zero_le _, rfl, rfl, by simp only [List.take_zero, List.filterMap_nil, List.append_nil]; exact HV.out, grownBy_refl _ _, Fresh.refl _ _⟩
  case round =>
    obtain ⟨i, u, hi, rfl, hru, hu, hg, hf⟩ := hrel
    obtain rfl := hru.symm
    have HU := toHid <| hu
    have HG := toHid <| hg
    have HF := toHid <| hf
    clear hu hg hf
    have hfm : ((m.take i).filterMap id).length ≤ i := Nat.le_trans (List.length_filterMap_le _ _) (by simp; omega)
    by_cases hlt : i < m.length
    · have hlti : (i : Int) < (m.length : Int) := by omega
      have hc := HM.out i hlt
      rw [← World.cell?_of_block (w' := wr) (HG.out.block b (hbl (fun e => by simp [e] at hlt)) (fun e => HA.out e.symm))] at hc
      have htk : m.take (i + 1) = m.take i ++ [m[i]] := by rw [List.take_succ_eq_append_getElem hlt]
      have HTK : Hid (m.take (i + 1) = m.take i ++ [m[i]]) := htk
      clear htk
      rcases hmi : m[i] with _ | x
      · rw [hmi] at hc HTK
        clear hmi
        simp only [Option.map_none] at hc
        go_wp2_with fail
        go_roundw
        case rel => exact ⟨i + 1, u, by omega, by simp, rfl, by rw [HTK.out]; simp only [List.filterMap_append, List.filterMap_cons, List.filterMap_nil, id, List.append_nil]; exact HU.out, HG.out, HF.out⟩
        case measure => first | omega | (simp only [intOf]; omega)
      · rw [hmi] at hc HTK
        clear hmi
        simp only [Option.map_some] at hc
        have hsz := HG.out.size
        have HO0 := toHid <| World.ownsRow.alloc HU.out (.cells #[.pointer (some ⟨x, 0, none⟩)] 83)
        go_wp2_with (at_builtin; refine wpList_append_fresh _ rfl _ _ 80 rfl B 83 i0 _ 1 8 Try.underlying80 hi0 hz0 hz1 hz2 rfl (by decide) u _ (ptrs (l ++ (m.take i).filterMap id)) rfl HO0.out ⟨wr.heap.size, 0, none⟩ 1 1 (ptrs [x]) rfl rfl (fun j u hj => by rcases j with _ | j <;> simp [ptrs] at hj; subst hj; simp [go_sem]) (ptrs_one _) (by unfold maxLen; simp only [List.length_append]; omega) (by simp only [List.length_append]; omega) (by simp; omega) ?_; intro v' y1 hown hgrow hfr; have HOW := toHid <| hown; have HGW := toHid <| hgrow; have HFW := toHid <| hfr; clear hown hgrow hfr)
        go_roundw
        case rel =>
          refine ⟨i + 1, v', by omega, by simp, rfl, ?_, ?_, ?_⟩
          · rw [HTK.out]
            have := HOW.out
            rw [← ptrs_append] at this
            simp only [List.filterMap_append, List.filterMap_cons, List.filterMap_nil, id, ← List.append_assoc]
            rw [List.length_append (bs := [x])]
            exact this
          · exact grownBy_trans HG.out HF.out (grownBy_step (World.grownBy_alloc _ _ _) HGW.out)
          · exact HF.out.trans hsz (HFW.out.mono (by simp))
        case measure => first | omega | (simp only [intOf]; omega)
    · obtain rfl : i = m.length := by omega
      go_wp2
      go_ret
      exact ⟨u, rfl, by have := HU.out; rw [List.take_length, List.length_append] at this; exact this, HG.out, HF.out⟩

end Go.Proofs.Ytnejcjebepidcaa
