/-
  A frame is made into its record again; one that is cut ends too early. Bytes of a text.
-/
import Derived.Test.YtjhjicokbdloiaaUn
import Derived.Test.YtjhjicokbdloiaaBp
namespace Go.Proofs.Ytjhjicokbdloiaa
open Go.RowKit

theorem openB_seal (l : List UInt8) : openB (sealB l) = (l, 0) := by
  have hl : (sealB l).length = l.length + 4 := sealB_length l
  unfold openB
  rw [if_neg (by omega), hl, Nat.add_sub_cancel]
  have h1 : (sealB l).drop l.length = leB (more 0 l) 4 := by unfold sealB; exact List.drop_left' rfl
  have h2 : (sealB l).take l.length = l := by unfold sealB; exact List.take_left' rfl
  rw [h1, h2, if_pos]
  rw [leN_leB]
  exact Nat.mod_eq_of_lt (more_lt 0 l)

theorem dec_may (r : Rc) (hm : mayB r = true) : decK (encB r) = true ∧ decR (encB r) = r ∧ decE (encB r) = 0 := by
  have h : rawS (encB r, 0) = (([], 0), r) := raw_back r hm
  have hk : decK (encB r) = true := by
    unfold decK endB
    rw [h, hm]
    rfl
  refine ⟨hk, ?_, ?_⟩
  · unfold decR
    rw [hk, h]
    rfl
  · unfold decE
    rw [hk]
    rfl

theorem unf_back (r : Rc) (hm : mayB r = true) (rest : List UInt8) : unf (frameB r ++ rest) = (r, (frameB r).length, 0) := by
  obtain ⟨h1, h2, h3⟩ := dec_may r hm
  have hL := (encB_length r hm).2
  have hF := frameB_length r
  have hh : leB (encB r).length 2 = (frameB r ++ rest).take 2 := by
    have e : frameB r ++ rest = leB (encB r).length 2 ++ (encB r ++ (leB (more 0 (leB (encB r).length 2 ++ encB r)) 4 ++ rest)) := by
      unfold frameB sealB
      simp [List.append_assoc]
    rw [e]
    exact (List.take_left' (leB_length _ _)).symm
  have hv : leV ((frameB r ++ rest).take 2) = (encB r).length := by
    rw [← hh, leV_leB]
    exact Nat.mod_eq_of_lt (by omega)
  unfold unf
  rw [hv]
  have ht : (frameB r ++ rest).take ((encB r).length + 6) = frameB r := List.take_left' hF
  rw [if_neg (by rw [List.length_append]; omega), if_neg (by rw [List.length_append]; omega), ht]
  have ho : openB (frameB r) = (leB (encB r).length 2 ++ encB r, 0) := openB_seal _
  rw [ho]
  have hd : (leB (encB r).length 2 ++ encB r).drop 2 = encB r := List.drop_left' (leB_length _ _)
  simp only [hd, if_true, h1, h2, h3, hF]

theorem unf_cut (r : Rc) (hm : mayB r = true) (k : Nat) (hk : k < (frameB r).length) : unf ((frameB r).take k) = (Rc.zero, 0, 4) := by
  have hL := (encB_length r hm).2
  have hF := frameB_length r
  have hl : ((frameB r).take k).length = k := by simp; omega
  by_cases h2 : k < 2
  · unfold unf
    rw [if_pos (by omega)]
  · have hh : ((frameB r).take k).take 2 = leB (encB r).length 2 := by
      rw [List.take_take, Nat.min_eq_left (by omega)]
      have e : frameB r = leB (encB r).length 2 ++ (encB r ++ leB (more 0 (leB (encB r).length 2 ++ encB r)) 4) := by
        unfold frameB sealB
        simp [List.append_assoc]
      rw [e]
      exact List.take_left' (leB_length _ _)
    have hv : leV (((frameB r).take k).take 2) = (encB r).length := by
      rw [hh, leV_leB]
      exact Nat.mod_eq_of_lt (by omega)
    unfold unf
    rw [if_neg (by omega), hv, if_pos (by omega)]

/-- What a conversion of a text to bytes lays. -/
theorem bytes_of (w : World) (l : List UInt8) : ∃ c W, (convert 9 34 (.string (txt l))).run Try.prog w = .ok (.slice (some ⟨w.heap.size, 0, none⟩) l.length c) W ∧
    SlB W (some ⟨w.heap.size, 0, none⟩) l ∧ l.length ≤ c ∧ Below w.heap.size w W := by
  have h := run_bytes_of_string (P := Try.prog) w 9 34 5 (txt l) Try.underlying9 Try.underlying34 Try.underlying5
  have hg := grownCap_ge w l.length 0 5
  rw [txt_size] at h
  generalize grownCap w l.length 0 5 = cap1 at *
  have hrow : ∀ j (hj : j < l.length), (bytesRow (txt l) cap1)[j]? = some (.int .u8 (l[j].toNat : Int)) := by
    intro j hj
    simp [bytesRow, txt, Array.getElem?_append, hj]
  have hblk : (w.drew.alloc (.cells (bytesRow (txt l) cap1) 5 ((bytesRow (txt l) cap1).size, (bytesRow (txt l) cap1).size + 1))).heap[w.heap.size]? = some (.cells (bytesRow (txt l) cap1) 5 ((bytesRow (txt l) cap1).size, (bytesRow (txt l) cap1).size + 1)) := heap_alloc_new w.drew _
  refine ⟨cap1, _, h, ⟨fun h => by simp at h, fun x hx j u hu => ?_⟩, hg, (Below.refl _ _).drew.alloc (Nat.le_refl _) _⟩
  simp at hx
  subst hx
  have hj : j < l.length := by have := (List.getElem?_eq_some_iff.1 hu).1; simpa [bcells] using this
  have e : (⟨w.heap.size, 0, none⟩ : Addr).add j = ⟨w.heap.size, j, none⟩ := by unfold Addr.add; split <;> simp_all
  rw [e]
  simp [bcells, List.getElem?_eq_getElem hj] at hu
  subst hu
  simp only [World.cell?, hblk]
  rw [hrow j hj]
  rfl

/-- The chapter's example. -/
def exR : Rc := ⟨3, 33, 7, 17, 0, 0, 0, [], [], [], [], []⟩
theorem exR_may : mayB exR = true := by decide +kernel
theorem exR_enc : encB exR = [3, 33, 0, 0, 0, 0, 0, 0, 0, 7, 0, 0, 0, 17, 0, 0, 0, 0, 0, 0, 0] := by decide +kernel
theorem exR_len : (frameB exR).length = 27 := by rw [frameB_length, exR_enc]; rfl

set_option maxRecDepth 20000 in
set_option maxHeartbeats 1000000 in
theorem lives_any (w : World) : Calls Try.prog 10 #[] w fun e w' => e = .returned (.bool true) ∧ Below w.heap.size w w' := by
  have HE : Hid (∀ W, Calls Try.prog 11 #[.agg #[.int .i64 3, .int .u64 33, .int .i64 7, .int .u64 17, .int .u64 0, .int .i64 0, .int .i64 0, .string ⟨#[]⟩, .string ⟨#[]⟩, .string ⟨#[]⟩, .slice none 0 0, .slice none 0 0]] W fun e w' => ∃ g c, e = .returned (.tuple #[.slice (some ⟨g, 0, none⟩) 21 c, .int .i64 0]) ∧ w'.cell? ⟨g, 0, none⟩ = some (.int .u8 3) ∧ g < w'.heap.size ∧ Below W.heap.size W w') := by
    intro W
    have h := encode_any exR none 0 none 0 W ⟨fun _ => rfl, fun x hx => by simp at hx⟩ ⟨fun _ => rfl, fun x hx => by simp at hx⟩ (by decide) (by decide)
    refine Calls.mono h ?_
    rintro e w' ⟨v, rfl, hown, hb⟩
    rw [show outB exR = encB exR by unfold outB; rw [exR_may]; rfl, exR_enc] at hown
    rw [exR_may]
    rcases hown.2 with ⟨rfl, h0⟩ | ⟨g, cap, cur, rfl, _, hh, _⟩
    · simp at h0
    · refine ⟨g, cap, rfl, ?_, lt_of_block hh, hb⟩
      have := hown.cells (g := g) rfl 0 (.int .u8 3) (by rfl)
      simpa [Addr.add] using this
  have HF : Hid (∀ W, Calls Try.prog 17 #[.agg #[.int .i64 3, .int .u64 33, .int .i64 7, .int .u64 17, .int .u64 0, .int .i64 0, .int .i64 0, .string ⟨#[]⟩, .string ⟨#[]⟩, .string ⟨#[]⟩, .slice none 0 0, .slice none 0 0]] W fun e w' => e = .returned (.string (txt (frameB exR))) ∧ Below W.heap.size W w') := by
    intro W
    exact refframe_of exR none 0 none 0 W (by rw [exR_enc]; decide) (fun W' _ => bytes_plain exR none 0 none 0 W' (mayP exR exR_may) rfl rfl)
  have hu : unf (frameB exR) = (exR, 27, 0) := by
    have := unf_back exR exR_may []
    rwa [List.append_nil, exR_len] at this
  have hl := exR_len
  go_enter Try.func10, Try.ntmps10
  go_wp2_with fail
  refine (HE.out _).mono ?_
  rintro e w1 ⟨g, c, rfl, hc0, hg, hb1⟩
  have hk1 : w1.heap[w.heap.size]? = some (.cells #[.int .i64 3, .int .u64 33, .int .i64 7, .int .u64 17, .int .u64 0, .int .i64 0, .int .i64 0, .string ⟨#[]⟩, .string ⟨#[]⟩, .string ⟨#[]⟩, .slice none 0 0, .slice none 0 0] 31) := box_kept hb1
  obtain ⟨⟨q0, q1, q2, q3, q4, q5, q6, q7, q8, q9, q10, q11⟩, _⟩ := rw_cells hk1
  have hz1 := lt_of_block hk1
  have hB1 : Below w.heap.size w w1 := ((Below.refl _ _).alloc (Nat.le_refl _) _).trans (hb1.mono (by simp))
  clear hb1 hk1
  go_wp2_with fail
  refine (HF.out _).mono ?_
  rintro e w2 ⟨rfl, hb2⟩
  obtain ⟨cc, W3, hcv, hsl, hcc, hb3⟩ := bytes_of w2 (frameB exR)
  have HUn := (show Hid _ from unframe_any _ cc (frameB exR) W3 hsl (by omega) hcc (by simp))
  rw [hu] at HUn
  have hB3 : Below w.heap.size w W3 := below_on (below_on hB1 hb2) hb3
  have hc3 : W3.cell? ⟨g, 0, none⟩ = some (.int .u8 3) := by
    rw [hb3.cell (by have := hb2.size; show g < _; omega), hb2.cell (by exact hg)]
    exact hc0
  have hg3 : g < W3.heap.size := World.block_lt_of_cell? _ _ hc3
  clear q0 q1 q2 q3 q4 q5 q6 q7 q8 q9 q10 q11 hc0 hb2 hb3 hB1 hsl hu
  go_wp2_with fail
  refine Calls.mono HUn.out ?_
  rintro e w4 ⟨ta, tc, da, dc, rfl, _, _, hb4⟩
  have hB4 := below_on hB3 hb4
  have hc4 : w4.cell? ⟨g, 0, none⟩ = some (.int .u8 3) := by
    rw [hb4.cell (by exact hg3)]
    exact hc3
  have hg4 : g < w4.heap.size := World.block_lt_of_cell? _ _ hc4
  clear hc3 HUn hcv
  unfold exR
  go_wp2
  go_ret
  exact ⟨rfl, hB4.alloc hB4.size _⟩

end Go.Proofs.Ytjhjicokbdloiaa
