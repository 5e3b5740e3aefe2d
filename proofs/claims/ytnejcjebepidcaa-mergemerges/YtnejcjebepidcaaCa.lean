/-
  The walk of MergeChains.
-/
import Derived.Test.YtnejcjebepidcaaGc
import Derived.Test.YtnejcjebepidcaaGd
namespace Go.Proofs.Ytnejcjebepidcaa
open Go.RowKit

theorem chainF_sub (l : List Rc) : ∀ f at_, ∀ r, r ∈ (chainF l f at_).1 → r ∈ l := by
  intro f
  induction f with
  | zero => intro at_ r h; simp [chainF] at h
  | succ f ih =>
    intro at_ r h
    simp only [chainF] at h
    by_cases h0 : at_ = 0
    · rw [if_pos h0] at h; simp at h
    · rw [if_neg h0] at h
      cases hfi : findL l at_ with
      | none => rw [hfi] at h; simp at h
      | some x =>
        rw [hfi] at h
        simp only at h
        by_cases hp : at_ ≤ x.prev
        · rw [if_pos hp] at h; simp at h
        · rw [if_neg hp] at h
          unfold comb at h
          by_cases he : (chainF l f x.prev).2 = 0
          · rw [if_pos he] at h
            simp at h
            rcases h with rfl | h
            · exact List.mem_of_find?_eq_some hfi
            · exact ih _ r h
          · rw [if_neg he] at h; simp at h
theorem chainR_sub (l : List Rc) (at_ : Nat) : ∀ r, r ∈ (chainR l at_).1 → r ∈ l := by
  intro r h
  unfold chainR at h
  split at h
  · exact chainF_sub l _ _ r h
  · simp at h

set_option maxRecDepth 100000 in
set_option maxHeartbeats 20000000 in
theorem chains_walk (a : Option Addr) (c : Nat) (l : List Rc) (at_ : Nat) (page : Int) (w : World) (hL : SlR w a l) (hl : l.length ≤ 140737488355328) (hlc : l.length ≤ c) (hnil : a = none → c = 0) (hW : ∀ r, r ∈ l → Wd r) :
    Calls Try.prog 5 #[.slice a l.length c, .int .u64 (at_ : Int), .int .i64 page] w fun e w' => e = .returned (.bool true) ∧ Below w.heap.size w w' := by
  have HL := toHid hL
  have HNil := toHid hnil
  have HBa := toHid (show Below w.heap.size w (w.alloc (.cells #[.slice a l.length c] 26)) from (Below.refl _ _).alloc (Nat.le_refl _) _)
  have HS := toHid (small9 (some ⟨w.heap.size, 0, none⟩) 1 [l] (w.alloc (.cells #[.slice a l.length c] 26)) (slL_one w a c l hL hlc) (by simp) (fun q hq => by simp at hq; subst hq; exact ⟨hl, hW⟩))
  clear hL hW hnil
  simp only [List.length_cons, List.length_nil, Nat.zero_add] at HS
  go_enter Try.func5, Try.ntmps5
  go_wp2_with fail
  refine Calls.mono HS.out ?_
  rintro e w1 ⟨b, rfl, hb, n1, rfl⟩
  obtain ⟨W1, hW1⟩ : ∃ W1, W1 = (w.alloc (.cells #[.slice a l.length c] 26)).drewN n1 := ⟨_, rfl⟩
  have HB0 := toHid (show Below w.heap.size w W1 from hW1 ▸ HBa.out.trans (below_drewN _ _ _))
  rw [← hW1]
  clear HS hW1 HBa
  cases b
  · go_wp2_with fail
    refine Calls.mono (lives10 _) ?_
    rintro e wl ⟨rfl, hbl⟩
    have HBL := toHid (HB0.out.trans (hbl.mono HB0.out.size))
    clear hbl
    go_wp2
    go_ret
    exact ⟨rfl, HBL.out⟩

  obtain ⟨-, htot⟩ := hb rfl
  have hfl : tot l ≤ 300 := by simpa using htot
  have hl3 : l.length ≤ 300 := Nat.le_trans (tot_len _) hfl
  have hlim : ∀ r, r ∈ l → Lim r := fun r hr => by have := tot_mem hr; simp only [wt] at this; exact ⟨by omega, by omega⟩
  have HLim := toHid hlim
  have HC1 := toHid (copied11 a c l W1 (HL.out.below HB0.out) (by omega) HNil.out)
  clear hb hlim htot hfl
  go_wp2_with fail
  refine Calls.mono HC1.out ?_
  rintro e w2 ⟨a2, c2, rfl, hsh, hb2⟩
  have HB2 := toHid (HB0.out.trans (hb2.mono HB0.out.size))
  have HCh := toHid (chain19 a2 c2 l at_ w2 (hsh.slR hb2) (by omega) HLim.out)
  clear hsh hb2 HC1
  go_wp2_with fail
  refine Calls.mono HCh.out ?_
  rintro e w3 ⟨a3, c3, rfl, hall, hb3⟩
  have HB3 := toHid (HB2.out.trans (hb3.mono HB2.out.size))
  have HA3 := toHid hall
  have HRf := toHid (chain20 a c l at_ w3 (HL.out.below HB3.out) (by omega))
  clear hall hb3 HCh
  have hol := chainR_len l at_
  have HLo := toHid (fun r hr => HLim.out r (chainR_sub l at_ r hr))
  generalize chainR l at_ = cr at *
  obtain ⟨out, er⟩ := cr
  simp only at *
  go_wp2_with fail
  refine Calls.mono HRf.out ?_
  rintro e w4 ⟨a4, c4, rfl, hsh, hb4⟩
  have HB4 := toHid (HB3.out.trans (hb4.mono HB3.out.size))
  have HSm := toHid (same14 a3 c3 out a4 c4 out w4 (HA3.out.below hb4).slR (hsh.slR hb4) HLo.out HLo.out (by omega) (by omega))
  rw [decide_eq_true rfl] at HSm
  have hee : (er == er) = true := by simp
  clear hsh hb4 HRf
  go_wp2_with fail
  refine Calls.mono HSm.out ?_
  rintro e w5 ⟨rfl, hb5⟩
  have HB5 := toHid (HB4.out.trans (hb5.mono HB4.out.size))
  have HC5 := toHid (copied11 a c l w5 (HL.out.below HB5.out) (by omega) HNil.out)
  clear hb5 HSm hee
  go_wp2_with fail
  refine Calls.mono HC5.out ?_
  rintro e w6 ⟨a6, c6, rfl, hsh, hb6⟩
  have HB6 := toHid (HB5.out.trans (hb6.mono HB5.out.size))
  have HL6 := toHid (last21 a6 c6 l page w6 (hsh.slR hb6) (by omega))
  clear hsh hb6 HC5
  go_wp2_with fail
  refine Calls.mono HL6.out ?_
  rintro e w7 ⟨rfl, hb7⟩
  have HB7 := toHid (HB6.out.trans (hb7.mono HB6.out.size))
  have HL7 := toHid (last22 a c l page w7 (HL.out.below HB7.out) (by omega))
  clear hb7 HL6
  go_wp2_with fail
  refine Calls.mono HL7.out ?_
  rintro e w8 ⟨rfl, hb8⟩
  have HB8 := toHid (HB7.out.trans (hb8.mono HB7.out.size))
  clear hb8 HL7
  have hll : ((lastL l page : Int) == (lastL l page : Int)) = true := by simp
  go_wp2_with fail
  refine Calls.mono (lives10 _) ?_
  rintro e wl ⟨rfl, hbl⟩
  have HBL := toHid (HB8.out.trans (hbl.mono HB8.out.size))
  clear hbl
  go_wp2
  go_ret
  exact ⟨rfl, HBL.out⟩

end Go.Proofs.Ytnejcjebepidcaa
