/-
  The walk of MergeBack.
-/
import Derived.Test.YtnejcjebepidcaaFd
import Derived.Test.YtnejcjebepidcaaTb
namespace Go.Proofs.Ytnejcjebepidcaa
open Go.RowKit

/-- One log in a row. -/
theorem slL_one (w : World) (a : Option Addr) (c : Nat) (l : List Rc) (h : SlR w a l) (hc : l.length ≤ c) : SlL (w.alloc (.cells #[.slice a l.length c] 26)) (some ⟨w.heap.size, 0, none⟩) [l] := by
  refine ⟨fun e => by simp at e, fun x hx i q hq => ?_⟩
  simp at hx
  subst hx
  rcases i with _ | i
  · simp at hq
    subst hq
    exact ⟨rfl, a, c, by unfold World.cell?; simp only [heap_alloc_new]; rfl, h.below ((Below.refl _ _).alloc (Nat.le_refl _) _), hc⟩
  · simp at hq

/-- Records of which each leads to the one behind it. -/
def Lk (l : List Rc) : List Rc → Nat → Prop
  | [], want => want = 0
  | r :: s, want => r.lsn = want ∧ r.prev < want ∧ r ∈ l ∧ Lk l s r.prev
theorem chain_lk (l : List Rc) : ∀ f at_, at_ < f → (chainF l f at_).2 = 0 → Lk l (chainF l f at_).1 at_ := by
  intro f
  induction f with
  | zero => intro at_ h; omega
  | succ f ih =>
    intro at_ hf h
    simp only [chainF] at h ⊢
    by_cases h0 : at_ = 0
    · rw [if_pos h0]; exact h0
    · rw [if_neg h0] at h ⊢
      cases hfi : findL l at_ with
      | none => rw [hfi] at h; simp at h
      | some r =>
        rw [hfi] at h
        simp only at h ⊢
        by_cases hp : at_ ≤ r.prev
        · rw [if_pos hp] at h; simp at h
        · rw [if_neg hp] at h ⊢
          unfold comb at h ⊢
          by_cases he : (chainF l f r.prev).2 = 0
          · rw [if_pos he]
            have h1 : r.lsn = at_ := by have := List.find?_some hfi; simpa using this
            have h2 : r ∈ l := List.mem_of_find?_eq_some hfi
            exact ⟨h1, by omega, h2, ih r.prev (by omega) he⟩
          · rw [if_neg he] at h; exact absurd h he
theorem chainR_lk {l : List Rc} {at_ : Nat} (h : (chainR l at_).2 = 0) : risB l = true ∧ Lk l (chainR l at_).1 at_ := by
  unfold chainR at *
  by_cases hr : risB l = true
  · rw [if_pos hr] at h ⊢
    exact ⟨hr, chain_lk l _ _ (by omega) h⟩
  · rw [if_neg hr] at h; simp at h
theorem chainR_err {l : List Rc} {at_ : Nat} (h : (chainR l at_).2 ≠ 0) : (chainR l at_).1 = [] ∧ (at_ ≠ 0 ∨ risB l = false) := by
  unfold chainR at *
  by_cases hr : risB l = true
  · rw [if_pos hr] at h ⊢
    refine ⟨chain_err l _ _ h, .inl (fun e => ?_)⟩
    subst e
    rw [chainL_zero] at h
    simp at h
  · rw [if_neg hr]
    exact ⟨rfl, .inr (by simpa using hr)⟩
theorem Lk.drop {l out : List Rc} {want : Nat} (h : Lk l out want) : ∀ r s, out = r :: s → r.lsn = want ∧ r.prev < want ∧ r ∈ l ∧ Lk l s r.prev := fun r s e => by subst e; exact h
theorem ris_filter {l : List Rc} (h : risB l = true) (p : Rc → Bool) : risB (l.filter p) = true := by
  induction l with
  | nil => rfl
  | cons a r ih =>
    have hr := ih (ris_tail h)
    by_cases hp : p a = true
    · rw [List.filter_cons_of_pos hp]
      cases hf : r.filter p with
      | nil => rfl
      | cons b s =>
        rw [hf] at hr
        have hb : b ∈ r := (List.mem_filter.1 (by rw [hf]; simp : b ∈ r.filter p)).1
        have := ris_lt h b hb
        rw [risB, Bool.and_eq_true]
        exact ⟨by simpa using this, hr⟩
    · rw [List.filter_cons_of_neg hp]; exact hr
theorem comb_len (r : Rc) (x : List Rc × Int) : (comb [r] x).1.length ≤ x.1.length + 1 := by
  unfold comb
  split <;> simp <;> omega
theorem chainF_len (l : List Rc) : ∀ f at_, (chainF l f at_).1.length ≤ cnt l at_ := by
  intro f
  induction f with
  | zero => intro at_; simp [chainF]
  | succ f ih =>
    intro at_
    simp only [chainF]
    by_cases h0 : at_ = 0
    · rw [if_pos h0]; simp
    · rw [if_neg h0]
      cases hfi : findL l at_ with
      | none => simp
      | some r =>
        simp only
        by_cases hp : at_ ≤ r.prev
        · rw [if_pos hp]; simp
        · rw [if_neg hp]
          have h1 : r.lsn = at_ := by have := List.find?_some hfi; simpa using this
          have h2 : r ∈ l := List.mem_of_find?_eq_some hfi
          have h3 := cnt_lt h2 (p := r.prev) (by omega)
          have h4 := comb_len r (chainF l f r.prev)
          have h5 := ih r.prev
          rw [h1] at h3
          omega
theorem chainR_len (l : List Rc) (at_ : Nat) : (chainR l at_).1.length ≤ l.length := by
  unfold chainR
  split
  · exact Nat.le_trans (chainF_len l _ _) (cnt_le l _)
  · simp
theorem from_first {l : List Rc} {r : Rc} (hr : risB l = true) (hm : r ∈ l) : ∃ x s, fromL l r.lsn = x :: s ∧ x.lsn = r.lsn := by
  have h1 : r ∈ fromL l r.lsn := List.mem_filter.2 ⟨hm, by simp⟩
  cases hf : fromL l r.lsn with
  | nil => rw [hf] at h1; simp at h1
  | cons x s =>
    refine ⟨x, s, rfl, ?_⟩
    have hx : x ∈ fromL l r.lsn := by rw [hf]; simp
    have hx2 : r.lsn ≤ x.lsn := by have := (List.mem_filter.1 hx).2; simpa using this
    have hris : risB (fromL l r.lsn) = true := ris_filter hr _
    rw [hf] at h1 hris
    have := ris_head hris r h1
    omega

set_option maxRecDepth 100000 in
set_option maxHeartbeats 20000000 in
theorem back_walk (a : Option Addr) (c : Nat) (l : List Rc) (at_ : Nat) (w : World) (hL : SlR w a l) (hl : l.length ≤ 140737488355328) (hlc : l.length ≤ c) (hW : ∀ r, r ∈ l → Wd r) :
    Calls Try.prog 6 #[.slice a l.length c, .int .u64 (at_ : Int)] w fun e w' => e = .returned (.bool true) ∧ Below w.heap.size w w' := by
  have HL := toHid hL
  have HBa := toHid (show Below w.heap.size w (w.alloc (.cells #[.slice a l.length c] 26)) from (Below.refl _ _).alloc (Nat.le_refl _) _)
  have HS := toHid (small9 (some ⟨w.heap.size, 0, none⟩) 1 [l] (w.alloc (.cells #[.slice a l.length c] 26)) (slL_one w a c l hL hlc) (by simp) (fun q hq => by simp at hq; subst hq; exact ⟨hl, hW⟩))
  clear hL hW
  simp only [List.length_cons, List.length_nil, Nat.zero_add] at HS
  go_enter Try.func6, Try.ntmps6
  go_wp2_with fail
  refine Calls.mono HS.out ?_
  rintro e w1 ⟨b, rfl, hb, n1, rfl⟩
  obtain ⟨W1, hW1⟩ : ∃ W1, W1 = (w.alloc (.cells #[.slice a l.length c] 26)).drewN n1 := ⟨_, rfl⟩
  have HB0 := toHid (show Below w.heap.size w W1 from hW1 ▸ HBa.out.trans (below_drewN _ _ _))
  rw [← hW1]
  clear HS hW1 HBa
  cases b
  · go_wp2_with fail
    refine Calls.mono (lives10 _) ?_
    rintro e wl ⟨rfl, hbl⟩
    have HBL := toHid (HB0.out.trans (hbl.mono HB0.out.size))
    clear hbl
    go_wp2
    go_ret
    exact ⟨rfl, HBL.out⟩

  obtain ⟨-, htot⟩ := hb rfl
  have hfl : tot l ≤ 300 := by simpa using htot
  have hl3 : l.length ≤ 300 := Nat.le_trans (tot_len _) hfl
  have hlim : ∀ r, r ∈ l → Lim r := fun r hr => by have := tot_mem hr; simp only [wt] at this; exact ⟨by omega, by omega⟩
  have HLim := toHid hlim
  have HCh := toHid (chain19 a c l at_ W1 (HL.out.below HB0.out) (by omega) hlim)
  clear hb hlim htot hfl
  go_wp2_with fail
  refine Calls.mono HCh.out ?_
  rintro e w2 ⟨a1, c1, rfl, hall, hb2⟩
  have HB2 := toHid (HB0.out.trans (hb2.mono HB0.out.size))
  clear hb2 HCh
  by_cases he : (chainR l at_).2 = 0
  rotate_left
  · obtain ⟨h1, h2⟩ := chainR_err he
    have he2 : ((chainR l at_).2 != 0) = true := by simpa using he
    rw [h1] at hall ⊢
    generalize (chainR l at_).2 = er at *
    clear he h1 hall
    simp only [List.length_nil]
    by_cases h0 : at_ = 0
    · subst h0
      have hf : risB l = false := by rcases h2 with h | h; exact absurd rfl h; exact h
      have HRi := toHid (rises13 a c l w2 (HL.out.below HB2.out) (by omega))
      rw [hf] at HRi
      clear h2 hf
      go_wp2_with fail
      refine Calls.mono HRi.out ?_
      rintro e w3 ⟨rfl, n3, rfl⟩
      have HB3 := toHid (HB2.out.trans (below_drewN _ _ n3))
      go_wp2_with fail
      refine Calls.mono (lives10 _) ?_
      rintro e wl ⟨rfl, hbl⟩
      have HBL := toHid (HB3.out.trans (hbl.mono HB3.out.size))
      clear hbl
      go_wp2
      go_ret
      exact ⟨rfl, HBL.out⟩

    · have z1 : ((at_ : Int) != 0) = true := by simp; omega
      have z2 : (at_ != 0) = true := by simp [h0]
      clear h0 h2
      go_wp2_with fail
      refine Calls.mono (lives10 _) ?_
      rintro e wl ⟨rfl, hbl⟩
      have HBL := toHid (HB2.out.trans (hbl.mono HB2.out.size))
      clear hbl
      go_wp2
      go_ret
      exact ⟨rfl, HBL.out⟩

  obtain ⟨hris, hlk⟩ := chainR_lk he
  rw [he]
  have hol := chainR_len l at_
  obtain ⟨out, hout⟩ : ∃ out, (chainR l at_).1 = out := ⟨_, rfl⟩
  rw [hout] at hall hlk hol ⊢
  have HAl := toHid hall.slR
  have HLk := toHid hlk
  have HRs := toHid hris
  clear he hall hlk hris hout
  go_wp2_with fail
  go_loopw [7, 8] (fun x k W => ∃ (i want : Nat), i ≤ out.length ∧ k = .int .i64 i ∧ x = .int .u64 (want : Int) ∧ Lk l (out.drop i) want ∧ Below w2.heap.size w2 W) (fun _ k _ => out.length - (intOf k).toNat)
  case atStart => exact ⟨0, at_, Nat.zero_le _, rfl, rfl, by simpa using HLk.out, Below.refl _ _⟩
  case round =>
    obtain ⟨i, want, hi, rfl, rfl, hlk, hbw⟩ := hrel
    have HBw := toHid hbw
    have HBt := toHid (HB2.out.trans (hbw.mono HB2.out.size))
    clear hbw
    by_cases hlt : i < out.length
    · obtain ⟨h1, h2, h3, h4⟩ := hlk.drop out[i] (out.drop (i + 1)) (List.drop_eq_getElem_cons hlt)
      obtain ⟨b, o, rfl, _⟩ := HAl.out.there (by omega)
      obtain ⟨pl, h12, -⟩ := (HAl.out.below HBw.out).get i hlt
      have d1 := h12.2.1
      have d3 := h12.2.2.2.1
      obtain ⟨x, s, hfx, hxl⟩ := from_first HRs.out h3
      rw [h1] at d1 hfx hxl
      have hi1 : (i : Int) < (out.length : Int) := by omega
      have hi2 : 0 ≤ (i : Int) := by omega
      have q1 : ¬ (want : Int) ≤ (out[i].prev : Int) := by omega
      have q2 : decide ((want : Int) ≤ (out[i].prev : Int)) = false := by simp; omega
      have q3 : ((want : Int) != (want : Int)) = false := by simp
      have HLk4 := toHid h4
      have HFx := toHid hfx
      have HXl := toHid hxl
      have HF1 := toHid (from15 a c l want wr (HL.out.below HBt.out) (by omega) HLim.out)
      rw [hfx] at HF1
      clear hlk h1 h3 h4 h12 hfx hxl
      simp only [List.length_cons] at HF1
      go_wp2_with fail
      refine Calls.mono HF1.out ?_
      rintro e w3 ⟨a3, c3, rfl, -, hb3⟩
      have HB3 := toHid (HBt.out.trans (hb3.mono HBt.out.size))
      have HC3 := toHid (HBw.out.trans (hb3.mono HBw.out.size))
      have HF2 := toHid (from15 a c l want w3 (HL.out.below HB3.out) (by omega) HLim.out)
      rw [HFx.out] at HF2
      simp only [List.length_cons] at HF2
      have q4 : (((s.length : Int) + 1) == 0) = false := by simp; omega
      have d3' := d3
      clear hb3 HF1
      go_wp2_with fail
      refine Calls.mono HF2.out ?_
      rintro e w4 ⟨a4, c4, rfl, hal4, hb4⟩
      have hs4 := hal4.slR (c := c4)
      obtain ⟨b4, o4, rfl, _⟩ := hs4.there (by simp)
      obtain ⟨pl4, h124, -⟩ := hs4.get 0 (by simp)
      have e1 := h124.2.1
      simp only [List.getElem_cons_zero, Nat.zero_mul, Nat.add_zero] at e1
      rw [HXl.out] at e1
      have HC4 := toHid (HC3.out.trans (hb4.mono HC3.out.size))
      obtain ⟨pl5, h125, -⟩ := (HAl.out.below HC4.out).get i hlt
      have f3 := h125.2.2.2.1
      have q5 : (0 : Int) < (s.length : Int) + 1 := by omega
      clear hb4 HF2 hal4 hs4 h124 h125
      go_wp2_with fail
      go_roundw
      case rel => exact ⟨i + 1, out[i].prev, by omega, by go_num, rfl, HLk4.out, HC4.out⟩
      case measure => simp [intOf]; omega
    · obtain rfl : i = out.length := by omega
      have hw0 : want = 0 := by have := hlk; rw [List.drop_length] at this; exact this
      subst hw0
      clear hlk
      go_wp2_with fail
      refine Calls.mono (lives10 _) ?_
      rintro e wl ⟨rfl, hbl⟩
      have HBL := toHid (HBt.out.trans (hbl.mono HBt.out.size))
      clear hbl
      go_wp2
      go_ret
      exact ⟨rfl, HBL.out⟩

end Go.Proofs.Ytnejcjebepidcaa
