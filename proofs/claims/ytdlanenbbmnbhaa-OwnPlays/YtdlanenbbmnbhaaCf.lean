/-
  Need, Back, Mend.
-/
import Derived.Test.YtdlanenbbmnbhaaCe
namespace Go.Proofs.Ytdlanenbbmnbhaa
open Go.RowKit

/-- What a call leaves: an error's number, orders, the book. -/
def Ans (p q : Nat) (w : World) (r : List Lf × List Od × Int) (e : Ending) (w' : World) : Prop := (∃ v, e = .returned (.tuple #[v, .int .i64 r.2.2]) ∧ OrdR w w' v r.2.1) ∧ Bk w' p q r.1 ∧ One q w w'
theorem Ans.err {p q : Nat} {w : World} {l : List Lf} (h : Bk w p q l) (n : Int) : Ans p q w (l, [], n) (.returned (.tuple #[.slice none 0 0, .int .i64 n])) w :=
  ⟨⟨_, rfl, none, 0, rfl, SlD.nil _ _, fun x e => by simp at e⟩, h, One.refl _ _⟩

theorem need_nil (pg k : Int) (w : World) : Calls Try.prog 14 #[.pointer none, .int .i64 pg, .int .i64 k] w fun e w' => e = .returned (.tuple #[.slice none 0 0, .int .i64 1]) ∧ w' = w := by
  have HA := toHid (at_nil pg w)
  go_enter Try.func14, Try.ntmps14
  go_wp2_with fail
  refine Calls.mono HA.out ?_
  rintro e w1 ⟨rfl, hw⟩
  obtain rfl := hw.symm
  clear HA
  go_wp2
  exact bodyPost_ret (v := .tuple #[.slice none 0 0, .int .i64 1]) (by simp [results, Try.results14, go_sem]) rfl ⟨rfl, rfl⟩
theorem back_nil (pg k : Int) (w : World) : Calls Try.prog 15 #[.pointer none, .int .i64 pg, .int .i64 k] w fun e w' => e = .returned (.tuple #[.slice none 0 0, .int .i64 1]) ∧ w' = w := by
  have HA := toHid (at_nil pg w)
  go_enter Try.func15, Try.ntmps15
  go_wp2_with fail
  refine Calls.mono HA.out ?_
  rintro e w1 ⟨rfl, hw⟩
  obtain rfl := hw.symm
  clear HA
  go_wp2
  exact bodyPost_ret (v := .tuple #[.slice none 0 0, .int .i64 1]) (by simp [results, Try.results15, go_sem]) rfl ⟨rfl, rfl⟩
theorem mend_nil (pg : Int) (w : World) : Calls Try.prog 17 #[.pointer none, .int .i64 pg] w fun e w' => e = .returned (.tuple #[.slice none 0 0, .int .i64 1]) ∧ w' = w := by
  have HA := toHid (at_nil pg w)
  go_enter Try.func17, Try.ntmps17
  go_wp2_with fail
  refine Calls.mono HA.out ?_
  rintro e w1 ⟨rfl, hw⟩
  obtain rfl := hw.symm
  clear HA
  go_wp2
  exact bodyPost_ret (v := .tuple #[.slice none 0 0, .int .i64 1]) (by simp [results, Try.results17, go_sem]) rfl ⟨rfl, rfl⟩

theorem need_arg {l : List Lf} {pg k : Int} (h : ¬ (pageB l pg = true ∧ instB k = true)) : needL l pg k = (l, [], 1) := by unfold needL; rw [if_pos h]
theorem need_twice {l : List Lf} {i : Nat} {k : Int} (hi : i < l.length) (hk : instB k = true) (h : l[i].owner = k ∨ k ∈ l[i].ws) : needL l (i : Int) k = (l, [], 9) := by
  unfold needL
  rw [if_neg (not_not_intro ⟨page_iff.2 (by omega), hk⟩), lfAt_yes hi, if_pos h]
theorem need_good {l : List Lf} {i : Nat} {k : Int} (hi : i < l.length) (hk : instB k = true) (h : ¬ (l[i].owner = k ∨ k ∈ l[i].ws)) : needL l (i : Int) k = (l.set i (serveF (i : Int) (withF k l[i])).1, (serveF (i : Int) (withF k l[i])).2, 0) := by
  unfold needL
  rw [if_neg (not_not_intro ⟨page_iff.2 (by omega), hk⟩), lfAt_yes hi, if_neg h]
  rfl
theorem back_arg {l : List Lf} {pg k : Int} (h : ¬ (pageB l pg = true ∧ instB k = true)) : backL l pg k = (l, [], 1) := by unfold backL; rw [if_pos h]
theorem back_state {l : List Lf} {i : Nat} {k : Int} (hi : i < l.length) (hk : instB k = true) (h : l[i].owner ≠ k) : backL l (i : Int) k = (l, [], 10) := by
  unfold backL
  rw [if_neg (not_not_intro ⟨page_iff.2 (by omega), hk⟩), lfAt_yes hi, if_pos h]
theorem back_good {l : List Lf} {i : Nat} {k : Int} (hi : i < l.length) (hk : instB k = true) (h : l[i].owner = k) : backL l (i : Int) k = (l.set i (serveF (i : Int) (leaveF false l[i])).1, (serveF (i : Int) (leaveF false l[i])).2, 0) := by
  unfold backL
  rw [if_neg (not_not_intro ⟨page_iff.2 (by omega), hk⟩), lfAt_yes hi, if_neg (not_not_intro h)]
  rfl
theorem mend_arg {l : List Lf} {pg : Int} (h : ¬ pageB l pg = true) : mendL l pg = (l, [], 1) := by unfold mendL; rw [if_pos h]
theorem mend_state {l : List Lf} {i : Nat} (hi : i < l.length) (h : l[i].lost = false) : mendL l (i : Int) = (l, [], 10) := by
  unfold mendL
  rw [if_neg (not_not_intro (page_iff.2 (by omega))), lfAt_yes hi, if_pos h]
theorem mend_good {l : List Lf} {i : Nat} (hi : i < l.length) (h : l[i].lost = true) : mendL l (i : Int) = (l.set i (serveF (i : Int) (leaveF false l[i])).1, (serveF (i : Int) (leaveF false l[i])).2, 0) := by
  unfold mendL
  rw [if_neg (not_not_intro (page_iff.2 (by omega))), lfAt_yes hi, if_neg (by rw [h]; simp)]
  rfl
theorem page_cases (l : List Lf) (pg : Int) : pageB l pg = false ∨ ∃ i : Nat, pg = (i : Int) ∧ i < l.length := by
  cases h : pageB l pg
  · exact .inl rfl
  · rw [page_iff] at h
    obtain ⟨i, rfl⟩ := Int.eq_ofNat_of_zero_le h.1
    exact .inr ⟨i, rfl, by omega⟩

set_option maxHeartbeats 2000000 in
theorem need_any (p q : Nat) (l : List Lf) (pg k : Int) (w : World) (h : Bk w p q l) (hok : BkOk l) :
    Calls Try.prog 14 #[.pointer (some ⟨p, 0, none⟩), .int .i64 pg, .int .i64 k] w fun e w' => Ans p q w (needL l pg k) e w' := by
  have HI := toHid (inst_any k w)
  rcases page_cases l pg with hp | ⟨i, rfl, hi⟩
  · have HA := toHid (at_no p q l pg w h (page_no.1 hp))
    rw [need_arg (by rw [hp]; simp)]
    have HE := toHid (Ans.err h 1)
    clear h hp
    go_enter Try.func14, Try.ntmps14
    go_wp2_with fail
    refine Calls.mono HA.out ?_
    rintro e w1 ⟨rfl, hw⟩
    obtain rfl := hw.symm
    clear HA
    go_wp2
    exact bodyPost_ret (v := .tuple #[.slice none 0 0, .int .i64 1]) (by simp [results, Try.results14, go_sem]) rfl HE.out
  · have HA := toHid (at_yes p q l i w h hi)
    cases hk : instB k
    · rw [need_arg (by rw [hk]; simp)]
      rw [hk] at HI
      have HE := toHid (Ans.err h 1)
      clear h hk
      go_enter Try.func14, Try.ntmps14
      go_wp2_with fail
      refine Calls.mono HA.out ?_
      rintro e w1 ⟨rfl, hw⟩
      obtain rfl := hw.symm
      clear HA
      go_wp2_with fail
      refine Calls.mono HI.out ?_
      rintro e w1 ⟨rfl, hw⟩
      obtain rfl := hw.symm
      clear HI
      go_wp2
      exact bodyPost_ret (v := .tuple #[.slice none 0 0, .int .i64 1]) (by simp [results, Try.results14, go_sem]) rfl HE.out
    · rw [hk] at HI
      obtain ⟨a, c, -, -, c2, -, -, c5, hs, ho, hc, hf⟩ := h.page i hi
      have hlen := (hok.at hi).len
      by_cases h1 : l[i].owner = k
      · rw [need_twice hi hk (.inl h1)]
        rw [h1] at c2
        have HE := toHid (Ans.err h 9)
        clear h hk hs ho hc hf h1
        go_enter Try.func14, Try.ntmps14
        go_wp2_with fail
        refine Calls.mono HA.out ?_
        rintro e w1 ⟨rfl, hw⟩
        obtain rfl := hw.symm
        clear HA
        go_wp2_with fail
        refine Calls.mono HI.out ?_
        rintro e w1 ⟨rfl, hw⟩
        obtain rfl := hw.symm
        clear HI
        go_wp2
        exact bodyPost_ret (v := .tuple #[.slice none 0 0, .int .i64 9]) (by simp [results, Try.results14, go_sem]) rfl HE.out
      · have hob : (l[i].owner == k) = false := by simpa using h1
        have HC := toHid (contains_any a c l[i].ws k w hs (by omega))
        by_cases h2 : k ∈ l[i].ws
        · rw [need_twice hi hk (.inr h2)]
          rw [decide_eq_true h2] at HC
          have HE := toHid (Ans.err h 9)
          clear h hk hs ho hc hf h2
          go_enter Try.func14, Try.ntmps14
          go_wp2_with fail
          refine Calls.mono HA.out ?_
          rintro e w1 ⟨rfl, hw⟩
          obtain rfl := hw.symm
          clear HA
          go_wp2_with fail
          refine Calls.mono HI.out ?_
          rintro e w1 ⟨rfl, hw⟩
          obtain rfl := hw.symm
          clear HI
          go_wp2_with fail
          refine Calls.mono HC.out ?_
          rintro e w1 ⟨rfl, hw⟩
          obtain rfl := hw.symm
          clear HC
          go_wp2
          exact bodyPost_ret (v := .tuple #[.slice none 0 0, .int .i64 9]) (by simp [results, Try.results14, go_sem]) rfl HE.out
        · rw [need_good hi hk (fun e => e.elim h1 h2)]
          rw [decide_eq_false h2] at HC
          have HW := toHid (with_any a c l[i].ws k w hs (by omega) hc)
          have HH := toHid h
          have hlt := h.lt
          clear h hk hs ho h2
          go_enter Try.func14, Try.ntmps14
          go_wp2_with fail
          refine Calls.mono HA.out ?_
          rintro e w1 ⟨rfl, hw⟩
          obtain rfl := hw.symm
          clear HA
          go_wp2_with fail
          refine Calls.mono HI.out ?_
          rintro e w1 ⟨rfl, hw⟩
          obtain rfl := hw.symm
          clear HI
          go_wp2_with fail
          refine Calls.mono HC.out ?_
          rintro e w1 ⟨rfl, hw⟩
          obtain rfl := hw.symm
          clear HC
          go_wp2_with fail
          refine Calls.mono HW.out ?_
          rintro e w1 ⟨⟨g, d, rfl, hsl, hle, hg⟩, hb⟩
          have h1 := HH.out.below hb
          obtain ⟨-, -, -, -, -, -, -, -, -, -, -, hf1⟩ := h1.page i hi
          have f5 := hf1 (i * 6 + 5)
          obtain ⟨a9, c9, -, -, -, -, -, c5', -⟩ := h1.page i hi
          have HX := toHid (h1.setWaits i hi (l[i].ws ++ [k]) (some ⟨g, 0, none⟩) d hsl (fun y hy => by cases hy; simp only; omega) hle)
          have HO := toHid (((One.of hb).trans ((One.refl q w1).set (i * 6 + 5) (.slice (some ⟨g, 0, none⟩) (l[i].ws ++ [k]).length d))))
          rw [show (l[i].ws ++ [k]).length = l[i].ws.length + 1 from by simp] at HX HO
          clear hb hsl hle hf hf1 h1 c2 c5
          go_wp2_with fail
          refine Calls.mono (serve_any p q _ i _ HX.out (by simpa using hi) (by simp; omega)) ?_
          simp only [List.getElem_set_self, List.set_set]
          rintro e w3 ⟨⟨v, rfl, hv⟩, hb3, ho3⟩
          have HV := toHid hv
          have HB3 := toHid hb3
          have HO3 := toHid ho3
          clear hv hb3 ho3 HW c5' f5 HH
          go_wp2
          refine bodyPost_ret (v := .tuple #[v, .int .i64 0]) (by simp [results, Try.results14, go_sem]) rfl ⟨⟨v, rfl, ?_⟩, HB3.out, HO.out.trans HO3.out⟩
          obtain ⟨a3, c3, e3, s3, n3⟩ := HV.out
          exact ⟨a3, c3, e3, s3, fun x hx => by have := n3 x hx; have := HO.out.size; omega⟩

set_option maxHeartbeats 1000000 in
theorem back_any (p q : Nat) (l : List Lf) (pg k : Int) (w : World) (h : Bk w p q l) (hok : BkOk l) :
    Calls Try.prog 15 #[.pointer (some ⟨p, 0, none⟩), .int .i64 pg, .int .i64 k] w fun e w' => Ans p q w (backL l pg k) e w' := by
  have HI := toHid (inst_any k w)
  rcases page_cases l pg with hp | ⟨i, rfl, hi⟩
  · have HA := toHid (at_no p q l pg w h (page_no.1 hp))
    rw [back_arg (by rw [hp]; simp)]
    have HE := toHid (Ans.err h 1)
    clear h hp
    go_enter Try.func15, Try.ntmps15
    go_wp2_with fail
    refine Calls.mono HA.out ?_
    rintro e w1 ⟨rfl, hw⟩
    obtain rfl := hw.symm
    clear HA
    go_wp2
    exact bodyPost_ret (v := .tuple #[.slice none 0 0, .int .i64 1]) (by simp [results, Try.results15, go_sem]) rfl HE.out
  · have HA := toHid (at_yes p q l i w h hi)
    cases hk : instB k
    · rw [back_arg (by rw [hk]; simp)]
      rw [hk] at HI
      have HE := toHid (Ans.err h 1)
      clear h hk
      go_enter Try.func15, Try.ntmps15
      go_wp2_with fail
      refine Calls.mono HA.out ?_
      rintro e w1 ⟨rfl, hw⟩
      obtain rfl := hw.symm
      clear HA
      go_wp2_with fail
      refine Calls.mono HI.out ?_
      rintro e w1 ⟨rfl, hw⟩
      obtain rfl := hw.symm
      clear HI
      go_wp2
      exact bodyPost_ret (v := .tuple #[.slice none 0 0, .int .i64 1]) (by simp [results, Try.results15, go_sem]) rfl HE.out
    · rw [hk] at HI
      obtain ⟨a, c, -, -, c2, -⟩ := h.page i hi
      have hlen := (hok.at hi).len
      by_cases h1 : l[i].owner = k
      · rw [back_good hi hk h1]
        rw [h1] at c2
        have HL := toHid (leave_any p q l i false w h hi)
        clear h hk h1
        go_enter Try.func15, Try.ntmps15
        go_wp2_with fail
        refine Calls.mono HA.out ?_
        rintro e w1 ⟨rfl, hw⟩
        obtain rfl := hw.symm
        clear HA
        go_wp2_with fail
        refine Calls.mono HI.out ?_
        rintro e w1 ⟨rfl, hw⟩
        obtain rfl := hw.symm
        clear HI
        go_wp2_with fail
        refine Calls.mono HL.out ?_
        rintro e w1 ⟨rfl, hb1, ho1⟩
        have HX := toHid hb1
        have HO := toHid ho1
        clear hb1 ho1 c2 HL
        go_wp2_with fail
        refine Calls.mono (serve_any p q _ i _ HX.out (by simpa using hi) (by simp only [List.getElem_set_self, leaveF]; omega)) ?_
        simp only [List.getElem_set_self, List.set_set]
        rintro e w3 ⟨⟨v, rfl, hv⟩, hb3, ho3⟩
        have HV := toHid hv
        have HB3 := toHid hb3
        have HO3 := toHid ho3
        clear hv hb3 ho3
        go_wp2
        refine bodyPost_ret (v := .tuple #[v, .int .i64 0]) (by simp [results, Try.results15, go_sem]) rfl ⟨⟨v, rfl, ?_⟩, HB3.out, HO.out.trans HO3.out⟩
        obtain ⟨a3, c3, e3, s3, n3⟩ := HV.out
        exact ⟨a3, c3, e3, s3, fun x hx => by have := n3 x hx; have := HO.out.size; omega⟩
      · rw [back_state hi hk h1]
        have hob : (l[i].owner != k) = true := by simpa using h1
        have HE := toHid (Ans.err h 10)
        clear h hk
        go_enter Try.func15, Try.ntmps15
        go_wp2_with fail
        refine Calls.mono HA.out ?_
        rintro e w1 ⟨rfl, hw⟩
        obtain rfl := hw.symm
        clear HA
        go_wp2_with fail
        refine Calls.mono HI.out ?_
        rintro e w1 ⟨rfl, hw⟩
        obtain rfl := hw.symm
        clear HI
        go_wp2
        exact bodyPost_ret (v := .tuple #[.slice none 0 0, .int .i64 10]) (by simp [results, Try.results15, go_sem]) rfl HE.out

set_option maxHeartbeats 1000000 in
theorem mend_any (p q : Nat) (l : List Lf) (pg : Int) (w : World) (h : Bk w p q l) (hok : BkOk l) :
    Calls Try.prog 17 #[.pointer (some ⟨p, 0, none⟩), .int .i64 pg] w fun e w' => Ans p q w (mendL l pg) e w' := by
  rcases page_cases l pg with hp | ⟨i, rfl, hi⟩
  · have HA := toHid (at_no p q l pg w h (page_no.1 hp))
    rw [mend_arg (by rw [hp]; simp)]
    have HE := toHid (Ans.err h 1)
    clear h hp
    go_enter Try.func17, Try.ntmps17
    go_wp2_with fail
    refine Calls.mono HA.out ?_
    rintro e w1 ⟨rfl, hw⟩
    obtain rfl := hw.symm
    clear HA
    go_wp2
    exact bodyPost_ret (v := .tuple #[.slice none 0 0, .int .i64 1]) (by simp [results, Try.results17, go_sem]) rfl HE.out
  · have HA := toHid (at_yes p q l i w h hi)
    obtain ⟨a, c, -, -, -, c3, -⟩ := h.page i hi
    have hlen := (hok.at hi).len
    cases h1 : l[i].lost
    · rw [mend_state hi h1]
      rw [h1] at c3
      have HE := toHid (Ans.err h 10)
      clear h h1
      go_enter Try.func17, Try.ntmps17
      go_wp2_with fail
      refine Calls.mono HA.out ?_
      rintro e w1 ⟨rfl, hw⟩
      obtain rfl := hw.symm
      clear HA
      go_wp2
      exact bodyPost_ret (v := .tuple #[.slice none 0 0, .int .i64 10]) (by simp [results, Try.results17, go_sem]) rfl HE.out
    · rw [mend_good hi h1]
      rw [h1] at c3
      have HL := toHid (leave_any p q l i false w h hi)
      clear h h1
      go_enter Try.func17, Try.ntmps17
      go_wp2_with fail
      refine Calls.mono HA.out ?_
      rintro e w1 ⟨rfl, hw⟩
      obtain rfl := hw.symm
      clear HA
      go_wp2_with fail
      refine Calls.mono HL.out ?_
      rintro e w1 ⟨rfl, hb1, ho1⟩
      have HX := toHid hb1
      have HO := toHid ho1
      clear hb1 ho1 c3 HL
      go_wp2_with fail
      refine Calls.mono (serve_any p q _ i _ HX.out (by simpa using hi) (by simp only [List.getElem_set_self, leaveF]; omega)) ?_
      simp only [List.getElem_set_self, List.set_set]
      rintro e w3 ⟨⟨v, rfl, hv⟩, hb3, ho3⟩
      have HV := toHid hv
      have HB3 := toHid hb3
      have HO3 := toHid ho3
      clear hv hb3 ho3
      go_wp2
      refine bodyPost_ret (v := .tuple #[v, .int .i64 0]) (by simp [results, Try.results17, go_sem]) rfl ⟨⟨v, rfl, ?_⟩, HB3.out, HO.out.trans HO3.out⟩
      obtain ⟨a3, c3, e3, s3, n3⟩ := HV.out
      exact ⟨a3, c3, e3, s3, fun x hx => by have := n3 x hx; have := HO.out.size; omega⟩
end Go.Proofs.Ytdlanenbbmnbhaa
