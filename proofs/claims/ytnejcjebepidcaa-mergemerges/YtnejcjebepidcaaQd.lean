/-
  The walk of MergeMerges.
-/
import Derived.Test.YtnejcjebepidcaaQa
import Derived.Test.YtnejcjebepidcaaQc
import Derived.Test.YtnejcjebepidcaaTc
import Derived.Test.YtnejcjebepidcaaOc
set_option linter.unusedSimpArgs false
set_option linter.unusedVariables false
namespace Go.Proofs.Ytnejcjebepidcaa
open Go.RowKit

set_option maxRecDepth 100000 in
set_option maxHeartbeats 4000000 in
theorem copied11' (a : Option Addr) (c : Nat) (l : List Rc) (w0 w : World) (hL : SlR w0 a l) (hB : Below w0.heap.size w0 w) (hl : l.length ≤ 100000) (hnil : a = none → c = 0) :
    Calls Try.prog 11 #[.slice a l.length c] w fun e w' => ∃ a' c', e = .returned (.slice a' l.length c') ∧ ShOk w0 w' w.heap.size (.slice a' l.length c') l ∧ Below w.heap.size w w' := by
  obtain ⟨i0, hi0, hz0, hz1, hz2⟩ := info_parts Try.info46
  obtain ⟨qs, hq1, hq2, hq3, hq4, hql⟩ := hL.src hnil
  have HQ1 := toHid hq1
  have HQ2 := toHid hq2
  have HQ3 := toHid (fun y (hy : a = some y) j u (hj : (qs.flatMap fun q => recL q.1 q.2)[j]? = some u) => (hB.cell (World.block_lt_of_cell? _ _ (hq3 y hy j u hj))).trans (hq3 y hy j u hj))
  have HQ4 := toHid hq4
  have HQL := toHid hql
  clear hq1 hq2 hq3 hq4 hql hL hnil
  go_enter Try.func11, Try.ntmps11
  go_wp2_with (at_builtin; go_must (refine wpList_append_src _ rfl _ _ 26 rfl w.heap.size 46 i0 _ 12 152 Try.underlying26 hi0 hz0 hz1 hz2 rfl (by decide) (.slice none 0 0) 0 [] rfl (World.ownsRow_nil _ _ _ _) a l.length c (qs.flatMap fun q => recL q.1 q.2) rfl HQ4.out HQL.out HQ3.out (flat_one _) (by unfold maxLen; omega) (by omega) (Nat.le_refl _) ?_; intro v1 y1 hown hgrow _; rw [Nat.zero_add, List.nil_append] at hown; obtain ⟨a1, c1, rfl⟩ := ownsRow_shape hown; have HO1 := toHid hown; have HG1 := toHid hgrow; clear hown hgrow))
  go_ret
  exact ⟨a1, c1, rfl, ⟨qs, HQ1.out, HO1.out, HQ2.out⟩, (Below.refl _ _).grown HG1.out (Nat.le_refl _) (by simp [Value.ownBlock])⟩

/-- A row of one's own of copies. -/
def MyR (w W : World) (v : Value) (qs : List (List Rc)) : Prop := ∃ xs : List Value, W.ownsRow w.heap.size 26 1 v qs.length xs ∧ ∀ (i : Nat) (q : List Rc), qs[i]? = some q → ∃ a c, xs[i]? = some (.slice a q.length c) ∧ ShOk w W w.heap.size (.slice a q.length c) q
theorem MyR.nil (w W : World) : MyR w W (.slice none 0 0) [] := ⟨[], World.ownsRow_nil _ _ _ _, fun i q hq => by simp at hq⟩
theorem MyR.below {w W W' : World} {v : Value} {qs : List (List Rc)} (h : MyR w W v qs) (hb : Below W.heap.size W W') : MyR w W' v qs := by
  obtain ⟨xs, h1, h2⟩ := h
  exact ⟨xs, own_stay h1 (fun k _ _ hc => hb.block k (Array.getElem?_eq_some_iff.1 hc).1), fun i q hq => by
    obtain ⟨a, c, k1, k2⟩ := h2 i q hq
    exact ⟨a, c, k1, k2.below hb⟩⟩
theorem MyR.rowL {w W : World} {v : Value} {qs : List (List Rc)} (h : MyR w W v qs) (hb : Below w.heap.size w W) : RowL W w.heap.size v qs := by
  obtain ⟨xs, h1, h2⟩ := h
  exact ⟨xs, h1, fun i q hq => by
    obtain ⟨a, c, k1, k2⟩ := h2 i q hq
    exact ⟨_, k1, a, c, rfl, k2.slR hb, k2.cap⟩⟩
theorem ShOk.low {w W : World} {B B' : Nat} {v : Value} {out : List Rc} (h : ShOk w W B v out) (hb : B' ≤ B) : ShOk w W B' v out := by
  obtain ⟨qs, h1, h2, h3⟩ := h
  exact ⟨qs, h1, row_low h2 hb, h3⟩
/-- Records' rows stay where a row of slices grows. -/
theorem ShOk.grow26 {w W y : World} {B B' n : Nat} {v u : Value} {out : List Rc} {xs : List Value} (h : ShOk w W B v out) (ho : W.ownsRow B' 26 1 u n xs) (hg : W.grownBy y u.ownBlock) : ShOk w y B v out := by
  obtain ⟨qs, h1, h2, h3⟩ := h
  refine ⟨qs, h1, own_stay h2 (fun k c hk hc => hg.block k (Array.getElem?_eq_some_iff.1 hc).1 (fun e => ?_)), h3⟩
  obtain ⟨c', fz, hc'⟩ := Lib.ownsRow_kind ho k e.symm
  rw [hc] at hc'
  injection hc' with hc'
  injection hc' with _ hc'
  exact absurd hc' (by decide)
theorem MyR.add {w W y : World} {v v' : Value} {qs : List (List Rc)} {q : List Rc} {xs : List Value} {a : Option Addr} {c : Nat} (ho : W.ownsRow w.heap.size 26 1 v qs.length xs) (hx : ∀ (i : Nat) (q : List Rc), qs[i]? = some q → ∃ a c, xs[i]? = some (.slice a q.length c) ∧ ShOk w W w.heap.size (.slice a q.length c) q) (hq : ShOk w W w.heap.size (.slice a q.length c) q)
    (hg : W.grownBy y v.ownBlock) (ho' : y.ownsRow w.heap.size 26 1 v' (qs.length + 1) (xs ++ [.slice a q.length c])) : MyR w y v' (qs ++ [q]) := by
  have hl : xs.length = qs.length := by simpa using ho.1
  refine ⟨xs ++ [.slice a q.length c], by rw [List.length_append]; exact ho', fun i r hr => ?_⟩
  by_cases hi : i < qs.length
  · rw [List.getElem?_append_left hi] at hr
    obtain ⟨a', c', k1, k2⟩ := hx i r hr
    exact ⟨a', c', by rw [List.getElem?_append_left (by omega)]; exact k1, k2.grow26 ho hg⟩
  · rw [List.getElem?_append_right (by omega)] at hr
    have : i - qs.length = 0 := by
      have := (List.getElem?_eq_some_iff.1 hr).1
      simp at this
      omega
    rw [this] at hr
    simp at hr
    subst hr
    exact ⟨a, c, by rw [List.getElem?_append_right (by omega), show i - xs.length = 0 by omega]; rfl, hq.grow26 ho hg⟩
theorem MyR.get {w W : World} {a : Option Addr} {c : Nat} {qs : List (List Rc)} (h : MyR w W (.slice a qs.length c) qs) (i : Nat) (hi : i < qs.length) : ∃ g am cm, a = some ⟨g, 0, none⟩ ∧ g < W.heap.size ∧ W.cell? ⟨g, i, none⟩ = some (.slice am qs[i].length cm) ∧ ShOk w W w.heap.size (.slice am qs[i].length cm) qs[i] := by
  obtain ⟨xs, h1, h2⟩ := h
  rcases own_addr h1 with ⟨_, e, _⟩ | ⟨g, cur, rfl, hB, hg, _⟩
  · omega
  · obtain ⟨am, cm, k1, k2⟩ := h2 i _ (List.getElem?_eq_getElem hi)
    exact ⟨g, am, cm, rfl, (Array.getElem?_eq_some_iff.1 hg).1, own_cell h1 k1, k2⟩
theorem NilC.below {w W : World} {a : Option Addr} {logs : List (List Rc)} (h : NilC w a logs) (hL : SlL w a logs) (hb : Below w.heap.size w W) : NilC W a logs := fun b o i la n lc ha hi hc hn => by
  obtain ⟨b', o', la', lc', e, h1, _⟩ := hL.get i hi
  rw [ha] at e
  simp at e
  obtain ⟨rfl, rfl⟩ := e
  rw [hb.cell (World.block_lt_of_cell? _ _ h1)] at hc
  exact h b o i la n lc ha hi hc hn

set_option maxRecDepth 100000 in
set_option maxHeartbeats 20000000 in
theorem merges_walk (a : Option Addr) (c : Nat) (logs : List (List Rc)) (at_ : Nat) (w : World) (hL : SlL w a logs) (hN : NilC w a logs) (hl : logs.length ≤ 140737488355328) (hW : ∀ q, q ∈ logs → q.length ≤ 140737488355328 ∧ ∀ r, r ∈ q → Wd r) :
    Calls Try.prog 3 #[.slice a logs.length c, .int .u64 (at_ : Int)] w fun e w' => e = .returned (.bool true) ∧ Below w.heap.size w w' := by
  obtain ⟨i0, hi0, hz0, hz1, hz2⟩ := info_parts Try.info26
  have HL := toHid hL
  have HN := toHid hN
  have HS := toHid (small9 a c logs w hL hl hW)
  clear hL hW hN
  go_enter Try.func3, Try.ntmps3
  go_wp2_with fail
  refine Calls.mono HS.out ?_
  rintro e w1 ⟨b, rfl, hb, n1, rfl⟩
  have HB0 := toHid (below_drewN w.heap.size w n1)
  clear HS
  cases b
  · go_wp2_with fail
    refine Calls.mono (lives10 _) ?_
    rintro e wl ⟨rfl, hbl⟩
    have HBL := toHid (HB0.out.trans (hbl.mono HB0.out.size))
    clear hbl
    go_wp2
    go_ret
    exact ⟨rfl, HBL.out⟩

  obtain ⟨h40, htot⟩ := hb rfl
  have hfl : logs.flatten.length ≤ 300 := Nat.le_trans (tot_len _) htot
  have hlimF : ∀ r, r ∈ logs.flatten → Lim r := fun r hr => by have := tot_mem hr; simp only [wt] at this; exact ⟨by omega, by omega⟩
  have hlim : ∀ l, l ∈ logs → ∀ r, r ∈ l → Lim r := fun l hl r hr => hlimF r (List.mem_flatten.2 ⟨l, hl, hr⟩)
  have HLF := toHid hlimF
  have HLim := toHid hlim
  clear hb hlim hlimF htot
  go_wp2_with fail
  go_loopw [5, 6] (fun s k W => ∃ (i : Nat) (va : Option Addr) (vc : Nat) (n : Nat), i ≤ logs.length ∧ k = .int .i64 i ∧ n = i ∧ s = .slice va n vc ∧ MyR w W (.slice va n vc) (logs.take i) ∧ Below w.heap.size w W) (fun _ k _ => logs.length - (intOf k).toNat)
  case atStart => exact ⟨0, none, 0, 0, Nat.zero_le _, rfl, rfl, rfl, by simpa using MyR.nil w _, HB0.out⟩
  case round =>
    obtain ⟨i, va, vc, n, hi, rfl, hni, rfl, hmy, hbw⟩ := hrel
    have HMy := toHid hmy
    have HBw := toHid hbw
    have HNi := toHid hni
    have hn40 : n ≤ 40 := by omega
    have hwz : w.heap.size ≤ wr.heap.size := hbw.size
    clear hmy hbw HB0 hni
    by_cases hlt : i < logs.length
    · obtain ⟨b, o, la, lc, rfl, c0, hs, hlc⟩ := HL.out.get i hlt
      have hnl := HN.out b o i la _ lc rfl hlt c0
      have hbl := World.block_lt_of_cell? _ _ c0
      have HC0 := toHid c0
      have c1 : wr.cell? ⟨b, o + i, none⟩ = some (.slice la logs[i].length lc) := (HBw.out.cell (p := ⟨b, o + i, none⟩) hbl).trans c0
      have hi1 : (i : Int) < (logs.length : Int) := by omega
      have hi2 : 0 ≤ (i : Int) := by omega
      have hq3 : logs[i].length ≤ 300 := Nat.le_trans (len_flat hlt) hfl
      have HLq := toHid (HLim.out logs[i] (List.getElem_mem hlt))
      have HSl := toHid hs
      have HCp := toHid (copied11' la lc logs[i] w wr hs HBw.out (by omega) hnl)
      clear hs hnl c0
      go_wp2_with fail
      refine Calls.mono HCp.out ?_
      rintro e w2 ⟨am, cm, rfl, hsh, hb2⟩
      have HB2 := toHid (HBw.out.trans (hb2.mono hwz))
      have HSh := toHid (hsh.low hwz)
      obtain ⟨xs, hx1, hx2⟩ := HMy.out.below hb2
      have hwz2 : w.heap.size ≤ w2.heap.size := HB2.out.size
      have hlt2 : (logs.take i).length = n := by rw [List.length_take, HNi.out]; omega
      have HX1 := toHid hx1
      have HX2 := toHid hx2
      rw [hlt2] at hx1
      have HO0 := toHid (World.ownsRow.alloc hx1 (.cells #[.slice am logs[i].length cm] 26))
      have HNw := toHid (news_val w2 (.slice am logs[i].length cm) 26)
      clear hsh hb2 hx1 hx2 HCp hlt2
      go_wp2_with (at_builtin; go_must (refine wpList_append_fresh _ rfl _ _ 22 rfl w.heap.size 26 i0 _ 1 24 Try.underlying22 hi0 hz0 hz1 hz2 rfl (by decide) (.slice va n vc) n xs rfl HO0.out ⟨w2.heap.size, 0, none⟩ 1 1 [.slice am logs[i].length cm] rfl rfl HNw.out (by intro u hu; simp at hu; subst hu; rfl) (by unfold maxLen; omega) (by omega) (by simp; omega) ?_; intro v3 y1 hown hgrow _; obtain ⟨a5, c5, rfl⟩ := ownsRow_shape hown; have HOW := toHid hown; have HGW := toHid hgrow; clear hown hgrow))
      have HBy := toHid (HB2.out.trans (((Below.refl w.heap.size w2).alloc hwz2 _).grown HGW.out (by simp; omega) (fun k hk => (HO0.out.lt k hk).1)))
      have hlen : (logs.take (i + 1)).length = n + 1 := by rw [List.length_take, HNi.out]; omega
      have hmy1 : MyR w y1 (.slice a5 (logs.take (i + 1)).length c5) (logs.take (i + 1)) := by
        rw [hlen, List.take_succ_eq_append_getElem hlt]
        have hl0 : (logs.take i).length = n := by rw [List.length_take, HNi.out]; omega
        exact MyR.add (World.ownsRow.alloc HX1.out _) (fun j q hq => by obtain ⟨a, c, k1, k2⟩ := HX2.out j q hq; exact ⟨a, c, k1, k2.below ((Below.refl _ _).alloc (Nat.le_refl _) _)⟩) (HSh.out.below ((Below.refl _ _).alloc (Nat.le_refl _) _)) HGW.out (by rw [hl0]; exact HOW.out)
      obtain ⟨g5, am2, cm2, rfl, hg5, k5, hs5⟩ : ∃ g am cm, a5 = some ⟨g, 0, none⟩ ∧ g < y1.heap.size ∧ y1.cell? ⟨g, i, none⟩ = some (.slice am logs[i].length cm) ∧ ShOk w y1 w.heap.size (.slice am logs[i].length cm) logs[i] := by
        have h := hmy1.get i (by rw [hlen]; have := HNi.out; omega)
        simpa only [List.getElem_take] using h
      have HM1 := toHid hmy1
      have HS5 := toHid hs5
      rw [hlen] at HM1
      clear hmy1 hs5 HOW HGW HX1 HX2 HO0 HNw HSh HMy hlen
      have hin : (i : Int) < (n : Int) + 1 := by have := HNi.out; omega
      have hin2 : i < n + 1 := by have := HNi.out; omega
      have hwy : w.heap.size ≤ y1.heap.size := HBy.out.size
      have HCx := toHid (fun (W : World) (hW : Below y1.heap.size y1 W) => (⟨(hW.cell (p := ⟨g5, i, none⟩) hg5).trans k5, (((HBy.out.trans (hW.mono hwy)).cell (p := ⟨b, o + i, none⟩) hbl).trans HC0.out)⟩ : W.cell? ⟨g5, i, none⟩ = some (.slice am2 logs[i].length cm2) ∧ W.cell? ⟨b, o + i, none⟩ = some (.slice la logs[i].length lc)))
      have HF12 := toHid (fun (W : World) (hW : Below y1.heap.size y1 W) => rises12 am2 cm2 logs[i] W ((HS5.out.below hW).slR (HBy.out.trans (hW.mono hwy))) (by omega))
      have HF13 := toHid (fun (W : World) (hW : Below y1.heap.size y1 W) => rises13 la lc logs[i] W (HSl.out.below (HBy.out.trans (hW.mono hwy))) (by omega))
      have HF15 := toHid (fun (W : World) (hW : Below y1.heap.size y1 W) => from15 am2 cm2 logs[i] at_ W ((HS5.out.below hW).slR (HBy.out.trans (hW.mono hwy))) (by omega) HLq.out)
      have HF16 := toHid (fun (W : World) (hW : Below y1.heap.size y1 W) => from16 la lc logs[i] at_ W (HSl.out.below (HBy.out.trans (hW.mono hwy))) (by omega))
      have hf2 := from_length logs[i] at_
      have HLf := toHid (fun r (hr : r ∈ fromL logs[i] at_) => HLq.out r (List.mem_filter.1 hr).1)
      have hbb : (risB logs[i] != risB logs[i]) = false := by simp
      clear c1 k5
      go_wp2_with fail
      refine wp_region_held_drew (S := fun W => W.cell? ⟨g5, i, none⟩ = some (.slice am2 logs[i].length cm2) ∧ W.cell? ⟨b, o + i, none⟩ = some (.slice la logs[i].length lc)) (by kernel_rfl) (HCx.out _ ((Below.refl y1.heap.size y1).drew)) (fun hHeld => ?_)
      refine wpAnyH_take (i := 0) (v := ?_) rfl (by kernel_rfl) (by kernel_rfl) (by kernel_rfl) (fun _ _ _ h => h) (Or.inl ⟨by rfl, ?_⟩) (by assumption) ?_
      rotate_left
      · (intro W hSw; (try obtain ⟨hS1, hS2⟩ := hSw); go_simp; try with_reducible rfl)
      try simp only [Act.put, List.getElem_toArray, List.getElem_cons_zero, List.getElem_cons_succ, List.setIfInBounds_toArray, List.set_cons_zero, List.set_cons_succ]
      refine wpAnyH_take (i := 1) (v := ?_) rfl (by kernel_rfl) (by kernel_rfl) (by kernel_rfl) (fun _ _ _ h => h) (Or.inl ⟨by rfl, ?_⟩) (by assumption) ?_
      rotate_left
      · (intro W hSw; (try obtain ⟨hS1, hS2⟩ := hSw); go_simp; try with_reducible rfl)
      try simp only [Act.put, List.getElem_toArray, List.getElem_cons_zero, List.getElem_cons_succ, List.setIfInBounds_toArray, List.set_cons_zero, List.set_cons_succ]
      refine wpAnyH_take (i := 2) (v := ?_) rfl (by kernel_rfl) (by kernel_rfl) (by kernel_rfl) (fun _ _ _ h => h) (Or.inl ⟨by rfl, ?_⟩) (by assumption) ?_
      rotate_left
      · (intro W hSw; (try obtain ⟨hS1, hS2⟩ := hSw); go_simp; try with_reducible rfl)
      try simp only [Act.put, List.getElem_toArray, List.getElem_cons_zero, List.getElem_cons_succ, List.setIfInBounds_toArray, List.set_cons_zero, List.set_cons_succ]
      refine wpAnyH_take (i := 3) (v := ?_) rfl (by kernel_rfl) (by kernel_rfl) (by kernel_rfl) (fun _ _ _ h => h) (Or.inl ⟨by rfl, ?_⟩) (by assumption) ?_
      rotate_left
      · (intro W hSw; (try obtain ⟨hS1, hS2⟩ := hSw); go_simp; try with_reducible rfl)
      try simp only [Act.put, List.getElem_toArray, List.getElem_cons_zero, List.getElem_cons_succ, List.setIfInBounds_toArray, List.set_cons_zero, List.set_cons_succ]
      refine wpAnyH_take (i := 5) (v := ?_) rfl (by kernel_rfl) (by kernel_rfl) (by kernel_rfl) (fun _ _ _ h => h) (Or.inl ⟨by rfl, ?_⟩) (by assumption) ?_
      rotate_left
      · (intro W hSw; (try obtain ⟨hS1, hS2⟩ := hSw); go_simp; try with_reducible rfl)
      try simp only [Act.put, List.getElem_toArray, List.getElem_cons_zero, List.getElem_cons_succ, List.setIfInBounds_toArray, List.set_cons_zero, List.set_cons_succ]
      refine wpAnyH_take (i := 6) (v := ?_) rfl (by kernel_rfl) (by kernel_rfl) (by kernel_rfl) (fun _ _ _ h => h) (Or.inl ⟨by rfl, ?_⟩) (by assumption) ?_
      rotate_left
      · (intro W hSw; (try obtain ⟨hS1, hS2⟩ := hSw); go_simp; try with_reducible rfl)
      try simp only [Act.put, List.getElem_toArray, List.getElem_cons_zero, List.getElem_cons_succ, List.setIfInBounds_toArray, List.set_cons_zero, List.set_cons_succ]
      refine wpAnyH_take (i := 7) (v := ?_) rfl (by kernel_rfl) (by kernel_rfl) (by kernel_rfl) (fun _ _ _ h => h) (Or.inl ⟨by rfl, ?_⟩) (by assumption) ?_
      rotate_left
      · (intro W hSw; (try obtain ⟨hS1, hS2⟩ := hSw); go_simp; try with_reducible rfl)
      try simp only [Act.put, List.getElem_toArray, List.getElem_cons_zero, List.getElem_cons_succ, List.setIfInBounds_toArray, List.set_cons_zero, List.set_cons_succ]
      refine wpAnyH_take (i := 8) (v := ?_) rfl (by kernel_rfl) (by kernel_rfl) (by kernel_rfl) (fun _ _ _ h => h) (Or.inl ⟨by rfl, ?_⟩) (by assumption) ?_
      rotate_left
      · (intro W hSw; (try obtain ⟨hS1, hS2⟩ := hSw); go_simp; try with_reducible rfl)
      try simp only [Act.put, List.getElem_toArray, List.getElem_cons_zero, List.getElem_cons_succ, List.setIfInBounds_toArray, List.set_cons_zero, List.set_cons_succ]
      refine wpAnyH_ready (rs := [4]) (by kernel_rfl) (by simp) ?_
      refine AllReadyH.cons rfl (fun K hK => ?_) AllReadyH.nil
      go_simp
      refine Calls.mono (HF12.out _ ((Below.refl y1.heap.size y1).drew)) ?_
      rintro e w3 ⟨rfl, n3, rfl⟩
      have HB3 := toHid (((Below.refl y1.heap.size y1).drew).trans (below_drewN y1.heap.size _ n3))
      obtain ⟨W3, hW3⟩ : ∃ W3, W3 = y1.drew.drewN n3 := ⟨_, rfl⟩
      rw [← hW3] at HB3 ⊢
      clear hW3
      try go_wp2_with fail
      refine hK.out _ _ (HCx.out _ HB3.out) (fun hHeld => ?_)
      clear hK K
      try simp only [Act.put, List.getElem_toArray, List.getElem_cons_zero, List.getElem_cons_succ, List.setIfInBounds_toArray, List.set_cons_zero, List.set_cons_succ]
      refine wpAnyH_ready (rs := [9]) (by kernel_rfl) (by simp) ?_
      refine AllReadyH.cons rfl (fun K hK => ?_) AllReadyH.nil
      go_simp
      refine Calls.mono (HF13.out _ HB3.out) ?_
      rintro e w4 ⟨rfl, n4, rfl⟩
      have HB4 := toHid (HB3.out.trans (below_drewN y1.heap.size _ n4))
      obtain ⟨W4, hW4⟩ : ∃ W4, W4 = W3.drewN n4 := ⟨_, rfl⟩
      rw [← hW4] at HB4 ⊢
      clear hW4
      try go_wp2_with fail
      refine hK.out _ _ (HCx.out _ HB4.out) (fun hHeld => ?_)
      clear hK K
      try simp only [Act.put, List.getElem_toArray, List.getElem_cons_zero, List.getElem_cons_succ, List.setIfInBounds_toArray, List.set_cons_zero, List.set_cons_succ]
      refine wpAnyH_take (i := 10) (v := ?_) rfl (by kernel_rfl) (by kernel_rfl) (by kernel_rfl) (fun _ _ _ h => h) (Or.inl ⟨by rfl, ?_⟩) (by assumption) ?_
      rotate_left
      · (intro W hSw; (try obtain ⟨hS1, hS2⟩ := hSw); go_simp; try with_reducible rfl)
      try simp only [Act.put, List.getElem_toArray, List.getElem_cons_zero, List.getElem_cons_succ, List.setIfInBounds_toArray, List.set_cons_zero, List.set_cons_succ]
      refine wpAnyH_take (i := 11) (v := ?_) rfl (by kernel_rfl) (by kernel_rfl) (by kernel_rfl) (fun _ _ _ h => h) (Or.inl ⟨by rfl, ?_⟩) (by assumption) ?_
      rotate_left
      · (intro W hSw; (try obtain ⟨hS1, hS2⟩ := hSw); go_simp; try with_reducible rfl)
      try simp only [Act.put, List.getElem_toArray, List.getElem_cons_zero, List.getElem_cons_succ, List.setIfInBounds_toArray, List.set_cons_zero, List.set_cons_succ]
      refine wpAnyH_take (i := 12) (v := ?_) rfl (by kernel_rfl) (by kernel_rfl) (by kernel_rfl) (fun _ _ _ h => h) (Or.inl ⟨by rfl, ?_⟩) (by assumption) ?_
      rotate_left
      · (intro W hSw; (try obtain ⟨hS1, hS2⟩ := hSw); go_simp; try with_reducible rfl)
      try simp only [Act.put, List.getElem_toArray, List.getElem_cons_zero, List.getElem_cons_succ, List.setIfInBounds_toArray, List.set_cons_zero, List.set_cons_succ]
      refine wpAnyH_take (i := 13) (v := ?_) rfl (by kernel_rfl) (by kernel_rfl) (by kernel_rfl) (fun _ _ _ h => h) (Or.inl ⟨by rfl, ?_⟩) (by assumption) ?_
      rotate_left
      · (intro W hSw; (try obtain ⟨hS1, hS2⟩ := hSw); go_simp; try with_reducible rfl)
      try simp only [Act.put, List.getElem_toArray, List.getElem_cons_zero, List.getElem_cons_succ, List.setIfInBounds_toArray, List.set_cons_zero, List.set_cons_succ]
      refine wpAnyH_take (i := 14) (v := ?_) rfl (by kernel_rfl) (by kernel_rfl) (by kernel_rfl) (fun _ _ _ h => h) (Or.inl ⟨by rfl, ?_⟩) (by assumption) ?_
      rotate_left
      · (intro W hSw; (try obtain ⟨hS1, hS2⟩ := hSw); go_simp; try with_reducible rfl)
      try simp only [Act.put, List.getElem_toArray, List.getElem_cons_zero, List.getElem_cons_succ, List.setIfInBounds_toArray, List.set_cons_zero, List.set_cons_succ]
      refine wpAnyH_take (i := 15) (v := ?_) rfl (by kernel_rfl) (by kernel_rfl) (by kernel_rfl) (fun _ _ _ h => h) (Or.inl ⟨by rfl, ?_⟩) (by assumption) ?_
      rotate_left
      · (intro W hSw; (try obtain ⟨hS1, hS2⟩ := hSw); go_simp; try with_reducible rfl)
      try simp only [Act.put, List.getElem_toArray, List.getElem_cons_zero, List.getElem_cons_succ, List.setIfInBounds_toArray, List.set_cons_zero, List.set_cons_succ]
      refine wpAnyH_take (i := 16) (v := ?_) rfl (by kernel_rfl) (by kernel_rfl) (by kernel_rfl) (fun _ _ _ h => h) (Or.inl ⟨by rfl, ?_⟩) (by assumption) ?_
      rotate_left
      · (intro W hSw; (try obtain ⟨hS1, hS2⟩ := hSw); go_simp; try with_reducible rfl)
      try simp only [Act.put, List.getElem_toArray, List.getElem_cons_zero, List.getElem_cons_succ, List.setIfInBounds_toArray, List.set_cons_zero, List.set_cons_succ]
      refine wpAnyH_take (i := 18) (v := ?_) rfl (by kernel_rfl) (by kernel_rfl) (by kernel_rfl) (fun _ _ _ h => h) (Or.inl ⟨by rfl, ?_⟩) (by assumption) ?_
      rotate_left
      · (intro W hSw; (try obtain ⟨hS1, hS2⟩ := hSw); go_simp; try with_reducible rfl)
      try simp only [Act.put, List.getElem_toArray, List.getElem_cons_zero, List.getElem_cons_succ, List.setIfInBounds_toArray, List.set_cons_zero, List.set_cons_succ]
      refine wpAnyH_take (i := 19) (v := ?_) rfl (by kernel_rfl) (by kernel_rfl) (by kernel_rfl) (fun _ _ _ h => h) (Or.inl ⟨by rfl, ?_⟩) (by assumption) ?_
      rotate_left
      · (intro W hSw; (try obtain ⟨hS1, hS2⟩ := hSw); go_simp; try with_reducible rfl)
      try simp only [Act.put, List.getElem_toArray, List.getElem_cons_zero, List.getElem_cons_succ, List.setIfInBounds_toArray, List.set_cons_zero, List.set_cons_succ]
      refine wpAnyH_take (i := 20) (v := ?_) rfl (by kernel_rfl) (by kernel_rfl) (by kernel_rfl) (fun _ _ _ h => h) (Or.inl ⟨by rfl, ?_⟩) (by assumption) ?_
      rotate_left
      · (intro W hSw; (try obtain ⟨hS1, hS2⟩ := hSw); go_simp; try with_reducible rfl)
      try simp only [Act.put, List.getElem_toArray, List.getElem_cons_zero, List.getElem_cons_succ, List.setIfInBounds_toArray, List.set_cons_zero, List.set_cons_succ]
      refine wpAnyH_take (i := 21) (v := ?_) rfl (by kernel_rfl) (by kernel_rfl) (by kernel_rfl) (fun _ _ _ h => h) (Or.inl ⟨by rfl, ?_⟩) (by assumption) ?_
      rotate_left
      · (intro W hSw; (try obtain ⟨hS1, hS2⟩ := hSw); go_simp; try with_reducible rfl)
      try simp only [Act.put, List.getElem_toArray, List.getElem_cons_zero, List.getElem_cons_succ, List.setIfInBounds_toArray, List.set_cons_zero, List.set_cons_succ]
      refine wpAnyH_take (i := 22) (v := ?_) rfl (by kernel_rfl) (by kernel_rfl) (by kernel_rfl) (fun _ _ _ h => h) (Or.inl ⟨by rfl, ?_⟩) (by assumption) ?_
      rotate_left
      · (intro W hSw; (try obtain ⟨hS1, hS2⟩ := hSw); go_simp; try with_reducible rfl)
      try simp only [Act.put, List.getElem_toArray, List.getElem_cons_zero, List.getElem_cons_succ, List.setIfInBounds_toArray, List.set_cons_zero, List.set_cons_succ]
      refine wpAnyH_ready (rs := [17]) (by kernel_rfl) (by simp) ?_
      refine AllReadyH.cons rfl (fun K hK => ?_) AllReadyH.nil
      go_simp
      refine Calls.mono (HF15.out _ HB4.out) ?_
      rintro e w5 ⟨a6, c6, rfl, h6, hb5⟩
      have HB5 := toHid (HB4.out.trans (hb5.mono HB4.out.size))
      have HA6 := toHid h6
      clear h6 hb5
      try go_wp2_with fail
      refine hK.out _ _ (HCx.out _ HB5.out) (fun hHeld => ?_)
      clear hK K
      try simp only [Act.put, List.getElem_toArray, List.getElem_cons_zero, List.getElem_cons_succ, List.setIfInBounds_toArray, List.set_cons_zero, List.set_cons_succ]
      refine wpAnyH_ready (rs := [23]) (by kernel_rfl) (by simp) ?_
      refine AllReadyH.cons rfl (fun K hK => ?_) AllReadyH.nil
      go_simp
      refine Calls.mono (HF16.out _ HB5.out) ?_
      rintro e w6 ⟨a7, c7, rfl, h7, hb6⟩
      have HB6 := toHid (HB5.out.trans (hb6.mono HB5.out.size))
      have HSm := toHid (same14 a6 c6 (fromL logs[i] at_) a7 c7 (fromL logs[i] at_) w6 (HA6.out.below hb6).slR (h7.slR hb6) HLf.out HLf.out (by omega) (by omega))
      rw [decide_eq_true rfl] at HSm
      clear h7 hb6
      try go_wp2_with fail
      refine hK.out _ _ (HCx.out _ HB6.out) (fun hHeld => ?_)
      clear hK K
      try simp only [Act.put, List.getElem_toArray, List.getElem_cons_zero, List.getElem_cons_succ, List.setIfInBounds_toArray, List.set_cons_zero, List.set_cons_succ]
      refine wpAnyH_ready (rs := [24]) (by kernel_rfl) (by simp) ?_
      refine AllReadyH.cons rfl (fun K hK => ?_) AllReadyH.nil
      go_simp
      refine Calls.mono (HSm.out) ?_
      rintro e w7 ⟨rfl, hb7⟩
      have HB7 := toHid (HB6.out.trans (hb7.mono HB6.out.size))
      clear hb7 HSm
      try go_wp2_with fail
      refine hK.out _ _ (HCx.out _ HB7.out) (fun hHeld => ?_)
      clear hK K
      try simp only [Act.put, List.getElem_toArray, List.getElem_cons_zero, List.getElem_cons_succ, List.setIfInBounds_toArray, List.set_cons_zero, List.set_cons_succ]
      refine wpAnyH_take (i := 25) (v := ?_) rfl (by kernel_rfl) (by kernel_rfl) (by kernel_rfl) (fun _ _ _ h => h) (Or.inl ⟨by rfl, ?_⟩) (by assumption) ?_
      rotate_left
      · (intro W hSw; (try obtain ⟨hS1, hS2⟩ := hSw); go_simp; try with_reducible rfl)
      try simp only [Act.put, List.getElem_toArray, List.getElem_cons_zero, List.getElem_cons_succ, List.setIfInBounds_toArray, List.set_cons_zero, List.set_cons_succ]
      refine wpAnyH_take (i := 26) (v := ?_) rfl (by kernel_rfl) (by kernel_rfl) (by kernel_rfl) (fun _ _ _ h => h) (Or.inl ⟨by rfl, ?_⟩) (by assumption) ?_
      rotate_left
      · (intro W hSw; (try obtain ⟨hS1, hS2⟩ := hSw); go_simp; try with_reducible rfl)
      try simp only [Act.put, List.getElem_toArray, List.getElem_cons_zero, List.getElem_cons_succ, List.setIfInBounds_toArray, List.set_cons_zero, List.set_cons_succ]
      refine wpAnyH_done (by kernel_rfl) ?_ _
      clear hHeld
      have HMe := toHid (HM1.out.below HB7.out)
      have HBe := toHid (HBy.out.trans (HB7.out.mono hwy))
      go_wp2_with fail
      go_roundw
      case rel => exact ⟨i + 1, some ⟨g5, 0, none⟩, c5, n + 1, by omega, by go_num, by have := HNi.out; omega, rfl, HMe.out, HBe.out⟩
      case measure => simp [intOf]; omega
    · obtain rfl : i = logs.length := by omega
      obtain rfl : n = logs.length := HNi.out
      rw [List.take_length] at HMy
      have HM1 := toHid (merge17 va vc logs wr (HMy.out.rowL HBw.out).slL (by omega) (by omega) HLim.out)
      go_wp2_with fail
      refine Calls.mono HM1.out ?_
      rintro e w2 ⟨v1, e1, rfl, hm1, hb2⟩
      obtain ⟨out1, a1, c1, rfl, hr1⟩ := hm1.res
      have HB2 := toHid (HBw.out.trans (hb2.mono hwz))
      have HMy2 := toHid (HMy.out.below hb2)
      have HR1 := toHid hr1
      have HM2 := toHid (merge18 a c logs w2 (HL.out.below HB2.out) (HN.out.below HL.out HB2.out) (by omega) (by omega))
      clear hm1 hr1 hb2 HM1 HMy
      go_wp2_with fail
      refine Calls.mono HM2.out ?_
      rintro e w3 ⟨out2, a2, c2, e2, rfl, hsp2, hsh2, hb3⟩
      obtain ⟨rfl, rfl⟩ := HR1.out.spec.unique hsp2 rfl (List.Perm.refl _)
      have hol1 : out1.length ≤ 300 := Nat.le_trans hsp2.len hfl
      have HLo := toHid (fun r hr => HLF.out r (hsp2.sub r hr))
      have HB3 := toHid (HB2.out.trans (hb3.mono HB2.out.size))
      have HMy3 := toHid (HMy2.out.below hb3)
      have HSm := toHid (same14 a1 c1 out1 a2 c2 out1 w3 (HR1.out.below hb3).all.slR (hsh2.slR hb3) HLo.out HLo.out (by omega) (by omega))
      rw [decide_eq_true rfl] at HSm
      have hee : (e1 != e1) = false := by simp
      clear hsp2 hsh2 hb3 HM2 HMy2 HR1
      go_wp2_with fail
      refine Calls.mono HSm.out ?_
      rintro e w4 ⟨rfl, hb4⟩
      have HB4 := toHid (HB3.out.trans (hb4.mono HB3.out.size))
      have HMy4 := toHid (HMy3.out.below hb4)
      clear hb4 HSm hee HMy3 HB3 HB2 HBw hwz
      go_wp2_with fail
      go_loopw [11] (fun k W => ∃ i : Nat, i ≤ logs.length ∧ k = .int .i64 i ∧ MyR w W (.slice va logs.length vc) logs ∧ Below w.heap.size w W) (fun k _ => logs.length - (intOf k).toNat)
      case atStart => exact ⟨0, Nat.zero_le _, rfl, HMy4.out, HB4.out⟩
      case round =>
        clear HMy4 HB4
        obtain ⟨i, hi, rfl, hmy, hbw⟩ := hrel
        have HMy := toHid hmy
        have HBw := toHid hbw
        clear hmy hbw
        by_cases hlt : i < logs.length
        · obtain ⟨g9, am, cm, rfl, hg9, k9, hs9⟩ := HMy.out.get i hlt
          obtain ⟨b, o, la, lc, rfl, c0, hs, -⟩ := (HL.out.below HBw.out).get i hlt
          have hbl := World.block_lt_of_cell? _ _ c0
          have hi1 : (i : Int) < (logs.length : Int) := by omega
          have hi2 : 0 ≤ (i : Int) := by omega
          have hq3 : logs[i].length ≤ 300 := Nat.le_trans (len_flat hlt) hfl
          have HLq := toHid (HLim.out logs[i] (List.getElem_mem hlt))
          have HCx := toHid (fun (W : World) (hW : Below wr.heap.size wr W) => (⟨(hW.cell (p := ⟨g9, i, none⟩) hg9).trans k9, (hW.cell (p := ⟨b, o + i, none⟩) hbl).trans c0⟩ : W.cell? ⟨g9, i, none⟩ = some (.slice am logs[i].length cm) ∧ W.cell? ⟨b, o + i, none⟩ = some (.slice la logs[i].length lc)))
          have HSm := toHid (same14 am cm logs[i] la lc logs[i] wr.drew ((hs9.slR HBw.out).below ((Below.refl wr.heap.size wr).drew)) (hs.below ((Below.refl wr.heap.size wr).drew)) HLq.out HLq.out (by omega) (by omega))
          rw [decide_eq_true rfl] at HSm
          clear hs hs9 k9 c0
          go_wp2_with fail
          refine wp_region_held_drew (S := fun W => W.cell? ⟨g9, i, none⟩ = some (.slice am logs[i].length cm) ∧ W.cell? ⟨b, o + i, none⟩ = some (.slice la logs[i].length lc)) (by kernel_rfl) (HCx.out _ ((Below.refl wr.heap.size wr).drew)) (fun hHeld => ?_)
          refine wpAnyH_take (i := 0) (v := ?_) rfl (by kernel_rfl) (by kernel_rfl) (by kernel_rfl) (fun _ _ _ h => h) (Or.inl ⟨by rfl, ?_⟩) (by assumption) ?_
          rotate_left
          · (intro W hSw; (try obtain ⟨hS1, hS2⟩ := hSw); go_simp; try with_reducible rfl)
          try simp only [Act.put, List.getElem_toArray, List.getElem_cons_zero, List.getElem_cons_succ, List.setIfInBounds_toArray, List.set_cons_zero, List.set_cons_succ]
          refine wpAnyH_take (i := 1) (v := ?_) rfl (by kernel_rfl) (by kernel_rfl) (by kernel_rfl) (fun _ _ _ h => h) (Or.inl ⟨by rfl, ?_⟩) (by assumption) ?_
          rotate_left
          · (intro W hSw; (try obtain ⟨hS1, hS2⟩ := hSw); go_simp; try with_reducible rfl)
          try simp only [Act.put, List.getElem_toArray, List.getElem_cons_zero, List.getElem_cons_succ, List.setIfInBounds_toArray, List.set_cons_zero, List.set_cons_succ]
          refine wpAnyH_take (i := 2) (v := ?_) rfl (by kernel_rfl) (by kernel_rfl) (by kernel_rfl) (fun _ _ _ h => h) (Or.inl ⟨by rfl, ?_⟩) (by assumption) ?_
          rotate_left
          · (intro W hSw; (try obtain ⟨hS1, hS2⟩ := hSw); go_simp; try with_reducible rfl)
          try simp only [Act.put, List.getElem_toArray, List.getElem_cons_zero, List.getElem_cons_succ, List.setIfInBounds_toArray, List.set_cons_zero, List.set_cons_succ]
          refine wpAnyH_take (i := 3) (v := ?_) rfl (by kernel_rfl) (by kernel_rfl) (by kernel_rfl) (fun _ _ _ h => h) (Or.inl ⟨by rfl, ?_⟩) (by assumption) ?_
          rotate_left
          · (intro W hSw; (try obtain ⟨hS1, hS2⟩ := hSw); go_simp; try with_reducible rfl)
          try simp only [Act.put, List.getElem_toArray, List.getElem_cons_zero, List.getElem_cons_succ, List.setIfInBounds_toArray, List.set_cons_zero, List.set_cons_succ]
          refine wpAnyH_take (i := 4) (v := ?_) rfl (by kernel_rfl) (by kernel_rfl) (by kernel_rfl) (fun _ _ _ h => h) (Or.inl ⟨by rfl, ?_⟩) (by assumption) ?_
          rotate_left
          · (intro W hSw; (try obtain ⟨hS1, hS2⟩ := hSw); go_simp; try with_reducible rfl)
          try simp only [Act.put, List.getElem_toArray, List.getElem_cons_zero, List.getElem_cons_succ, List.setIfInBounds_toArray, List.set_cons_zero, List.set_cons_succ]
          refine wpAnyH_take (i := 5) (v := ?_) rfl (by kernel_rfl) (by kernel_rfl) (by kernel_rfl) (fun _ _ _ h => h) (Or.inl ⟨by rfl, ?_⟩) (by assumption) ?_
          rotate_left
          · (intro W hSw; (try obtain ⟨hS1, hS2⟩ := hSw); go_simp; try with_reducible rfl)
          try simp only [Act.put, List.getElem_toArray, List.getElem_cons_zero, List.getElem_cons_succ, List.setIfInBounds_toArray, List.set_cons_zero, List.set_cons_succ]
          refine wpAnyH_take (i := 6) (v := ?_) rfl (by kernel_rfl) (by kernel_rfl) (by kernel_rfl) (fun _ _ _ h => h) (Or.inl ⟨by rfl, ?_⟩) (by assumption) ?_
          rotate_left
          · (intro W hSw; (try obtain ⟨hS1, hS2⟩ := hSw); go_simp; try with_reducible rfl)
          try simp only [Act.put, List.getElem_toArray, List.getElem_cons_zero, List.getElem_cons_succ, List.setIfInBounds_toArray, List.set_cons_zero, List.set_cons_succ]
          refine wpAnyH_take (i := 7) (v := ?_) rfl (by kernel_rfl) (by kernel_rfl) (by kernel_rfl) (fun _ _ _ h => h) (Or.inl ⟨by rfl, ?_⟩) (by assumption) ?_
          rotate_left
          · (intro W hSw; (try obtain ⟨hS1, hS2⟩ := hSw); go_simp; try with_reducible rfl)
          try simp only [Act.put, List.getElem_toArray, List.getElem_cons_zero, List.getElem_cons_succ, List.setIfInBounds_toArray, List.set_cons_zero, List.set_cons_succ]
          refine wpAnyH_ready (rs := [8]) (by kernel_rfl) (by simp) ?_
          refine AllReadyH.cons rfl (fun K hK => ?_) AllReadyH.nil
          go_simp
          refine Calls.mono (HSm.out) ?_
          rintro e w7 ⟨rfl, hb7⟩
          have HB7 := toHid (((Below.refl wr.heap.size wr).drew).trans hb7)
          clear hb7 HSm
          try go_wp2_with fail
          refine hK.out _ _ (HCx.out _ HB7.out) (fun hHeld => ?_)
          clear hK K
          try simp only [Act.put, List.getElem_toArray, List.getElem_cons_zero, List.getElem_cons_succ, List.setIfInBounds_toArray, List.set_cons_zero, List.set_cons_succ]
          refine wpAnyH_take (i := 9) (v := ?_) rfl (by kernel_rfl) (by kernel_rfl) (by kernel_rfl) (fun _ _ _ h => h) (Or.inl ⟨by rfl, ?_⟩) (by assumption) ?_
          rotate_left
          · (intro W hSw; (try obtain ⟨hS1, hS2⟩ := hSw); go_simp; try with_reducible rfl)
          try simp only [Act.put, List.getElem_toArray, List.getElem_cons_zero, List.getElem_cons_succ, List.setIfInBounds_toArray, List.set_cons_zero, List.set_cons_succ]
          refine wpAnyH_done (by kernel_rfl) ?_ _
          clear hHeld
          have HMe := toHid (HMy.out.below HB7.out)
          have HBe := toHid (HBw.out.trans (HB7.out.mono HBw.out.size))
          go_wp2_with fail
          go_roundw
          case rel => exact ⟨i + 1, by omega, by go_num, HMe.out, HBe.out⟩
          case measure => simp [intOf]; omega
        · obtain rfl : i = logs.length := by omega
          go_wp2_with fail
          refine Calls.mono (lives10 _) ?_
          rintro e wl ⟨rfl, hbl⟩
          have HBL := toHid (HBw.out.trans (hbl.mono HBw.out.size))
          clear hbl
          go_wp2
          go_ret
          exact ⟨rfl, HBL.out⟩

end Go.Proofs.Ytnejcjebepidcaa
