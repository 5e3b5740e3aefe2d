/-
  NetPlays: the document's Take.
-/
import Derived.Test.YtfdpmffoajjchaaPb
namespace Go.Proofs.Ytfdpmffoajjchaa
open Go.RowKit Go.Conc

theorem results_two_rows {P : Program} {fn : Func} {p q u : Tmp} {ty ty' : TypeId} (h : fn.results = #[.cell p ty, .cell q ty', .tmp u]) (tmps : Array Value) (w : World) (g g' : Nat) (t t' : TypeId) (cs cs' : Array Value) (fr fr' : Nat × Nat) (d d' : TypeDesc)
    (hp : tmps.getD p undef = .pointer (some ⟨g, 0, none⟩)) (hq : tmps.getD q undef = .pointer (some ⟨g', 0, none⟩)) (hg : w.heap[g]? = some (.cells cs t fr)) (hg' : w.heap[g']? = some (.cells cs' t' fr'))
    (hu : P.underlying ty = some d) (hd : (match d with | .struct _ | .array _ _ => true | _ => false) = true) (hi : (P.info? ty).map (·.size) = some cs.size)
    (hu' : P.underlying ty' = some d') (hd' : (match d' with | .struct _ | .array _ _ => true | _ => false) = true) (hi' : (P.info? ty').map (·.size) = some cs'.size) :
    (results fn tmps).run P w = .ok (.tuple #[.agg cs, .agg cs', tmps.getD u undef]) w := by
  have hp' : tmps[p]?.getD undef = .pointer (some ⟨g, 0, none⟩) := by simpa using hp
  have hq' : tmps[q]?.getD undef = .pointer (some ⟨g', 0, none⟩) := by simpa using hq
  simp only [results, h]
  simp [Sem.run_bind, Result.andThen, hp', hq', asAddr, run_loadVar_row w g t ty cs fr d hg hu hd hi, run_loadVar_row w g' t' ty' cs' fr' d' hg' hu' hd' hi']

/-- The three boxes of the document's Take. -/
structure BoxT (w W : World) (A : Array Value) : Prop where
  h0 : W.heap[w.heap.size]? = some (.cells A 45)
  h1 : W.heap[w.heap.size + 1]? = some (.cells #[.int .i64 0, .slice none 0 0] 45)
  h2 : W.heap[w.heap.size + 2]? = some (.cells zeroC 31)
  bel : Below w.heap.size w W
theorem BoxT.new (w : World) (A : Array Value) : BoxT w (((w.alloc (.cells A 45)).alloc (.cells #[.int .i64 0, .slice none 0 0] 45)).alloc (.cells zeroC 31)) A := by
  refine ⟨?_, ?_, ?_, ((((Below.refl _ _).alloc (Nat.le_refl _) _).alloc (by simp) _).alloc (by simp; omega) _)⟩
  · rw [Below.heap_alloc _ _ _ (by simp; omega), Below.heap_alloc _ _ _ (by simp)]
    exact heap_alloc_new _ _
  · rw [Below.heap_alloc _ _ _ (by simp)]
    have := heap_alloc_new (w.alloc (.cells A 45)) (.cells #[.int .i64 0, .slice none 0 0] 45)
    simpa using this
  · have := heap_alloc_new ((w.alloc (.cells A 45)).alloc (.cells #[.int .i64 0, .slice none 0 0] 45)) (.cells zeroC 31)
    simpa using this
theorem BoxT.low {w W W' : World} {A : Array Value} {N : Nat} (h : BoxT w W A) (hb : Below N W W') (hN : w.heap.size + 2 < N) : BoxT w W' A :=
  ⟨by rw [hb.block _ (by omega)]; exact h.h0, by rw [hb.block _ (by omega)]; exact h.h1, by rw [hb.block _ (by omega)]; exact h.h2, h.bel.trans (hb.mono (by omega))⟩
theorem BoxT.lt {w W : World} {A : Array Value} (h : BoxT w W A) : w.heap.size + 2 < W.heap.size := (Array.getElem?_eq_some_iff.1 h.h2).1
theorem BoxT.below {w W W' : World} {A : Array Value} (h : BoxT w W A) (hb : Below W.heap.size W W') : BoxT w W' A := h.low hb h.lt
theorem grown_below {W y : World} {B e size n : Nat} {v : Value} {xs : List Value} (h : W.ownsRow B e size v n xs) (hg : W.grownBy y v.ownBlock) (hB : B ≤ W.heap.size) : Below B W y :=
  ⟨hg.os, hg.tape, hg.output, hg.size, fun k hk => hg.block k (by omega) (fun e => by have := (own_block h k e.symm).1; omega)⟩

set_option maxRecDepth 100000 in
set_option maxHeartbeats 2000000 in
theorem refTake_no (n : Int) (a : Option Addr) (c : Nat) (l : List It) (f t : Int) (w : World) (h : Rd w a (itsC l)) (hl : l.length ≤ 100000) (hno : ∀ (i : Nat) (hi : i < l.length), ¬ (l[i].frm = f ∧ l[i].tow = t)) :
    Calls Try.prog 32 #[refN n (.slice a l.length c), .int .i64 f, .int .i64 t] w fun e w' => e = .returned (.tuple #[refN n (.slice a l.length c), .agg zeroC, .bool false]) ∧ Below w.heap.size w w' := by
  have HR := toHid h
  have HX0 := toHid (BoxT.new w #[.int .i64 n, .slice a l.length c])
  have HNO := toHid hno
  clear h hno
  go_enter Try.func32, Try.ntmps32
  go_wp2_with fail
  go_loopw [9] (fun k W => ∃ i : Nat, i ≤ l.length ∧ k = .int .i64 i ∧ BoxT w W #[.int .i64 n, .slice a l.length c]) (fun k _ => l.length - (intOf k).toNat)
  case atStart => exact ⟨0, Nat.zero_le _, rfl, HX0.out⟩
  case round =>
    obtain ⟨i, hi, rfl, hX⟩ := hrel
    have HX := toHid hX
    obtain ⟨x0, x1, xf⟩ := cell2 hX.h0
    by_cases hlt : i < l.length
    · obtain ⟨b, o, rfl, hb, d0, d1, hm⟩ := item_at (HR.out.below hX.bel) i hlt
      have e1 : (i : Int) < (l.length : Int) := by omega
      have e2 : 0 ≤ (i : Int) := by omega
      have hh := HNO.out i hlt
      clear hm hX
      by_cases hf : l[i].frm = f
      · have z1 : (l[i].frm == f) = true := by simp [hf]
        have z2 : (l[i].tow == t) = false := by simp; exact fun e => hh ⟨hf, e⟩
        clear hh hf
        go_wp2_with fail
        go_roundw
        case rel => exact ⟨i + 1, by omega, by go_num, HX.out⟩
        case measure => simp [intOf]; omega
      · have z1 : (l[i].frm == f) = false := by simp [hf]
        clear hh hf
        go_wp2_with fail
        go_roundw
        case rel => exact ⟨i + 1, by omega, by go_num, HX.out⟩
        case measure => simp [intOf]; omega
    · have e1 : ¬ (i : Int) < (l.length : Int) := by omega
      obtain ⟨y0, y1, yf⟩ := cell2 hX.h1
      obtain ⟨q0, q1, q2, q3, q4, q5, q6, q7, q8, qf⟩ := cell9 hX.h2
      clear hX
      go_wp2_with fail
      have hf1 := put2_same (.int .i64 n) (.slice a l.length c) HX.out.h1
      have hb1 : Below w.heap.size w ((wr.setCell ⟨w.heap.size + 1, 0, none⟩ (.int .i64 n)).setCell ⟨w.heap.size + 1, 1, none⟩ (.slice a l.length c)) := (HX.out.bel.setCell (by simp) _).setCell (by simp) _
      have hf2 : ((wr.setCell ⟨w.heap.size + 1, 0, none⟩ (.int .i64 n)).setCell ⟨w.heap.size + 1, 1, none⟩ (.slice a l.length c)).heap[w.heap.size + 2]? = some (.cells zeroC 31) := by
        rw [heap_setCell_other _ _ _ _ (by simp), heap_setCell_other _ _ _ _ (by simp)]
        exact HX.out.h2
      have hf3 := put9_same (.int .i64 0) (.int .i64 0) (.int .i64 0) (.int .i64 0) (.bool false) (.int .u64 0) (.slice none 0 0) (.slice none 0 0) (.string ⟨#[]⟩) hf2
      have hf4 := (put9_other (W := ((wr.setCell ⟨w.heap.size + 1, 0, none⟩ (.int .i64 n)).setCell ⟨w.heap.size + 1, 1, none⟩ (.slice a l.length c))) (n := w.heap.size + 2) (.int .i64 0) (.int .i64 0) (.int .i64 0) (.int .i64 0) (.bool false) (.int .u64 0) (.slice none 0 0) (.slice none 0 0) (.string ⟨#[]⟩) (w.heap.size + 1) (by omega)).trans hf1
      (try simp only [Exit.inBlock, Exit.then])
      refine bodyPost_ret (results_two_rows (P := Try.prog) Try.results32 _ _ (w.heap.size + 1) (w.heap.size + 2) 45 31 _ _ (0, 0) (0, 0) _ _ rfl rfl hf4 hf3 Try.underlying45 rfl (by kernel_rfl) Try.underlying31 rfl (by kernel_rfl)) rfl ⟨rfl, ?_⟩
      exact put9_below _ _ _ _ _ _ _ _ _ hb1 (by omega)

theorem rd_take {W : World} {a : Option Addr} {l : List It} (h : Rd W a (itsC l)) (i : Nat) : Rd W a (itsC (l.take i)) := by
  have e : itsC l = itsC (l.take i) ++ itsC (l.drop i) := by rw [← itsC_append, List.take_append_drop]
  refine ⟨fun q => ?_, fun x hx j u hj => ?_⟩
  · have := h.nonil q
    rw [e] at this
    exact (List.append_eq_nil_iff.1 this).1
  · refine h.cells x hx j u ?_
    rw [e, List.getElem?_append_left (List.getElem?_eq_some_iff.1 hj).1]
    exact hj
theorem rd_drop {W : World} {b o : Nat} {l : List It} (h : Rd W (some ⟨b, o, none⟩) (itsC l)) (i : Nat) (hi : i ≤ l.length) : Rd W (some ⟨b, o + i * 11, none⟩) (itsC (l.drop i)) := by
  have e : itsC l = itsC (l.take i) ++ itsC (l.drop i) := by rw [← itsC_append, List.take_append_drop]
  refine ⟨fun q => by simp at q, fun x hx j u hj => ?_⟩
  simp at hx
  subst hx
  have hlen : (itsC (l.take i)).length = i * 11 := by rw [itsC_length, List.length_take, Nat.min_eq_left hi]
  have := (h.cells _ rfl (i * 11 + j) u (by rw [e, List.getElem?_append_right (by omega), hlen]; simpa using hj)).2
  exact ⟨rfl, by simpa [Nat.add_assoc] using this⟩

set_option maxRecDepth 100000 in
set_option maxHeartbeats 4000000 in
theorem refTake_yes (n : Int) (a : Option Addr) (c : Nat) (l : List It) (f t : Int) (w : World) (h : Rd w a (itsC l)) (hl : l.length ≤ 100000) (hlc : l.length ≤ c) (k : Nat) (hk : k < l.length) (hhit : l[k].frm = f ∧ l[k].tow = t) (hno : ∀ (i : Nat) (hi : i < l.length), i < k → ¬ (l[i].frm = f ∧ l[i].tow = t)) :
    Calls Try.prog 32 #[refN n (.slice a l.length c), .int .i64 f, .int .i64 t] w fun e w' => ∃ v', e = .returned (.tuple #[refN n v', msV l[k].m l[k].p, .bool true]) ∧ w'.ownsRow w.heap.size 82 11 v' (k + (l.length - (k + 1))) (itsC (l.take k ++ l.drop (k + 1))) ∧ Below w.heap.size w w' := by
  obtain ⟨i0, hi0, hz0, hz1, hz2⟩ := info_parts info82
  have HR := toHid h
  have HX0 := toHid (BoxT.new w #[.int .i64 n, .slice a l.length c])
  have HNO := toHid hno
  have HHT := toHid hhit
  clear h hno hhit
  go_enter Try.func32, Try.ntmps32
  go_wp2_with fail
  go_loopw [9] (fun q W => ∃ i : Nat, i ≤ k ∧ q = .int .i64 i ∧ BoxT w W #[.int .i64 n, .slice a l.length c]) (fun q _ => l.length - (intOf q).toNat)
  case atStart => exact ⟨0, Nat.zero_le _, rfl, HX0.out⟩
  case round =>
    obtain ⟨i, hi, rfl, hX⟩ := hrel
    have HX := toHid hX
    obtain ⟨x0, x1, xf⟩ := cell2 hX.h0
    have hlt : i < l.length := by omega
    obtain ⟨b, o, rfl, hb, d0, d1, hm⟩ := item_at (HR.out.below hX.bel) i hlt
    have e1 : (i : Int) < (l.length : Int) := by omega
    have e2 : 0 ≤ (i : Int) := by omega
    by_cases hik : i < k
    · have hh := HNO.out i hlt hik
      clear hm hX
      by_cases hf : l[i].frm = f
      · have z1 : (l[i].frm == f) = true := by simp [hf]
        have z2 : (l[i].tow == t) = false := by simp; exact fun e => hh ⟨hf, e⟩
        clear hh hf
        go_wp2_with fail
        go_roundw
        case rel => exact ⟨i + 1, by omega, by go_num, HX.out⟩
        case measure => simp [intOf]; omega
      · have z1 : (l[i].frm == f) = false := by simp [hf]
        clear hh hf
        go_wp2_with fail
        go_roundw
        case rel => exact ⟨i + 1, by omega, by go_num, HX.out⟩
        case measure => simp [intOf]; omega
    · obtain rfl : i = k := by omega
      have z1 : (l[i].frm == f) = true := by simp [HHT.out.1]
      have z2 : (l[i].tow == t) = true := by simp [HHT.out.2]
      obtain ⟨fr, hfr⟩ : ∃ x, x = l[i].frm := ⟨_, rfl⟩
      obtain ⟨tw, htw⟩ : ∃ x, x = l[i].tow := ⟨_, rfl⟩
      rw [← hfr] at d0 z1
      rw [← htw] at d1 z2
      obtain ⟨m, hmm⟩ : ∃ m, m = l[i].m := ⟨_, rfl⟩
      obtain ⟨p, hpp⟩ : ∃ p, p = l[i].p := ⟨_, rfl⟩
      rw [← hmm, ← hpp] at hm
      have HMP : Hid (msV m p = msV l[i].m l[i].p) := by show _ = _; rw [hmm, hpp]
      obtain ⟨wa, wc, pa, pc⟩ := p
      obtain ⟨q0, q1, q2, q3, q4, q5, q6, q7, q8⟩ := nine hm
      simp only at q6 q7
      have hic : (i : Int) ≤ (c : Int) := by omega
      have hic1 : (i : Int) + 1 ≤ (c : Int) := by omega
      have hic2 : (i : Int) + 1 ≤ (l.length : Int) := by omega
      have HRr := toHid (HR.out.below HX.out.bel)
      clear hfr htw hmm hpp hm hX
      have hb3 : Below wr.heap.size wr (wr.alloc (.cells (msC m ⟨wa, wc, pa, pc⟩) 31)) := (Below.refl _ _).alloc (Nat.le_refl _) _
      have HX3 := toHid (HX.out.below hb3)
      have HRd3 := toHid (HRr.out.below hb3)
      have HC3 : Hid ((wr.alloc (.cells (msC m ⟨wa, wc, pa, pc⟩) 31)).heap[wr.heap.size]? = some (.cells (msC m ⟨wa, wc, pa, pc⟩) 31)) := heap_alloc_new _ _
      have hz3 : (wr.alloc (.cells (msC m ⟨wa, wc, pa, pc⟩) 31)).heap.size = wr.heap.size + 1 := by simp
      have HZ3 := toHid hz3
      obtain ⟨r0, r1, rf⟩ := cell2 HX3.out.h0
      have HT3 := toHid (rd_take HRd3.out i)
      have HTl : Hid ((itsC (l.take i)).length = i * 11) := by show _ = _; rw [itsC_length, List.length_take, Nat.min_eq_left (by omega)]
      have HDl : Hid ((itsC (l.drop (i + 1))).length = (l.length - (i + 1)) * 11) := by show _ = _; rw [itsC_length, List.length_drop]
      clear hb3 hz3
      by_cases hci : c = i + 1
      · have HLL : Hid (l.length - (i + 1) = 0) := by show _ = _; omega
        have hl1 : l.length = i + 1 := by omega
        go_wp2_with (at_builtin; first
          | (refine wpList_append_src _ rfl (.tmp 43) (.tmp 47) 43 rfl (wr.heap.size + 1) 82 i0 _ 11 128 Try.underlying43 hi0 hz0 hz1 hz2 rfl (by decide) (.slice none 0 0) 0 [] rfl (World.ownsRow_nil _ _ _ _) (some ⟨b, o, none⟩) i (i + 1) (itsC (l.take i)) rfl (fun e => by cases e) HTl.out HT3.out.flat (itsC_ones _) (by unfold maxLen; omega) (by omega) (by rw [HZ3.out]; exact Nat.le_refl _) ?_; intro v4 w4 hown4 hgrow4 _; rw [Nat.zero_add, List.nil_append] at hown4; obtain ⟨a4, c4, rfl⟩ := ownsRow_shape hown4; have HO4 := toHid hown4; have hb4 : Below (wr.alloc (.cells (msC m ⟨wa, wc, pa, pc⟩) 31)).heap.size (wr.alloc (.cells (msC m ⟨wa, wc, pa, pc⟩) 31)) w4 := ⟨hgrow4.os, hgrow4.tape, hgrow4.output, hgrow4.size, fun k hk => hgrow4.block k hk (by simp [Value.ownBlock])⟩; have HX4 := toHid (HX3.out.below hb4); have HC4 := toHid (KeepC.below hb4 _ _ _ _ HC3.out); have HRd4 := toHid (HRd3.out.below hb4); have hs4 := hb4.size; rw [HZ3.out] at hs4; have HS4 := toHid hs4; clear hown4 hgrow4 hb4 hs4 r0 r1 rf; obtain ⟨r0, r1, rf⟩ := cell2 HX4.out.h0)
          | (go_must (refine wpList_append_src _ rfl (.tmp 49) (.tmp 54) 43 rfl (wr.heap.size + 1) 82 i0 _ 11 128 Try.underlying43 hi0 hz0 hz1 hz2 rfl (by decide) (.slice a4 i c4) i (itsC (l.take i)) rfl HO4.out (some ⟨b, o, none⟩) 0 0 (itsC (l.drop (i + 1))) rfl (fun e => by cases e) (by rw [HDl.out, HLL.out]) (fun y _ j u hj => by have hn : itsC (l.drop (i + 1)) = [] := List.eq_nil_of_length_eq_zero (by rw [HDl.out, HLL.out]); rw [hn] at hj; simp at hj) (itsC_ones _) (by unfold maxLen; omega) (by omega) HS4.out ?_; intro v5 w5 hown5 hgrow5 _; obtain ⟨a5, c5, rfl⟩ := ownsRow_shape hown5; have hb5 := grown_below HO4.out hgrow5 HS4.out; have HX5 := toHid (HX4.out.low hb5 (by have := HX.out.lt; omega)); have HC5 : Hid (w5.heap[wr.heap.size]? = some (.cells (msC m ⟨wa, wc, pa, pc⟩) 31)) := (by rw [hb5.block _ (by omega)]; exact HC4.out); have HO5 := toHid hown5; clear hown5 hgrow5 hb5 r0 r1 rf; obtain ⟨r0, r1, rf⟩ := cell2 HX5.out.h0)))
        obtain ⟨m0, m1, m2, m3, m4, m5, m6, m7, m8, mf⟩ := cell9 HC5.out
        have hS0 : (fun W => W.cell? ⟨w.heap.size, 0, none⟩ = some (.int .i64 n) ∧ W.cell? ⟨wr.heap.size, 0, none⟩ = some (.int .i64 m.kind) ∧ W.cell? ⟨wr.heap.size, 1, none⟩ = some (.int .i64 m.txn) ∧ W.cell? ⟨wr.heap.size, 2, none⟩ = some (.int .i64 m.page) ∧ W.cell? ⟨wr.heap.size, 3, none⟩ = some (.int .i64 m.to) ∧ W.cell? ⟨wr.heap.size, 4, none⟩ = some (.bool m.fast) ∧ W.cell? ⟨wr.heap.size, 5, none⟩ = some (.int .u64 (m.lsn : Int)) ∧ W.cell? ⟨wr.heap.size, 6, none⟩ = some (.slice wa m.wants.length wc) ∧ W.cell? ⟨wr.heap.size, 7, none⟩ = some (.slice pa m.pages.length pc) ∧ W.cell? ⟨wr.heap.size, 8, none⟩ = some (.string (txt m.body))) w5.drew := ⟨r0, m0, m1, m2, m3, m4, m5, m6, m7, m8⟩
        have HS0 := toHid hS0
        clear hS0
        refine wp_region_held_drew (S := fun W => W.cell? ⟨w.heap.size, 0, none⟩ = some (.int .i64 n) ∧ W.cell? ⟨wr.heap.size, 0, none⟩ = some (.int .i64 m.kind) ∧ W.cell? ⟨wr.heap.size, 1, none⟩ = some (.int .i64 m.txn) ∧ W.cell? ⟨wr.heap.size, 2, none⟩ = some (.int .i64 m.page) ∧ W.cell? ⟨wr.heap.size, 3, none⟩ = some (.int .i64 m.to) ∧ W.cell? ⟨wr.heap.size, 4, none⟩ = some (.bool m.fast) ∧ W.cell? ⟨wr.heap.size, 5, none⟩ = some (.int .u64 (m.lsn : Int)) ∧ W.cell? ⟨wr.heap.size, 6, none⟩ = some (.slice wa m.wants.length wc) ∧ W.cell? ⟨wr.heap.size, 7, none⟩ = some (.slice pa m.pages.length pc) ∧ W.cell? ⟨wr.heap.size, 8, none⟩ = some (.string (txt m.body))) (by kernel_rfl) HS0.out (fun hHeld => ?_)
        have HXd : Hid (BoxT w w5.drew #[.int .i64 n, .slice (some ⟨b, o, none⟩) l.length c]) := HX5.out.below ((Below.refl _ _).drew)
        have HCd : Hid (w5.drew.heap[wr.heap.size]? = some (.cells (msC m ⟨wa, wc, pa, pc⟩) 31)) := HC5.out
        have HOd := toHid (own_keep HO5.out (KeepC.below ((Below.refl _ w5).drew)))
        clear HX5 HC5 HO5 HS0 r0 r1 rf m0 m1 m2 m3 m4 m5 m6 m7 m8 mf
        generalize hw5 : w5.drew = wd at HXd HCd HOd hHeld ⊢
        clear hw5
        refine wpAnyH_take (i := 0) (v := ?_) rfl (by kernel_rfl) (by kernel_rfl) (by kernel_rfl) (fun _ _ _ h => h) (Or.inl ⟨by rfl, ?_⟩) (by assumption) ?_
        rotate_left
        · (intro W hSw; obtain ⟨x0, m0, m1, m2, m3, m4, m5, m6, m7, m8⟩ := hSw; go_simp; try with_reducible rfl)
        try simp only [Act.put, List.getElem_toArray, List.getElem_cons_zero, List.setIfInBounds_toArray, List.set_cons_zero, List.set_cons_succ]
        refine wpAnyH_take (i := 1) (v := ?_) rfl (by kernel_rfl) (by kernel_rfl) (by kernel_rfl) (fun _ _ _ h => h) (Or.inl ⟨by rfl, ?_⟩) (by assumption) ?_
        rotate_left
        · (intro W hSw; obtain ⟨x0, m0, m1, m2, m3, m4, m5, m6, m7, m8⟩ := hSw; go_simp; try with_reducible rfl)
        try simp only [Act.put, List.getElem_toArray, List.getElem_cons_zero, List.getElem_cons_succ, List.setIfInBounds_toArray, List.set_cons_zero, List.set_cons_succ]
        refine wpAnyH_take (i := 2) (v := ?_) rfl (by kernel_rfl) (by kernel_rfl) (by kernel_rfl) (fun _ _ _ h => h) (Or.inl ⟨by rfl, ?_⟩) (by assumption) ?_
        rotate_left
        · (intro W hSw; obtain ⟨x0, m0, m1, m2, m3, m4, m5, m6, m7, m8⟩ := hSw; go_simp; try with_reducible rfl)
        try simp only [Act.put, List.getElem_toArray, List.getElem_cons_zero, List.getElem_cons_succ, List.setIfInBounds_toArray, List.set_cons_zero, List.set_cons_succ]
        refine wpAnyH_take (i := 3) (v := ?_) rfl (by kernel_rfl) (by kernel_rfl) (by kernel_rfl) (fun _ _ _ h => h) (Or.inl ⟨by rfl, ?_⟩) (by assumption) ?_
        rotate_left
        · (intro W hSw; obtain ⟨x0, m0, m1, m2, m3, m4, m5, m6, m7, m8⟩ := hSw; go_simp; try with_reducible rfl)
        try simp only [Act.put, List.getElem_toArray, List.getElem_cons_zero, List.getElem_cons_succ, List.setIfInBounds_toArray, List.set_cons_zero, List.set_cons_succ]
        refine wpAnyH_take (i := 4) (v := ?_) rfl (by kernel_rfl) (by kernel_rfl) (by kernel_rfl) (fun _ _ _ h => h) (Or.inl ⟨by rfl, ?_⟩) (by assumption) ?_
        rotate_left
        · (intro W hSw; obtain ⟨x0, m0, m1, m2, m3, m4, m5, m6, m7, m8⟩ := hSw; go_simp; try with_reducible rfl)
        try simp only [Act.put, List.getElem_toArray, List.getElem_cons_zero, List.getElem_cons_succ, List.setIfInBounds_toArray, List.set_cons_zero, List.set_cons_succ]
        refine wpAnyH_ready (rs := [5]) (by kernel_rfl) (by simp) ?_
        refine AllReadyH.cons rfl (fun K hK => ?_) AllReadyH.nil
        clear hHeld
        obtain ⟨y0, y1, yf⟩ := cell2 HXd.out.h1
        go_simp
        have HF1 := toHid (put2_same (.int .i64 n) (.slice a5 (i + 0) c5) HXd.out.h1)
        have HB1 : Hid (Below w.heap.size w ((wd.setCell ⟨w.heap.size + 1, 0, none⟩ (.int .i64 n)).setCell ⟨w.heap.size + 1, 1, none⟩ (.slice a5 (i + 0) c5))) := (HXd.out.bel.setCell (by simp) _).setCell (by simp) _
        have HK1 : Hid (∀ q, q ≠ w.heap.size + 1 → ((wd.setCell ⟨w.heap.size + 1, 0, none⟩ (.int .i64 n)).setCell ⟨w.heap.size + 1, 1, none⟩ (.slice a5 (i + 0) c5)).heap[q]? = wd.heap[q]?) := fun q hq => by rw [heap_setCell_other _ _ _ _ hq, heap_setCell_other _ _ _ _ hq]
        have hne : wr.heap.size ≠ w.heap.size + 1 := by have := HX.out.lt; omega
        refine hK.out _ _ ?_ (fun hHeld => ?_)
        · obtain ⟨r0, r1, rf⟩ := cell2 ((HK1.out w.heap.size (by omega)).trans HXd.out.h0)
          obtain ⟨m0, m1, m2, m3, m4, m5, m6, m7, m8, mf⟩ := cell9 ((HK1.out wr.heap.size hne).trans HCd.out)
          exact ⟨r0, m0, m1, m2, m3, m4, m5, m6, m7, m8⟩
        clear hK K y0 y1 yf
        try simp only [Act.put, List.getElem_toArray, List.getElem_cons_zero, List.getElem_cons_succ, List.setIfInBounds_toArray, List.set_cons_zero, List.set_cons_succ]
        generalize hw6 : (wd.setCell ⟨w.heap.size + 1, 0, none⟩ (.int .i64 n)).setCell ⟨w.heap.size + 1, 1, none⟩ (.slice a5 (i + 0) c5) = w6 at HF1 HB1 HK1 hHeld ⊢
        clear hw6
        refine wpAnyH_ready (rs := [6]) (by kernel_rfl) (by simp) ?_
        refine AllReadyH.cons rfl (fun K hK => ?_) AllReadyH.nil
        clear hHeld
        have HC6 := toHid ((HK1.out (w.heap.size + 2) (by omega)).trans HXd.out.h2)
        obtain ⟨s0, s1, s2, s3, s4, s5, s6, s7, s8, sf⟩ := cell9 HC6.out
        go_simp
        have HF2 := toHid (put9_same (.int .i64 m.kind) (.int .i64 m.txn) (.int .i64 m.page) (.int .i64 m.to) (.bool m.fast) (.int .u64 (m.lsn : Int)) (.slice wa m.wants.length wc) (.slice pa m.pages.length pc) (.string (txt m.body)) HC6.out)
        have HK2 : Hid (∀ q, q ≠ w.heap.size + 2 → (put9 w6 (w.heap.size + 2) (.int .i64 m.kind) (.int .i64 m.txn) (.int .i64 m.page) (.int .i64 m.to) (.bool m.fast) (.int .u64 (m.lsn : Int)) (.slice wa m.wants.length wc) (.slice pa m.pages.length pc) (.string (txt m.body))).heap[q]? = w6.heap[q]?) := fun q hq => put9_other _ _ _ _ _ _ _ _ _ q hq
        have hne2 : wr.heap.size ≠ w.heap.size + 2 := by have := HX.out.lt; omega
        refine hK.out _ (put9 w6 (w.heap.size + 2) (.int .i64 m.kind) (.int .i64 m.txn) (.int .i64 m.page) (.int .i64 m.to) (.bool m.fast) (.int .u64 (m.lsn : Int)) (.slice wa m.wants.length wc) (.slice pa m.pages.length pc) (.string (txt m.body))) ?_ (fun hHeld => ?_)
        · obtain ⟨r0, r1, rf⟩ := cell2 ((HK2.out w.heap.size (by omega)).trans ((HK1.out w.heap.size (by omega)).trans HXd.out.h0))
          obtain ⟨m0, m1, m2, m3, m4, m5, m6, m7, m8, mf⟩ := cell9 ((HK2.out wr.heap.size hne2).trans ((HK1.out wr.heap.size hne).trans HCd.out))
          exact ⟨r0, m0, m1, m2, m3, m4, m5, m6, m7, m8⟩
        clear hK K s0 s1 s2 s3 s4 s5 s6 s7 s8 sf
        try simp only [Act.put, List.getElem_toArray, List.getElem_cons_zero, List.getElem_cons_succ, List.setIfInBounds_toArray, List.set_cons_zero, List.set_cons_succ]
        generalize hw7 : put9 w6 (w.heap.size + 2) (.int .i64 m.kind) (.int .i64 m.txn) (.int .i64 m.page) (.int .i64 m.to) (.bool m.fast) (.int .u64 (m.lsn : Int)) (.slice wa m.wants.length wc) (.slice pa m.pages.length pc) (.string (txt m.body)) = w7 at HF2 HK2 hHeld ⊢
        have HB7 : Hid (Below w.heap.size w w7) := by rw [← hw7]; exact put9_below _ _ _ _ _ _ _ _ _ HB1.out (by omega)
        clear hw7
        refine wpAnyH_take (i := 7) (v := ?_) rfl (by kernel_rfl) (by kernel_rfl) (by kernel_rfl) (fun _ _ _ h => h) (Or.inl ⟨by rfl, ?_⟩) (by assumption) ?_
        rotate_left
        · (intro W hSw; obtain ⟨x0, m0, m1, m2, m3, m4, m5, m6, m7, m8⟩ := hSw; go_simp; try with_reducible rfl)
        try simp only [Act.put, List.getElem_toArray, List.getElem_cons_zero, List.getElem_cons_succ, List.setIfInBounds_toArray, List.set_cons_zero, List.set_cons_succ]
        refine wpAnyH_done (by kernel_rfl) ?_ _
        simp only [Exit.then]
        go_wp2_with fail
        (try simp only [Exit.inBlock, Exit.then])
        have HO7 : Hid (w7.ownsRow w.heap.size 82 11 (.slice a5 (i + 0) c5) (i + (l.length - (i + 1))) (itsC (l.take i ++ l.drop (i + 1)))) := by
          rw [itsC_append]
          have hq := own_stay (w' := w7) HOd.out (fun q c hk hc => by
            rw [HK2.out q (kind_ne hc HXd.out.h2 (by decide)), HK1.out q (kind_ne hc HXd.out.h1 (by decide))])
          rw [HLL.out]; exact row_low hq (by have := HX.out.bel.size; omega)
        refine bodyPost_ret (results_two_rows (P := Try.prog) Try.results32 _ _ (w.heap.size + 1) (w.heap.size + 2) 45 31 _ _ (0, 0) (0, 0) _ _ rfl rfl ((HK2.out _ (by omega)).trans HF1.out) HF2.out Try.underlying45 rfl (by kernel_rfl) Try.underlying31 rfl (by kernel_rfl)) rfl ⟨_, ?_, HO7.out, HB7.out⟩
        rw [← HMP.out]
        rfl
      · have hci2 : (i : Int) + 1 < (c : Int) := by omega
        go_wp2_with (at_builtin; first
          | (refine wpList_append_src _ rfl (.tmp 43) (.tmp 47) 43 rfl (wr.heap.size + 1) 82 i0 _ 11 128 Try.underlying43 hi0 hz0 hz1 hz2 rfl (by decide) (.slice none 0 0) 0 [] rfl (World.ownsRow_nil _ _ _ _) (some ⟨b, o, none⟩) i c (itsC (l.take i)) rfl (fun e => by cases e) HTl.out HT3.out.flat (itsC_ones _) (by unfold maxLen; omega) (by omega) (by rw [HZ3.out]; exact Nat.le_refl _) ?_; intro v4 w4 hown4 hgrow4 _; rw [Nat.zero_add, List.nil_append] at hown4; obtain ⟨a4, c4, rfl⟩ := ownsRow_shape hown4; have HO4 := toHid hown4; have hb4 : Below (wr.alloc (.cells (msC m ⟨wa, wc, pa, pc⟩) 31)).heap.size (wr.alloc (.cells (msC m ⟨wa, wc, pa, pc⟩) 31)) w4 := ⟨hgrow4.os, hgrow4.tape, hgrow4.output, hgrow4.size, fun k hk => hgrow4.block k hk (by simp [Value.ownBlock])⟩; have HX4 := toHid (HX3.out.below hb4); have HC4 := toHid (KeepC.below hb4 _ _ _ _ HC3.out); have HRd4 := toHid (HRd3.out.below hb4); have hs4 := hb4.size; rw [HZ3.out] at hs4; have HS4 := toHid hs4; clear hown4 hgrow4 hb4 hs4 r0 r1 rf; obtain ⟨r0, r1, rf⟩ := cell2 HX4.out.h0)
          | (go_must (refine wpList_append_src _ rfl (.tmp 49) (.tmp 54) 43 rfl (wr.heap.size + 1) 82 i0 _ 11 128 Try.underlying43 hi0 hz0 hz1 hz2 rfl (by decide) (.slice a4 i c4) i (itsC (l.take i)) rfl HO4.out (some ⟨b, o + (i + 1) * 11, none⟩) (l.length - (i + 1)) (c - (i + 1)) (itsC (l.drop (i + 1))) rfl (fun e => by cases e) HDl.out (rd_drop HRd4.out (i + 1) (by omega)).flat (itsC_ones _) (by unfold maxLen; omega) (by omega) HS4.out ?_; intro v5 w5 hown5 hgrow5 _; obtain ⟨a5, c5, rfl⟩ := ownsRow_shape hown5; have hb5 := grown_below HO4.out hgrow5 HS4.out; have HX5 := toHid (HX4.out.low hb5 (by have := HX.out.lt; omega)); have HC5 : Hid (w5.heap[wr.heap.size]? = some (.cells (msC m ⟨wa, wc, pa, pc⟩) 31)) := (by rw [hb5.block _ (by omega)]; exact HC4.out); have HO5 := toHid hown5; clear hown5 hgrow5 hb5 r0 r1 rf; obtain ⟨r0, r1, rf⟩ := cell2 HX5.out.h0)))
        obtain ⟨m0, m1, m2, m3, m4, m5, m6, m7, m8, mf⟩ := cell9 HC5.out
        have hS0 : (fun W => W.cell? ⟨w.heap.size, 0, none⟩ = some (.int .i64 n) ∧ W.cell? ⟨wr.heap.size, 0, none⟩ = some (.int .i64 m.kind) ∧ W.cell? ⟨wr.heap.size, 1, none⟩ = some (.int .i64 m.txn) ∧ W.cell? ⟨wr.heap.size, 2, none⟩ = some (.int .i64 m.page) ∧ W.cell? ⟨wr.heap.size, 3, none⟩ = some (.int .i64 m.to) ∧ W.cell? ⟨wr.heap.size, 4, none⟩ = some (.bool m.fast) ∧ W.cell? ⟨wr.heap.size, 5, none⟩ = some (.int .u64 (m.lsn : Int)) ∧ W.cell? ⟨wr.heap.size, 6, none⟩ = some (.slice wa m.wants.length wc) ∧ W.cell? ⟨wr.heap.size, 7, none⟩ = some (.slice pa m.pages.length pc) ∧ W.cell? ⟨wr.heap.size, 8, none⟩ = some (.string (txt m.body))) w5.drew := ⟨r0, m0, m1, m2, m3, m4, m5, m6, m7, m8⟩
        have HS0 := toHid hS0
        clear hS0
        refine wp_region_held_drew (S := fun W => W.cell? ⟨w.heap.size, 0, none⟩ = some (.int .i64 n) ∧ W.cell? ⟨wr.heap.size, 0, none⟩ = some (.int .i64 m.kind) ∧ W.cell? ⟨wr.heap.size, 1, none⟩ = some (.int .i64 m.txn) ∧ W.cell? ⟨wr.heap.size, 2, none⟩ = some (.int .i64 m.page) ∧ W.cell? ⟨wr.heap.size, 3, none⟩ = some (.int .i64 m.to) ∧ W.cell? ⟨wr.heap.size, 4, none⟩ = some (.bool m.fast) ∧ W.cell? ⟨wr.heap.size, 5, none⟩ = some (.int .u64 (m.lsn : Int)) ∧ W.cell? ⟨wr.heap.size, 6, none⟩ = some (.slice wa m.wants.length wc) ∧ W.cell? ⟨wr.heap.size, 7, none⟩ = some (.slice pa m.pages.length pc) ∧ W.cell? ⟨wr.heap.size, 8, none⟩ = some (.string (txt m.body))) (by kernel_rfl) HS0.out (fun hHeld => ?_)
        have HXd : Hid (BoxT w w5.drew #[.int .i64 n, .slice (some ⟨b, o, none⟩) l.length c]) := HX5.out.below ((Below.refl _ _).drew)
        have HCd : Hid (w5.drew.heap[wr.heap.size]? = some (.cells (msC m ⟨wa, wc, pa, pc⟩) 31)) := HC5.out
        have HOd := toHid (own_keep HO5.out (KeepC.below ((Below.refl _ w5).drew)))
        clear HX5 HC5 HO5 HS0 r0 r1 rf m0 m1 m2 m3 m4 m5 m6 m7 m8 mf
        generalize hw5 : w5.drew = wd at HXd HCd HOd hHeld ⊢
        clear hw5
        refine wpAnyH_take (i := 0) (v := ?_) rfl (by kernel_rfl) (by kernel_rfl) (by kernel_rfl) (fun _ _ _ h => h) (Or.inl ⟨by rfl, ?_⟩) (by assumption) ?_
        rotate_left
        · (intro W hSw; obtain ⟨x0, m0, m1, m2, m3, m4, m5, m6, m7, m8⟩ := hSw; go_simp; try with_reducible rfl)
        try simp only [Act.put, List.getElem_toArray, List.getElem_cons_zero, List.setIfInBounds_toArray, List.set_cons_zero, List.set_cons_succ]
        refine wpAnyH_take (i := 1) (v := ?_) rfl (by kernel_rfl) (by kernel_rfl) (by kernel_rfl) (fun _ _ _ h => h) (Or.inl ⟨by rfl, ?_⟩) (by assumption) ?_
        rotate_left
        · (intro W hSw; obtain ⟨x0, m0, m1, m2, m3, m4, m5, m6, m7, m8⟩ := hSw; go_simp; try with_reducible rfl)
        try simp only [Act.put, List.getElem_toArray, List.getElem_cons_zero, List.getElem_cons_succ, List.setIfInBounds_toArray, List.set_cons_zero, List.set_cons_succ]
        refine wpAnyH_take (i := 2) (v := ?_) rfl (by kernel_rfl) (by kernel_rfl) (by kernel_rfl) (fun _ _ _ h => h) (Or.inl ⟨by rfl, ?_⟩) (by assumption) ?_
        rotate_left
        · (intro W hSw; obtain ⟨x0, m0, m1, m2, m3, m4, m5, m6, m7, m8⟩ := hSw; go_simp; try with_reducible rfl)
        try simp only [Act.put, List.getElem_toArray, List.getElem_cons_zero, List.getElem_cons_succ, List.setIfInBounds_toArray, List.set_cons_zero, List.set_cons_succ]
        refine wpAnyH_take (i := 3) (v := ?_) rfl (by kernel_rfl) (by kernel_rfl) (by kernel_rfl) (fun _ _ _ h => h) (Or.inl ⟨by rfl, ?_⟩) (by assumption) ?_
        rotate_left
        · (intro W hSw; obtain ⟨x0, m0, m1, m2, m3, m4, m5, m6, m7, m8⟩ := hSw; go_simp; try with_reducible rfl)
        try simp only [Act.put, List.getElem_toArray, List.getElem_cons_zero, List.getElem_cons_succ, List.setIfInBounds_toArray, List.set_cons_zero, List.set_cons_succ]
        refine wpAnyH_take (i := 4) (v := ?_) rfl (by kernel_rfl) (by kernel_rfl) (by kernel_rfl) (fun _ _ _ h => h) (Or.inl ⟨by rfl, ?_⟩) (by assumption) ?_
        rotate_left
        · (intro W hSw; obtain ⟨x0, m0, m1, m2, m3, m4, m5, m6, m7, m8⟩ := hSw; go_simp; try with_reducible rfl)
        try simp only [Act.put, List.getElem_toArray, List.getElem_cons_zero, List.getElem_cons_succ, List.setIfInBounds_toArray, List.set_cons_zero, List.set_cons_succ]
        refine wpAnyH_ready (rs := [5]) (by kernel_rfl) (by simp) ?_
        refine AllReadyH.cons rfl (fun K hK => ?_) AllReadyH.nil
        clear hHeld
        obtain ⟨y0, y1, yf⟩ := cell2 HXd.out.h1
        go_simp
        have HF1 := toHid (put2_same (.int .i64 n) (.slice a5 (i + (l.length - (i + 1))) c5) HXd.out.h1)
        have HB1 : Hid (Below w.heap.size w ((wd.setCell ⟨w.heap.size + 1, 0, none⟩ (.int .i64 n)).setCell ⟨w.heap.size + 1, 1, none⟩ (.slice a5 (i + (l.length - (i + 1))) c5))) := (HXd.out.bel.setCell (by simp) _).setCell (by simp) _
        have HK1 : Hid (∀ q, q ≠ w.heap.size + 1 → ((wd.setCell ⟨w.heap.size + 1, 0, none⟩ (.int .i64 n)).setCell ⟨w.heap.size + 1, 1, none⟩ (.slice a5 (i + (l.length - (i + 1))) c5)).heap[q]? = wd.heap[q]?) := fun q hq => by rw [heap_setCell_other _ _ _ _ hq, heap_setCell_other _ _ _ _ hq]
        have hne : wr.heap.size ≠ w.heap.size + 1 := by have := HX.out.lt; omega
        refine hK.out _ _ ?_ (fun hHeld => ?_)
        · obtain ⟨r0, r1, rf⟩ := cell2 ((HK1.out w.heap.size (by omega)).trans HXd.out.h0)
          obtain ⟨m0, m1, m2, m3, m4, m5, m6, m7, m8, mf⟩ := cell9 ((HK1.out wr.heap.size hne).trans HCd.out)
          exact ⟨r0, m0, m1, m2, m3, m4, m5, m6, m7, m8⟩
        clear hK K y0 y1 yf
        try simp only [Act.put, List.getElem_toArray, List.getElem_cons_zero, List.getElem_cons_succ, List.setIfInBounds_toArray, List.set_cons_zero, List.set_cons_succ]
        generalize hw6 : (wd.setCell ⟨w.heap.size + 1, 0, none⟩ (.int .i64 n)).setCell ⟨w.heap.size + 1, 1, none⟩ (.slice a5 (i + (l.length - (i + 1))) c5) = w6 at HF1 HB1 HK1 hHeld ⊢
        clear hw6
        refine wpAnyH_ready (rs := [6]) (by kernel_rfl) (by simp) ?_
        refine AllReadyH.cons rfl (fun K hK => ?_) AllReadyH.nil
        clear hHeld
        have HC6 := toHid ((HK1.out (w.heap.size + 2) (by omega)).trans HXd.out.h2)
        obtain ⟨s0, s1, s2, s3, s4, s5, s6, s7, s8, sf⟩ := cell9 HC6.out
        go_simp
        have HF2 := toHid (put9_same (.int .i64 m.kind) (.int .i64 m.txn) (.int .i64 m.page) (.int .i64 m.to) (.bool m.fast) (.int .u64 (m.lsn : Int)) (.slice wa m.wants.length wc) (.slice pa m.pages.length pc) (.string (txt m.body)) HC6.out)
        have HK2 : Hid (∀ q, q ≠ w.heap.size + 2 → (put9 w6 (w.heap.size + 2) (.int .i64 m.kind) (.int .i64 m.txn) (.int .i64 m.page) (.int .i64 m.to) (.bool m.fast) (.int .u64 (m.lsn : Int)) (.slice wa m.wants.length wc) (.slice pa m.pages.length pc) (.string (txt m.body))).heap[q]? = w6.heap[q]?) := fun q hq => put9_other _ _ _ _ _ _ _ _ _ q hq
        have hne2 : wr.heap.size ≠ w.heap.size + 2 := by have := HX.out.lt; omega
        refine hK.out _ (put9 w6 (w.heap.size + 2) (.int .i64 m.kind) (.int .i64 m.txn) (.int .i64 m.page) (.int .i64 m.to) (.bool m.fast) (.int .u64 (m.lsn : Int)) (.slice wa m.wants.length wc) (.slice pa m.pages.length pc) (.string (txt m.body))) ?_ (fun hHeld => ?_)
        · obtain ⟨r0, r1, rf⟩ := cell2 ((HK2.out w.heap.size (by omega)).trans ((HK1.out w.heap.size (by omega)).trans HXd.out.h0))
          obtain ⟨m0, m1, m2, m3, m4, m5, m6, m7, m8, mf⟩ := cell9 ((HK2.out wr.heap.size hne2).trans ((HK1.out wr.heap.size hne).trans HCd.out))
          exact ⟨r0, m0, m1, m2, m3, m4, m5, m6, m7, m8⟩
        clear hK K s0 s1 s2 s3 s4 s5 s6 s7 s8 sf
        try simp only [Act.put, List.getElem_toArray, List.getElem_cons_zero, List.getElem_cons_succ, List.setIfInBounds_toArray, List.set_cons_zero, List.set_cons_succ]
        generalize hw7 : put9 w6 (w.heap.size + 2) (.int .i64 m.kind) (.int .i64 m.txn) (.int .i64 m.page) (.int .i64 m.to) (.bool m.fast) (.int .u64 (m.lsn : Int)) (.slice wa m.wants.length wc) (.slice pa m.pages.length pc) (.string (txt m.body)) = w7 at HF2 HK2 hHeld ⊢
        have HB7 : Hid (Below w.heap.size w w7) := by rw [← hw7]; exact put9_below _ _ _ _ _ _ _ _ _ HB1.out (by omega)
        clear hw7
        refine wpAnyH_take (i := 7) (v := ?_) rfl (by kernel_rfl) (by kernel_rfl) (by kernel_rfl) (fun _ _ _ h => h) (Or.inl ⟨by rfl, ?_⟩) (by assumption) ?_
        rotate_left
        · (intro W hSw; obtain ⟨x0, m0, m1, m2, m3, m4, m5, m6, m7, m8⟩ := hSw; go_simp; try with_reducible rfl)
        try simp only [Act.put, List.getElem_toArray, List.getElem_cons_zero, List.getElem_cons_succ, List.setIfInBounds_toArray, List.set_cons_zero, List.set_cons_succ]
        refine wpAnyH_done (by kernel_rfl) ?_ _
        simp only [Exit.then]
        go_wp2_with fail
        (try simp only [Exit.inBlock, Exit.then])
        have HO7 : Hid (w7.ownsRow w.heap.size 82 11 (.slice a5 (i + (l.length - (i + 1))) c5) (i + (l.length - (i + 1))) (itsC (l.take i ++ l.drop (i + 1)))) := by
          rw [itsC_append]
          have hq := own_stay (w' := w7) HOd.out (fun q c hk hc => by
            rw [HK2.out q (kind_ne hc HXd.out.h2 (by decide)), HK1.out q (kind_ne hc HXd.out.h1 (by decide))])
          exact row_low hq (by have := HX.out.bel.size; omega)
        refine bodyPost_ret (results_two_rows (P := Try.prog) Try.results32 _ _ (w.heap.size + 1) (w.heap.size + 2) 45 31 _ _ (0, 0) (0, 0) _ _ rfl rfl ((HK2.out _ (by omega)).trans HF1.out) HF2.out Try.underlying45 rfl (by kernel_rfl) Try.underlying31 rfl (by kernel_rfl)) rfl ⟨_, ?_, HO7.out, HB7.out⟩
        rw [← HMP.out]
        rfl

end Go.Proofs.Ytfdpmffoajjchaa
