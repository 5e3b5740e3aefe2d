/-
  The document's book: Need (26).
-/
import Derived.Test.YtdlanenbbmnbhaaEd
namespace Go.Proofs.Ytdlanenbbmnbhaa
open Go.RowKit

theorem run_in2 (W : World) (ty : TypeId) (so : Option Addr) (m c : Nat) (k : List Int) (hm : m = k.length) (hk : SlI W so k) (hso : so = none → c = 0) (b1 : m ≤ 1000) :
    ∃ v' w', (Builtin.append_ #[42, 42] ty #[.slice none 0 0, .slice so m c]).run Try.prog W = .ok v' w' ∧ w'.ownsRow W.heap.size 3 1 v' m (inVs k) ∧ Below W.heap.size W w' := by
  obtain ⟨i, z, h2, h3, h4, h5, h6⟩ := info3
  obtain ⟨v', w', hr, r1, r2⟩ := run_src (P := Try.prog) W 42 ty 3 i z 1 8 Try.underlying42 h2 h3 h4 h5 h6 (by decide) W.heap.size (.slice none 0 0) 0 [] (World.ownsRow_nil _ _ _ _) (Nat.le_refl _) so m c (inVs k) (fun e => ⟨by rw [hm, hk.nonil e]; rfl, hso e⟩) (by simp [inVs, hm]) (sl_cells hk) (one_inVs k) (by unfold maxLen; omega) (by omega)
  rw [Nat.zero_add, List.nil_append] at r1
  exact ⟨v', w', hr, r1, (Below.refl _ _).grown r2 (Nat.le_refl _) (fun k e => by simp [Value.ownBlock] at e)⟩
theorem run_in1 (W : World) (ty : TypeId) (base : Nat) (v : Value) (l : List Int) (n : Nat) (hn : n = l.length) (hown : W.ownsRow base 3 1 v n (inVs l)) (hb : base ≤ W.heap.size) (k : Int) (hl : n ≤ 100) :
    ∃ a' d w', (Builtin.append_ #[42, 42] ty #[v, .slice (some ⟨W.heap.size, 0, none⟩) 1 1]).run Try.prog (W.alloc (.cells #[.int .i64 k] 3)) = .ok (.slice a' (n + 1) d) w' ∧ w'.ownsRow base 3 1 (.slice a' (n + 1) d) (n + 1) (inVs (l ++ [k])) ∧ Below base W w' := by
  obtain ⟨i, z, h2, h3, h4, h5, h6⟩ := info3
  have ho := own_below hown ((Below.refl W.heap.size W).alloc (Nat.le_refl _) (.cells #[.int .i64 k] 3))
  obtain ⟨v', w', hr, r1, r2⟩ := run_src (P := Try.prog) (W.alloc (.cells #[.int .i64 k] 3)) 42 ty 3 i z 1 8 Try.underlying42 h2 h3 h4 h5 h6 (by decide) base v n (inVs l) ho (by simp; omega) (some ⟨W.heap.size, 0, none⟩) 1 1 (inVs [k]) (fun e => by cases e) rfl (fun b hb j u hu => by
    cases hb
    rw [add_cell, Nat.zero_add]
    have hk : (W.alloc (.cells #[.int .i64 k] 3)).heap[W.heap.size]? = some (.cells #[.int .i64 k] 3) := heap_alloc_new W _
    have hj : j = 0 := by have := (List.getElem?_eq_some_iff.1 hu).1; simpa [inVs] using this
    subst hj
    simp [inVs, inV] at hu
    subst hu
    unfold World.cell?
    rw [hk]
    rfl) (one_inVs _) (by unfold maxLen; omega) (by omega)
  rw [← inVs_append] at r1
  obtain ⟨a, d, rfl⟩ := own_shape r1
  exact ⟨a, d, w', hr, r1, grown_low ((Below.refl base W).alloc hb _) (by simp; omega) ho r2⟩
theorem own_sl {w : World} {B n d : Nat} {a : Option Addr} {l : List Int} (h : w.ownsRow B 3 1 (.slice a n d) n (inVs l)) (hn : n = l.length) : SlI w a l ∧ n ≤ d ∧ (a = none → d = 0) ∧ ∀ x, a = some x → B ≤ x.block := by
  refine ⟨SlI.own h hn, ?_, fun e => ?_, fun x e => ?_⟩
  · rcases own_addr h with ⟨_, h1, _⟩ | ⟨g, cur, _, _, _, h1, _⟩ <;> omega
  · rcases own_addr h with ⟨_, _, h1⟩ | ⟨g, cur, h1, _⟩
    · exact h1
    · rw [e] at h1; cases h1
  · rcases own_addr h with ⟨h1, _⟩ | ⟨g, cur, h1, h2, _⟩
    · rw [e] at h1; cases h1
    · rw [e] at h1; cases h1; exact h2

set_option maxHeartbeats 2000000 in
theorem need_any_d {w : World} {v : Value} {L : List Pl} (h : Dl w v L) (hok : BkOk (pls L)) (hl : L.length ≤ 16) (pg k : Int) :
    Calls Try.prog 26 #[v, .int .i64 pg, .int .i64 k] w fun e w' => AnsD w (needL (pls L) pg k) e w' := by
  obtain ⟨a0, c00, hv⟩ := own_shape h.own
  by_cases hbad : pageB (pls L) pg = true ∧ instB k = true
  · obtain ⟨hp, hk⟩ := hbad
    rw [page_iff, pls_len] at hp
    obtain ⟨i, rfl⟩ := Int.eq_ofNat_of_zero_le hp.1
    have hi : i < L.length := by omega
    have hi' : i < (pls L).length := by rw [pls_len]; exact hi
    have hlf := hok.at hi'
    rw [pls_at hi] at hlf
    have hkk := inst_iff.1 hk
    obtain ⟨g, c, rfl, hg, hc, ho, c0, c1, c2, c3, c4⟩ := h.at hi
    have hBg := fun e => need_good (k := k) hi' hk e
    have hBs := fun e => need_twice (k := k) hi' hk e
    rw [pls_at hi] at hBg hBs
    have hset := fun (t : Pl) (ht : PlOk w t) => with40 (h.below ((Below.refl w.heap.size w).alloc (Nat.le_refl _) (.cells (plA t) 65))) hi t (ht.below ((Below.refl _ _).alloc (Nat.le_refl _) _)) hl
    have HH := toHid h
    have HSet := toHid hset
    have HLf := toHid hlf
    have HO := toHid ho
    have HHi := toHid hi
    generalize hti : L[i] = t at *
    obtain ⟨x, a, d⟩ := t
    obtain ⟨fa, ow, lo, ca, ws⟩ := x
    dsimp only at c0 c1 c2 c3 c4 hBg hBs ⊢
    clear h hlf ho hset hv
    have HH38 := toHid (has38 a d ws k (w.alloc (.cells (plA ⟨⟨fa, ow, lo, ca, ws⟩, a, d⟩) 65)) (HO.out.row.below ((Below.refl _ _).alloc (Nat.le_refl _) _)) (by have := HLf.out.len; dsimp only at this; omega))
    have HE := toHid (AnsD.err HH.out 9 ((Below.refl w.heap.size w).alloc (Nat.le_refl _) (.cells (plA ⟨⟨fa, ow, lo, ca, ws⟩, a, d⟩) 65)))
    simp only [plA] at HE HH38
    by_cases how : ow = k
    · subst how
      rw [hBs (.inl rfl)]
      clear hBg hBs hti HSet HH38
      go_enter Try.func26, Try.ntmps26
      go_wp2
      exact bodyPost_ret (v := .tuple #[.slice (some ⟨g, 0, none⟩) L.length c, .slice none 0 0, .int .i64 9]) (by simp [results, Try.results26, go_sem]) rfl HE.out
    · by_cases hin : k ∈ ws
      · rw [hBs (.inr hin)]
        rw [show decide (k ∈ ws) = true by simpa using hin] at HH38
        clear hBg hBs hti HSet
        go_enter Try.func26, Try.ntmps26
        go_wp2_with fail
        refine Calls.mono HH38.out ?_
        rintro e w1 ⟨rfl, hw⟩
        obtain rfl := hw
        clear HH38
        go_wp2
        exact bodyPost_ret (v := .tuple #[.slice (some ⟨g, 0, none⟩) L.length c, .slice none 0 0, .int .i64 9]) (by simp [results, Try.results26, go_sem]) rfl HE.out
      · rw [hBg (fun e => e.elim how hin)]
        rw [show decide (k ∈ ws) = false by simpa using hin] at HH38
        have HPre := toHid (with_pre HLf.out hkk how hin)
        clear hBg hBs hti HSet HE
        have hlen := HLf.out.len
        dsimp only at hlen
        obtain ⟨W0, hW0⟩ : ∃ W0, W0 = w.alloc (.cells (plA ⟨⟨fa, ow, lo, ca, ws⟩, a, d⟩) 65) := ⟨_, rfl⟩
        have hb0 : Below w.heap.size w W0 := hW0 ▸ (Below.refl _ _).alloc (Nat.le_refl _) _
        have hk0 : W0.heap[w.heap.size]? = some (.cells (plA ⟨⟨fa, ow, lo, ca, ws⟩, a, d⟩) 65) := hW0 ▸ heap_alloc_new w _
        have hz0 : W0.heap.size = w.heap.size + 1 := by rw [hW0]; simp
        have HB0 := toHid hb0
        have HK0 := toHid hk0
        have HZ0 := toHid hz0
        simp only [plA] at hW0
        obtain ⟨q0, q1, q2, q3, q4⟩ := cells5 hk0
        dsimp only at q0 q1 q2 q3 q4
        rw [← hW0] at HH38
        have HW0 := toHid hW0
        clear hb0 hk0 hz0 hW0
        go_enter Try.func26, Try.ntmps26
        go_wp2_with fail
        rw [← HW0.out]
        refine Calls.mono HH38.out ?_
        rintro e w1 ⟨rfl, hw⟩
        obtain rfl := hw.symm
        clear HH38
        go_wp2_with (at_builtin; go_must (first
          | (obtain ⟨v2, w2, hr, r1, r2⟩ := run_in2 W0 42 a ws.length d ws rfl (HO.out.row.below HB0.out) HO.out.zero (by omega)
             refine wpList_of_run rfl (.tmp 45) (.tmp 47) 42 rfl rfl rfl hr ?_
             have HR2 := toHid r1
             have hk2 := (r2.block w.heap.size (by have := HZ0.out; omega)).trans HK0.out
             have HK2 := toHid hk2
             have HL2 := toHid (HB0.out.trans (r2.mono HB0.out.size))
             have HZ2 := toHid (show W0.heap.size ≤ w2.heap.size from r2.size)
             clear r1 r2 hr hk2 q0 q1 q2 q3 q4)
          | (obtain ⟨a3, d3, w3, hr, r1, r2⟩ := run_in1 w2 42 W0.heap.size v2 ws ws.length rfl HR2.out HZ2.out k (by omega)
             refine wpList_of_run rfl (.tmp 49) (.tmp 51) 42 rfl rfl rfl hr ?_
             have HR3 := toHid (own_sl r1 (by simp))
             have hk3 := (r2.block w.heap.size (by have := HZ0.out; omega)).trans HK2.out
             have HK3 := toHid hk3
             have HL3 := toHid (HL2.out.trans (r2.mono HB0.out.size))
             obtain ⟨q0, q1, q2, q3, q4⟩ := cells5 hk3
             dsimp only at q0 q1 q2 q3 q4
             have hfz : w3.frozen? ⟨w.heap.size, 4, none⟩ = false := by simp [World.frozen?, hk3]
             clear r1 r2 hr hk3)))
        have hl4 : Below w.heap.size w (w3.setCell ⟨w.heap.size, 4, none⟩ (.slice a3 (ws.length + 1) d3)) := HL3.out.setCell (Nat.le_refl _) _
        have hs4 : SlI (w3.setCell ⟨w.heap.size, 4, none⟩ (.slice a3 (ws.length + 1) d3)) a3 (ws ++ [k]) := HR3.out.1.one ((One.refl w.heap.size w3).set 4 _) (fun x hx e => by
          have h1 := HR3.out.2.2.2 x hx
          have := HZ0.out
          omega)
        have hcap : (ws ++ [k]).length ≤ d3 := by have := HR3.out.2.1; simpa using this
        have HC := toHid (with40 (HH.out.below hl4) hi ⟨⟨fa, ow, lo, ca, ws ++ [k]⟩, a3, d3⟩ ⟨hs4, hcap, HR3.out.2.2.1⟩ hl)
        simp only [plA, show (ws ++ [k]).length = ws.length + 1 by simp] at HC
        have HL4 := toHid hl4
        clear hl4 hs4 hcap q0 q1 q2 q3 q4 hfz c0 c1 c2 c3 c4
        refine Calls.mono HC.out ?_
        rintro e w5 ⟨v3, rfl, hd3, hb3⟩
        have hlow : Below w.heap.size w w5 := HL4.out.trans (hb3.mono HL4.out.size)
        have HS := toHid (serve39 hd3 (i := i) (by simpa using hi) (by rw [List.getElem_set_self]; exact HPre.out) (by simpa using hl))
        have HLw := toHid hlow
        clear hd3 hb3 hlow HC
        go_wp2_with fail
        refine Calls.mono HS.out ?_
        rintro e w6 ⟨v', vo, L', rfl, hd, e1, hoo, hb⟩
        have HA := toHid (AnsD.serve HHi.out e1 hd hoo HLw.out hb)
        clear hd e1 hoo hb HS
        go_wp2
        exact bodyPost_ret (v := .tuple #[v', vo, .int .i64 0]) (by simp [results, Try.results26, go_sem]) rfl HA.out
  · rw [need_arg hbad]
    have hbad2 : pg < 0 ∨ (¬ pg < 0 ∧ (L.length : Int) ≤ pg) ∨ (¬ pg < 0 ∧ ¬ (L.length : Int) ≤ pg ∧ k < 1) ∨ (¬ pg < 0 ∧ ¬ (L.length : Int) ≤ pg ∧ ¬ k < 1 ∧ 8 < k) := by
      rw [page_iff, inst_iff, pls_len] at hbad
      omega
    have HE := toHid (AnsD.err h 1 (Below.refl _ _))
    subst hv
    clear h hok hbad
    rcases hbad2 with h1 | ⟨h1, h2⟩ | ⟨h1, h2, h3⟩ | ⟨h1, h2, h3, h4⟩
    all_goals
      go_enter Try.func26, Try.ntmps26
      go_wp2
      exact bodyPost_ret (v := .tuple #[.slice a0 L.length c00, .slice none 0 0, .int .i64 1]) (by simp [results, Try.results26, go_sem]) rfl HE.out
end Go.Proofs.Ytdlanenbbmnbhaa
