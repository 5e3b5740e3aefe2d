/-
  TableRises: the walk.
-/
import Derived.Test.YtebchgoaelamcaaDoorUf
import Derived.Test.YtebchgoaelamcaaDoorHd
import Derived.Test.YtebchgoaelamcaaDoorX8
import Derived.BigQuiet
namespace Go.Proofs.YtebchgoaelamcaaDoor
open Go.RowKit
set_option maxRecDepth 100000

theorem one_new (w : World) (x : Value) (t : TypeId) : ∀ j u, [x][j]? = some u → (w.alloc (.cells #[x] t)).cell? ((⟨w.heap.size, 0, none⟩ : Addr).add j) = some u := by
  intro j u hj
  have hj0 : j = 0 := by
    have := (List.getElem?_eq_some_iff.1 hj).1
    simp at this
    exact this
  subst hj0
  simp at hj
  subst hj
  exact cell_of (heap_alloc_new w (.cells #[x] t)) 0 rfl
theorem get_len {l : List Cl} (h : GoodL l) {k v : List UInt8} (e : getL l k = some v) : k.length ≤ 16 := by
  obtain ⟨i, hi, _, hu, hk, _⟩ := get_some' e
  have := h.cells l[i] (List.getElem_mem hi)
  unfold goodC at this
  rw [if_pos hu, hk] at this
  exact this.2.1
theorem Tryd.info34 : (Tryd.prog.info? 34).map (fun i => (i.zero, i.size, i.bytes)) = some (some (.pointer none), 1, 8) := by kernel_rfl

set_option maxHeartbeats 16000000 in
theorem rises_walk (a0 : Option Addr) (c0 : Nat) (l0 : List Pr) (n : Int) (x0 x1 x2 : List UInt8) (w : World) (hs0 : SlP w a0 l0) (hl0 : l0.length ≤ maxLen) (hn0 : -9223372036854775808 ≤ n) (hn1 : n ≤ 9223372036854775807) (ht : Tb w) :
    Calls Tryd.prog 7 #[.slice a0 l0.length c0, .int .i64 n, .agg #[.string (txt x0), .string (txt x1), .string (txt x2)]] w fun e w' => e = .returned (.bool true) ∧ Below w.heap.size w w' := by
  obtain ⟨i0, hi, hz0, hz1, hz2⟩ := info_parts Tryd.info34
  have HSP := toHid hs0
  have HT := toHid ht
  have HLv : Hid (∀ W, Below w.heap.size w W → Calls Tryd.prog 10 #[] W fun e w' => e = .returned (.bool true) ∧ Below w.heap.size w w') := fun W hW => by
    refine Calls.mono (lives_any W (ht.below hW)) ?_
    rintro e w' ⟨rfl, b⟩
    exact ⟨rfl, hW.trans (b.mono hW.size)⟩
  have hB0 := (Below.refl w.heap.size w).alloc (Nat.le_refl _) (.cells #[.string (txt x0), .string (txt x1), .string (txt x2)] 70)
  have hnb := heap_alloc_new w (.cells #[.string (txt x0), .string (txt x1), .string (txt x2)] 70)
  have hz : (w.alloc (.cells #[.string (txt x0), .string (txt x1), .string (txt x2)] 70)).heap.size = w.heap.size + 1 := by rw [World.alloc, Array.size_push]
  have HB0 := toHid hB0
  have HS : Hid (∀ W, Below (w.heap.size + 1) (w.alloc (.cells #[.string (txt x0), .string (txt x1), .string (txt x2)] 70)) W → (W.cell? ⟨w.heap.size, 0, none⟩ = some (.string (txt x0)) ∧ W.cell? ⟨w.heap.size, 1, none⟩ = some (.string (txt x1)) ∧ W.cell? ⟨w.heap.size, 2, none⟩ = some (.string (txt x2))) ∧ SlP W a0 l0 ∧ Below w.heap.size w W ∧ w.heap.size + 1 ≤ W.heap.size) := fun W hW => by
    have e := (hW.block w.heap.size (by omega)).trans hnb
    have b := hB0.trans (hW.mono (by omega))
    exact ⟨⟨cell_of e 0 rfl, cell_of e 1 rfl, cell_of e 2 rfl⟩, hs0.on b, b, by have := hW.size; omega⟩
  have C0 := toHid (Below.refl (w.heap.size + 1) (w.alloc (.cells #[.string (txt x0), .string (txt x1), .string (txt x2)] 70)))
  clear hs0 ht hB0 hnb
  have HZ := toHid hz
  clear hz HSP
  unfold maxLen at hl0
  go_enter Tryd.func7, Tryd.ntmps7
  by_cases h1 : n < 1
  · go_wp2_with fail
    refine Calls.mono (HLv.out _ HB0.out) ?_
    rintro e wz ⟨rfl, bz⟩
    have BZ := toHid bz
    clear bz
    go_wp2_with fail
    go_ret
    exact ⟨rfl, BZ.out⟩
  by_cases h16 : 16 < n
  · go_wp2_with fail
    refine Calls.mono (HLv.out _ HB0.out) ?_
    rintro e wz ⟨rfl, bz⟩
    have BZ := toHid bz
    clear bz
    go_wp2_with fail
    go_ret
    exact ⟨rfl, BZ.out⟩
  by_cases hsum : 2000 < RowKit.wrap64 (RowKit.wrap64 (((txt x0).size : Int) + ((txt x1).size : Int)) + ((txt x2).size : Int))
  · go_wp2_with fail
    refine Calls.mono (HLv.out _ HB0.out) ?_
    rintro e wz ⟨rfl, bz⟩
    have BZ := toHid bz
    clear bz
    go_wp2_with fail
    go_ret
    exact ⟨rfl, BZ.out⟩
  obtain ⟨N, rfl⟩ : ∃ N : Nat, n = (N : Int) := ⟨n.toNat, by omega⟩
  have hN1 : 1 ≤ N := by omega
  have hN2 : N ≤ 16 := by omega
  go_wp2_with fail
  clear hsum
  generalize w.alloc (.cells #[.string (txt x0), .string (txt x1), .string (txt x2)] 70) = w0 at *
  go_loopw [7, 8] (fun s vi wr => ∃ i : Nat, ∃ a c, i ≤ N ∧ vi = .int .i64 i ∧ s = .slice a i c ∧ Hid (∃ es : List En, es.length = i ∧ Fm wr (w.heap.size + 1) es ∧ wr.ownsRow (w.heap.size + 1) 34 1 (.slice a i c) i (ptrs es) ∧ (∀ e ∈ es, e.l = [])) ∧ Hid (Below (w.heap.size + 1) w0 wr)) (fun _ vi _ => N - (intOf vi).toNat)
  case atStart => exact ⟨0, none, 0, Nat.zero_le _, rfl, rfl, ⟨[], rfl, ⟨fun i h => by simp at h, fun i h => by simp at h, fun i j h => by simp at h⟩, World.ownsRow_nil _ _ _ _, by simp⟩, C0⟩
  case round =>
    obtain ⟨i, a, c, hiN, rfl, rfl, HE, HC⟩ := hrel
    by_cases hlt : i < N
    · have hid : (0 : Int) ≤ (i : Int) ∧ (i : Int) < 16 := by omega
      go_wp2_with fail
      refine Calls.mono (new_yes (i : Int) wr hid) ?_
      rintro e w1 ⟨rfl, hw1⟩
      have hb1 : Below wr.heap.size wr w1 := by rw [hw1]; exact (Below.refl _ _).alloc (Nat.le_refl _) _
      have hnz : w.heap.size + 1 ≤ wr.heap.size := (HS.out _ HC.out).2.2.2
      have hpg : PgOk w1 (w.heap.size + 1) wr.heap.size (i : Int) 0 (.slice none 0 0) [] := ⟨by rw [hw1]; exact heap_alloc_new _ _, World.ownsRow_nil _ _ _ _, by simp [Value.ownBlock], hnz⟩
      have HC1 := toHid (HC.out.trans (hb1.mono hnz))
      obtain ⟨es, hes, hfm, hrow, hel⟩ := HE.out
      have HL := toHid hes
      have HEl := toHid hel
      have HF1 := toHid (hfm.add hb1 (by rw [hes]; exact hpg) (Nat.le_refl _))
      have hrow1 := ownsRow_below hrow hb1 (fun k hk => ownsRow_lt hrow k hk)
      generalize wr.heap.size = pz at *
      have hrow2 := hrow1.alloc (.cells #[.pointer (some ⟨pz, 0, none⟩)] 34)
      have hsz := size_alloc w1 (.cells #[.pointer (some ⟨pz, 0, none⟩)] 34)
      have hn1 : w.heap.size + 1 ≤ w1.heap.size := (HS.out _ HC1.out).2.2.2
      have HR2 := toHid hrow2
      have HN2 : Hid (w.heap.size + 1 ≤ (w1.alloc (.cells #[.pointer (some ⟨pz, 0, none⟩)] 34)).heap.size) := by unfold Hid; omega
      have HF2 := toHid (HF1.out.below ((Below.refl _ _).alloc (Nat.le_refl _) (.cells #[.pointer (some ⟨pz, 0, none⟩)] 34)))
      have HC2 := toHid (HC1.out.alloc hn1 (.cells #[.pointer (some ⟨pz, 0, none⟩)] 34))
      clear hw1 hb1 hpg hes hfm hrow hel hrow1 hrow2 hsz HE HC HC1 HF1
      go_wp2_with (at_builtin; refine wpList_append_fresh _ rfl _ _ 65 rfl (w.heap.size + 1) 34 i0 _ 1 8 Tryd.underlying65 hi hz0 hz1 hz2 rfl (by decide) (.slice a i c) i (ptrs es) rfl HR2.out ⟨w1.heap.size, 0, none⟩ 1 1 [.pointer (some ⟨pz, 0, none⟩)] rfl rfl (one_new _ _ _) (by intro u hu; simp at hu; subst hu; rfl) (by unfold maxLen; omega) (by omega) HN2.out ?_; intro v' w3 hown hgrow hfr; obtain ⟨a1, d1, rfl⟩ := ownsRow_shape hown)
      have hpe : ptrs (es ++ [⟨pz, .slice none 0 0, []⟩]) = ptrs es ++ [.pointer (some ⟨pz, 0, none⟩)] := by simp [ptrs]
      have HE3 : Hid (∃ es : List En, es.length = i + 1 ∧ Fm w3 (w.heap.size + 1) es ∧ w3.ownsRow (w.heap.size + 1) 34 1 (.slice a1 (i + 1) d1) (i + 1) (ptrs es) ∧ (∀ e ∈ es, e.l = [])) := by
        refine ⟨es ++ [⟨pz, .slice none 0 0, []⟩], by rw [List.length_append, HL.out]; rfl, HF2.out.grown hgrow (t := 34) (by decide) (by decide) (fun k hk => own_kind HR2.out k hk), by rw [hpe]; exact hown, fun e he => ?_⟩
        rcases List.mem_append.1 he with he | he
        · exact HEl.out e he
        · have : e = ⟨pz, .slice none 0 0, []⟩ := by simpa using he
          rw [this]
      clear hpe
      have HC3 := toHid (HC2.out.grown hgrow HN2.out (fun k hk => (World.ownsRow.lt HR2.out k hk).1))
      clear hown hgrow hfr HR2 HF2 HC2 HEl HL
      go_wp2_with fail
      go_roundw
      case rel => exact ⟨i + 1, a1, d1, by omega, by simp, by simp, HE3, HC3⟩
      case measure => simp only [intOf]; omega
    · obtain rfl : i = N := by omega
      have HE0 : Hid (∃ es : List En, es.length = i ∧ Fm wr (w.heap.size + 1) es ∧ wr.ownsRow (w.heap.size + 1) 34 1 (.slice a i c) i (ptrs es) ∧ HomeOk (i : Int) (es.map (·.l))) := by
        obtain ⟨es, h1, h2, h3, h4⟩ := HE.out
        refine ⟨es, h1, h2, h3, fun l hl => ?_, fun j hj x hx => ?_⟩
        · obtain ⟨e, he, rfl⟩ := List.mem_map.1 hl
          rw [h4 e he]
          exact goodL_nil
        · rw [List.getElem_map, h4 _ (List.getElem_mem _)] at hx
          simp [prsL] at hx
      clear HE
      go_wp2_with fail
      go_loopw [11] (fun vk wk => ∃ k : Nat, k ≤ l0.length ∧ vk = .int .i64 k ∧ Hid (∃ es : List En, es.length = i ∧ Fm wk (w.heap.size + 1) es ∧ wk.ownsRow (w.heap.size + 1) 34 1 (.slice a i c) i (ptrs es) ∧ HomeOk (i : Int) (es.map (·.l))) ∧ Hid (Below (w.heap.size + 1) w0 wk)) (fun vk _ => l0.length - (intOf vk).toNat)
      case atStart => exact ⟨0, Nat.zero_le _, rfl, HE0, HC⟩
      case round =>
        clear HE0 HC
        obtain ⟨k, hkl, rfl, HE, HC⟩ := hrel
        by_cases hlk : k < l0.length
        · by_cases h60 : k < 60
          · obtain ⟨b, o, rfl, hbl, c0, c1⟩ := (HS.out _ HC.out).2.1.at k hlk
            have hsm := (HS.out _ HC.out).2.1.small l0[k] (List.getElem_mem hlk)
            generalize hlk0 : l0[k] = pr at *
            obtain ⟨key, val⟩ := pr
            simp only at c0 c1 hsm
            go_wp2_with fail
            go_quiet (fail)
            go_wp2_with fail
            · have hdq := below_drewN (Below.refl wr.heap.size wr) nq
              have HEq : Hid (∃ es : List En, es.length = i ∧ Fm (wr.drewN nq) (w.heap.size + 1) es ∧ (wr.drewN nq).ownsRow (w.heap.size + 1) 34 1 (.slice a i c) i (ptrs es) ∧ HomeOk (i : Int) (es.map (·.l))) := by
                obtain ⟨es, h1, h2, h3, h4⟩ := HE.out
                exact ⟨es, h1, h2.below hdq, ownsRow_below h3 hdq (fun k hk => ownsRow_lt h3 k hk), h4⟩
              have HCq := toHid (below_drewN HC.out nq)
              clear hdq HE HC c0 c1 hbl
              generalize wr.drewN nq = wq at *
              obtain ⟨es, hes, hfm, hrow, hho⟩ := HEq.out
              have hin := homeI_in key (i : Int)
              obtain ⟨hm, hme⟩ : ∃ hm : Nat, homeI key (i : Int) = (hm : Int) := ⟨(homeI key i).toNat, by omega⟩
              have hmi : hm < i := by have := hin.2 (by omega); omega
              have hml : hm < es.length := by omega
              have HH : Hid (∀ W, Calls Tryd.prog 11 #[.string (txt key), .int .i64 (i : Int)] W fun e w' => e = .returned (.int .i64 (hm : Int)) ∧ w' = W) := fun W => by rw [← hme]; exact home_any key hsm.1 (i : Int) (by omega) (by omega) W
              have hrc : ∀ W : World, W.ownsRow (w.heap.size + 1) 34 1 (.slice a i c) i (ptrs es) → ∃ rb, a = some ⟨rb, 0, none⟩ ∧ W.cell? ⟨rb, hm, none⟩ = some (.pointer (some ⟨es[hm].p, 0, none⟩)) := fun W hW => by
                obtain ⟨rb, e1, _, e2⟩ := Row.cell (W := W) (B := w.heap.size + 1) (a := a) (c := c) (es := es) (by unfold Row; rw [hes]; exact hW) hm hml
                exact ⟨rb, e1, e2⟩
              obtain ⟨rb, rfl, r0⟩ := hrc wq hrow
              have HI : Hid (∀ W, Below wq.heap.size wq W → Calls Tryd.prog 31 #[.pointer (some ⟨es[hm].p, 0, none⟩), .string (txt key), .string (txt val)] W fun e w' => (∃ r, e = .returned (.int .i64 r)) ∧ Hid (∃ es : List En, es.length = i ∧ Fm w' (w.heap.size + 1) es ∧ w'.ownsRow (w.heap.size + 1) 34 1 (.slice (some ⟨rb, 0, none⟩) i c) i (ptrs es) ∧ HomeOk (i : Int) (es.map (·.l))) ∧ Hid (Below (w.heap.size + 1) w0 w') ∧ w'.cell? ⟨rb, hm, none⟩ = some (.pointer (some ⟨es[hm].p, 0, none⟩))) := fun W hW => by
                have hfW := hfm.below hW
                have hrW := ownsRow_below hrow hW (fun k hk => ownsRow_lt hrow k hk)
                have hbW := HCq.out.trans (hW.mono (HS.out _ HCq.out).2.2.2)
                refine Calls.mono (insert_any (w.heap.size + 1) es[hm].p (hm : Int) 0 es[hm].v es[hm].l key val W (hfW.ok hm hml) (hfW.good hm hml) hsm.1 hsm.2) ?_
                rintro e w' ⟨rfl, v', hp', ht', hf'⟩
                have hgd := ins_good (hfW.good hm hml) key val
                have hrt := Row.turn (W := W) (W' := w') (a := some ⟨rb, 0, none⟩) (c := c) (by unfold Row; rw [hes]; exact hrW) hfW hm hml v' (insL es[hm].l key val).1 ht'
                have hbt := hbW.trans ((hfW.ok hm hml).touched ht')
                have hst : (es.set hm ⟨es[hm].p, v', (insL es[hm].l key val).1⟩).length = i := by rw [List.length_set, hes]
                have hrt' : w'.ownsRow (w.heap.size + 1) 34 1 (.slice (some ⟨rb, 0, none⟩) i c) i (ptrs (es.set hm ⟨es[hm].p, v', (insL es[hm].l key val).1⟩)) := by
                  unfold Row at hrt
                  rw [hst] at hrt
                  exact hrt
                refine ⟨⟨_, rfl⟩, ⟨_, hst, hfW.turn hm hml hp' hgd ht' hf', hrt', ?_⟩, hbt, ?_⟩
                · have hmm : (homeI key (i : Int)).toNat = hm := by omega
                  have := hho.ins key val (by rw [hmm]; simpa using hml)
                  simp only [hmm, List.getElem_map] at this
                  rw [List.map_set]
                  exact this
                · have hpt : ptrs (es.set hm ⟨es[hm].p, v', (insL es[hm].l key val).1⟩) = ptrs es := by
                    apply List.ext_getElem (by simp [ptrs])
                    intro j h1 h2
                    simp only [ptrs, List.getElem_map]
                    by_cases e : j = hm
                    · subst e; rw [List.getElem_set_self]
                    · rw [List.getElem_set_ne (by omega)]
                  rw [hpt] at hrt'
                  obtain ⟨rb', e1, e2⟩ := hrc w' hrt'
                  cases e1
                  exact e2
              have r1 : wq.drew.cell? ⟨rb, hm, none⟩ = some (.pointer (some ⟨es[hm].p, 0, none⟩)) := r0
              generalize es[hm].p = pz at *
              clear hes hfm hrow hho hrc hin hme hml HEq
              obtain ⟨b', o', he, _, c0, c1⟩ := (HS.out _ HCq.out).2.1.at k hlk
              simp only [Option.some.injEq, Addr.mk.injEq, and_true] at he
              obtain ⟨rfl, rfl⟩ := he
              rw [hlk0] at c0 c1
              simp only at c0 c1
              have d0 : wq.drew.cell? ⟨b, o + k * 2, none⟩ = some (.string (txt key)) := c0
              have d1 : wq.drew.cell? ⟨b, o + k * 2 + 1, none⟩ = some (.string (txt val)) := c1
              have z1 : (hm : Int) < (i : Int) := by omega
              have z2 : (k : Int) < (l0.length : Int) := by omega
              go_wp2_with fail
              go_region_held3 (fun W => W.cell? ⟨b, o + k * 2, none⟩ = some (.string (txt key)) ∧ W.cell? ⟨b, o + k * 2 + 1, none⟩ = some (.string (txt val)) ∧ W.cell? ⟨rb, hm, none⟩ = some (.pointer (some ⟨pz, 0, none⟩))) (with_reducible exact ⟨by assumption, by assumption, by assumption⟩) ((first
                | (go_at_call 11; refine Calls.mono (HH.out _) ?_; rintro e wa ⟨rfl, rfl⟩)
                | (go_at_call 31; refine Calls.mono (HI.out _ (Below.refl _ _).drew) ?_; rintro e wb ⟨⟨r, rfl⟩, HE2, HC2, e2⟩; obtain ⟨b2, o2, he2, _, e0, e1⟩ := (HS.out _ HC2.out).2.1.at k hlk; simp only [Option.some.injEq, Addr.mk.injEq, and_true] at he2; obtain ⟨rfl, rfl⟩ := he2; rw [hlk0] at e0 e1; simp only at e0 e1)))
              clear c0 c1 d0 d1 e0 e1 e2 r0 r1 HH HI
              go_wp2_with fail
              refine ⟨?rel, ?measure⟩
              case rel => exact ⟨k + 1, by omega, by simp, HE2, HC2⟩
              case measure => first | omega | (simp only [intOf]; omega) | (simp [intOf]; omega)
            · have hdq := below_drewN (Below.refl wr.heap.size wr) nq
              have HEq : Hid (∃ es : List En, es.length = i ∧ Fm (wr.drewN nq) (w.heap.size + 1) es ∧ (wr.drewN nq).ownsRow (w.heap.size + 1) 34 1 (.slice a i c) i (ptrs es) ∧ HomeOk (i : Int) (es.map (·.l))) := by
                obtain ⟨es, h1, h2, h3, h4⟩ := HE.out
                exact ⟨es, h1, h2.below hdq, ownsRow_below h3 hdq (fun k hk => ownsRow_lt h3 k hk), h4⟩
              have HCq := toHid (below_drewN HC.out nq)
              refine ⟨?rel, ?measure⟩
              case rel => exact ⟨k + 1, by omega, by simp, HEq, HCq⟩
              case measure => first | omega | (simp only [intOf]; omega) | (simp [intOf]; omega)
          · skip
            generalize wr = wy at *
            obtain ⟨es, hes, hfm, hrow, hho⟩ := HE.out
            have hRow : Row wy (w.heap.size + 1) a c es := by unfold Row; rw [hes]; exact hrow
            have HHo := toHid hho
            have HRg : Hid (∀ (W : World) (f t : List UInt8), Below wy.heap.size wy W → Calls Tryd.prog 28 #[.slice a i c, .string (txt f), .string (txt t)] W fun e w' => ∃ aL cL, ∃ L : List Pq, e = .returned (.slice aL L.length cL) ∧ Rng (i : Int) (es.map (·.l)) f t L ∧ L.length ≤ 2000 ∧ w'.ownsRow W.heap.size 74 2 (.slice aL L.length cL) L.length (pcells L) ∧ Below W.heap.size W w') := fun W f t hW => by
              have hsl := (hRow.below hW).slG (hfm.below hW)
              have hlen : (hnd es).length = i := by simp [hnd, hes]
              have hc := range_any a c (hnd es) f t W hsl (by omega)
              rw [hlen] at hc
              refine Calls.mono hc ?_
              rintro e w' ⟨aL, cL, L, X, rfl, h1, h2, h3, h4, h5, h6⟩
              have hmap : (hnd es).map (·.2) = es.map (·.l) := by simp [hnd]
              rw [hmap] at h1
              exact ⟨aL, cL, L, rfl, rng_of h1 h2 h3, by omega, h5, h6⟩
            have HGt : Hid (∀ (key val : List UInt8) (hm : Nat), homeI key (i : Int) = (hm : Int) → (∃ hi : (homeI key (i : Int)).toNat < (es.map (·.l)).length, getL (es.map (·.l))[(homeI key (i : Int)).toNat] key = some val) → ∃ rb pz, a = some ⟨rb, 0, none⟩ ∧ hm < i ∧ (∀ W, Below wy.heap.size wy W → W.cell? ⟨rb, hm, none⟩ = some (.pointer (some ⟨pz, 0, none⟩))) ∧ ∀ W, Below wy.heap.size wy W → Calls Tryd.prog 22 #[.pointer (some ⟨pz, 0, none⟩), .string (txt key)] W fun e w' => e = .returned (.tuple #[.string (txt val), .int .i64 2]) ∧ Below W.heap.size W w') := fun key val hm hme hg => by
              obtain ⟨hi, hg⟩ := hg
              have hmm : (homeI key (i : Int)).toNat = hm := by omega
              simp only [hmm, List.getElem_map] at hg
              have hml : hm < es.length := by rw [hmm] at hi; simpa using hi
              obtain ⟨rb, e1, _, _⟩ := hRow.cell hm hml
              refine ⟨rb, es[hm].p, e1, by omega, fun W hW => ?_, fun W hW => ?_⟩
              · obtain ⟨rb', e2, _, e3⟩ := (hRow.below hW).cell hm hml
                rw [e1] at e2
                cases e2
                exact e3
              · have hf := hfm.below hW
                have := tget_any (w.heap.size + 1) es[hm].p (hm : Int) 0 es[hm].v es[hm].l key W (hf.ok hm hml) (hf.good hm hml)
                have ht : tgetL es[hm].l key = (val, 2) := by unfold tgetL; rw [hg]
                rw [ht] at this
                exact this
            have HW : Hid (∀ W, Below wy.heap.size wy W → Below (w.heap.size + 1) w0 W) := fun W hW => HC.out.trans (hW.mono (HS.out _ HC.out).2.2.2)
            have hnW := (HS.out _ HC.out).2.2.2
            generalize es.map (·.l) = ls at *
            clear hes hfm hrow hho hRow HE
            obtain ⟨⟨b0, b1, b2⟩, _⟩ := HS.out _ HC.out
            go_wp2_with fail
            refine Calls.mono (HRg.out _ x0 x1 (Below.refl _ _)) ?_
            rintro e wx ⟨aL, cL, L, rfl, hRng, hLl, hQ, hbx⟩
            have HRx := toHid hRng
            have HX := toHid (slQ_of_own hQ)
            have HBx := toHid hbx
            clear hRng hQ hbx b0 b1 b2
            go_wp2_with fail
            go_loopw [13] (fun vq wk => ∃ q : Nat, q ≤ L.length ∧ vq = .int .i64 q ∧ Hid (Below wy.heap.size wy wk) ∧ Hid (SlQ wk aL L)) (fun vq _ => L.length - (intOf vq).toNat)
            case atStart => exact ⟨0, Nat.zero_le _, rfl, HBx, HX⟩
            case round =>
              clear HBx HX
              obtain ⟨q, hqL, rfl, HBk, HQk⟩ := hrel
              by_cases hq : q < L.length
              · skip
                obtain ⟨b', o', rfl, hbl, c0, c1⟩ := HQk.out.at q hq
                have hmem := HRx.out.mem HHo.out (List.getElem_mem hq)
                have HPrev : Hid (∀ hq0 : 0 < q, L[q - 1].1 < L[q].1) := fun hq0 => by
                  have := HRx.out.strict HHo.out (q - 1) (by omega)
                  have e : q - 1 + 1 = q := by omega
                  simp only [e] at this
                  exact this
                generalize hx : L[q] = x at *
                obtain ⟨key, val⟩ := x
                simp only at c0 c1 hmem HPrev
                obtain ⟨hlo, hhi, hgt⟩ := hmem
                have hin := homeI_in key (i : Int)
                obtain ⟨hm, hme⟩ : ∃ hm : Nat, homeI key (i : Int) = (hm : Int) := ⟨(homeI key i).toNat, by omega⟩
                obtain ⟨rb, pz, rfl, hmi, hcell, hget⟩ := HGt.out key val hm hme hgt
                have hkl : key.length ≤ 9223372036854775807 := by obtain ⟨hi2, hg2⟩ := hgt; have := get_len (HHo.out.1 _ (List.getElem_mem hi2)) hg2; omega
                have HH : Hid (∀ W, Calls Tryd.prog 11 #[.string (txt key), .int .i64 (i : Int)] W fun e w' => e = .returned (.int .i64 (hm : Int)) ∧ w' = W) := fun W => by rw [← hme]; exact home_any key hkl (i : Int) (by omega) (by omega) W
                have HBd := toHid (HBk.out.trans (Below.refl _ _).drew)
                have HGe := toHid (hget wr.drew HBd.out)
                have r0 := hcell wr HBk.out
                have r1 := hcell wr.drew HBd.out
                have HCl := toHid hcell
                have HKd : Hid (SlQ wr.drew (some ⟨b', o', none⟩) L) := HQk.out.below (Below.refl _ _).drew
                have d0 : wr.drew.cell? ⟨b', o' + q * 2, none⟩ = some (.string (txt key)) := c0
                have bl1 : Op.bytesLess (txt key).toList (txt x0).toList = false := by rw [toList_txt, toList_txt, bytesLess_eq]; simpa using hlo
                have bl2 : (!Op.bytesLess (txt key).toList (txt x1).toList && !(txt key).toList == (txt x1).toList) = false := gtr_not (by simpa using hhi)
                have bv : ((txt val).toList == (txt val).toList) = true := by simp
                have z1 : (hm : Int) < (i : Int) := by omega
                have z2 : (q : Int) < (L.length : Int) := by omega
                clear hin hme hcell hget hgt hlo hhi hkl
                go_wp2_with fail
                go_region_held3 (fun W => W.cell? ⟨b', o' + q * 2, none⟩ = some (.string (txt key)) ∧ W.cell? ⟨rb, hm, none⟩ = some (.pointer (some ⟨pz, 0, none⟩))) (with_reducible exact ⟨by assumption, by assumption⟩) ((first
                  | (go_at_call 11; refine Calls.mono (HH.out _) ?_; rintro e wa ⟨rfl, rfl⟩)
                  | (go_at_call 22; refine Calls.mono HGe.out ?_; rintro e wg ⟨rfl, bg⟩; have HBg := toHid (HBd.out.trans (bg.mono HBd.out.size)); have HQg := toHid (HKd.out.below bg); clear bg; have r2 := HCl.out wg HBg.out; obtain ⟨b2, o2, he2, _, e0, e1⟩ := HQg.out.at q hq; simp only [Option.some.injEq, Addr.mk.injEq, and_true] at he2; obtain ⟨rfl, rfl⟩ := he2; rw [hx] at e0 e1; simp only at e0 e1)))
                clear c0 c1 d0 r0 r1 r2 HH HGe HBd HKd HBk HQk HCl
                obtain ⟨⟨g0, g1, g2⟩, _⟩ := HS.out _ (HW.out _ HBg.out)
                by_cases hq0 : q = 0
                · have zq : decide (0 < q) = false := by simp [hq0]
                  clear hq0
                  go_wp2_with fail
                  go_quiet (fail)
                  go_wp2_with fail
                  have hdn := below_drewN (Below.refl wg.heap.size wg) nq
                  have HB2 := toHid (below_drewN HBg.out nq)
                  have HQ2 := toHid (HQg.out.below hdn)
                  refine ⟨?rel, ?measure⟩
                  case rel => exact ⟨q + 1, by omega, by simp, HB2, HQ2⟩
                  case measure => first | omega | (simp only [intOf]; omega) | (simp [intOf]; omega)
                · obtain ⟨q', rfl⟩ : ∃ q', q = q' + 1 := ⟨q - 1, by omega⟩
                  have hpv := HPrev.out (by omega)
                  obtain ⟨b3, o3, he3, _, p0, p1⟩ := HQg.out.at q' (by omega)
                  simp only [Option.some.injEq, Addr.mk.injEq, and_true] at he3
                  obtain ⟨rfl, rfl⟩ := he3
                  simp only [Nat.add_sub_cancel] at hpv
                  generalize hxp : L[q'] = xp at *
                  obtain ⟨kp, vp⟩ := xp
                  simp only at p0 p1 hpv
                  have bl3 : Op.bytesLess (txt kp).toList (txt key).toList = true := by rw [toList_txt, toList_txt, bytesLess_eq]; simpa using hpv
                  have z3 : (q' : Int) < (L.length : Int) := by omega
                  go_wp2_with fail
                  go_quiet (fail)
                  go_wp2_with fail
                  have hdn := below_drewN (Below.refl wg.heap.size wg) nq
                  have HB2 := toHid (below_drewN HBg.out nq)
                  have HQ2 := toHid (HQg.out.below hdn)
                  refine ⟨?rel, ?measure⟩
                  case rel => exact ⟨q' + 1 + 1, by omega, by simp, HB2, HQ2⟩
                  case measure => first | omega | (simp only [intOf]; omega) | (simp [intOf]; omega)
              · skip
                obtain rfl : q = L.length := by omega
                obtain ⟨⟨b0, b1, b2⟩, _⟩ := HS.out _ (HW.out _ HBk.out)
                have HF2 : Hid (Op.bytesLess (txt x2).toList (txt x0).toList = decide (x2 < x0)) := by unfold Hid; rw [toList_txt, toList_txt, bytesLess_eq]
                have HF3 : Hid ((!Op.bytesLess (txt x2).toList (txt x1).toList && !(txt x2).toList == (txt x1).toList) = decide (x1 < x2)) := gtr_of x2 x1
                obtain ⟨u1, hu1⟩ : ∃ u1, Op.bytesLess (txt x2).toList (txt x0).toList = u1 := ⟨_, rfl⟩
                obtain ⟨u2, hu2⟩ : ∃ u2, (!Op.bytesLess (txt x2).toList (txt x1).toList && !(txt x2).toList == (txt x1).toList) = u2 := ⟨_, rfl⟩
                rw [hu1] at HF2
                rw [hu2] at HF3
                have HBl := toHid (HS.out _ (HW.out _ HBk.out)).2.2.1
                cases u1
                case true =>
                  go_wp2_with fail
                  refine Calls.mono (HLv.out _ HBl.out) ?_
                  rintro e wz ⟨rfl, bz⟩
                  have BZ := toHid bz
                  clear bz
                  go_wp2_with fail
                  go_ret
                  exact ⟨rfl, BZ.out⟩
                case false =>
                cases u2
                case true =>
                  go_wp2_with fail
                  refine Calls.mono (HLv.out _ HBl.out) ?_
                  rintro e wz ⟨rfl, bz⟩
                  have BZ := toHid bz
                  clear bz
                  go_wp2_with fail
                  go_ret
                  exact ⟨rfl, BZ.out⟩
                case false =>
                have hca : ¬ x2 < x0 := of_decide_eq_false HF2.out.symm
                have hcb : ¬ x1 < x2 := of_decide_eq_false HF3.out.symm
                have HJ := toHid (fun (M K : List Pq) (hM : Rng (i : Int) ls x0 x2 M) (hK : Rng (i : Int) ls x2 x1 K) => HRx.out.join HHo.out hca hcb hM hK)
                clear hca hcb HF2 HF3 HBl
                go_wp2_with fail
                refine Calls.mono (HRg.out _ x0 x2 HBk.out) ?_
                rintro e wA ⟨aM, cM, M, rfl, hRM, hMl, hQM, hbA⟩
                have HRM := toHid hRM
                have HM := toHid (slQ_of_own hQM)
                have hcM := (own_room hQM).1
                have HBA := toHid (HBk.out.trans (hbA.mono HBk.out.size))
                have HQA := toHid (HQk.out.below hbA)
                clear hRM hQM hbA b0 b1 b2
                obtain ⟨⟨b0, b1, b2⟩, _⟩ := HS.out _ (HW.out _ HBA.out)
                go_wp2_with fail
                refine Calls.mono (HRg.out _ x2 x1 HBA.out) ?_
                rintro e wB ⟨aK, cK, K, rfl, hRK, hKl, hQK, hbB⟩
                have HRK := toHid hRK
                have HKo := toHid hQK
                have HKq := toHid (slQ_of_own hQK)
                have HMB := toHid (HM.out.below hbB)
                have HBB := toHid (HBA.out.trans (hbB.mono HBA.out.size))
                have HQB := toHid (HQA.out.below hbB)
                clear hRK hQK hbB b0 b1 b2 HM HQA
                obtain ⟨⟨b0, b1, b2⟩, _⟩ := HS.out _ (HW.out _ HBB.out)
                have hcK := (own_room HKo.out).1
                have hcK2 := (own_room HKo.out).2
                by_cases hK0 : K = []
                · have HLK : Hid (L = M ++ K) := (HJ.out M K HRM.out HRK.out).2 (fun x K' e => by rw [hK0] at e; cases e)
                  have zK : decide (0 < K.length) = false := by simp [hK0]
                  clear hK0
                  go_wp2_with fail
                  go_quiet (fail)
                  have hdn := below_drewN (Below.refl wB.heap.size wB) nq
                  have HMC := toHid (HMB.out.below hdn)
                  have HQC := toHid (HQB.out.below hdn)
                  have HZC : Hid (SlQ (wB.drewN nq) aK K) := (HKq.out).below hdn
                  have HBC := toHid (below_drewN HBB.out nq)
                  have HOz := toHid (own_zero (wB.drewN nq))
                  have hLL : L.length ≤ 100000 := by omega
                  have hMM : M.length ≤ 100000 := by omega
                  clear hdn b0 b1 b2 HMB HQB HBB 
                  go_wp2_with (at_builtin; first
                    | (refine wpList_append_pq2 _ rfl _ _ rfl (wB.drewN nq).heap.size (.slice none 0 0) [] rfl HOz.out aM cM M.length M M rfl rfl HMC.out hcM rfl hMM (Nat.le_refl _) ?_; intro a1 d1 w1 hown1 hb1; have HO1 := toHid hown1; have hs1 : (wB.drewN nq).heap.size ≤ w1.heap.size := hb1.size; have HZ1 := toHid (HZC.out.below hb1); have HB1 := toHid hb1; clear hown1 hb1 HOz)
                    | (refine wpList_append_pq2 _ rfl _ _ rfl (wB.drewN nq).heap.size (.slice a1 M.length d1) M rfl HO1.out aK cK K.length K L rfl rfl HZ1.out hcK HLK.out hLL hs1 ?_; intro a2 d2 w2 hown2 hb2; have HL2 := toHid (slQ_of_own hown2); have HB2 := toHid (HB1.out.trans hb2); have HQ2 := toHid (HQC.out.below HB2.out); have HBl := toHid (HS.out _ (HW.out _ (HBC.out.trans (HB2.out.mono HBC.out.size)))).2.2.1; clear hown2 hb2))
                  all_goals
                    refine Calls.mono (samepairs_any aL cL L a2 d2 L _ HQ2.out HL2.out (by omega) (by omega)) ?_
                    rintro e w3 ⟨rfl, b3⟩
                    have HB3 := toHid (HBl.out.trans (b3.mono HBl.out.size))
                    clear b3
                    rw [decide_eq_true rfl]
                    go_wp2_with fail
                    refine Calls.mono (HLv.out _ HB3.out) ?_
                    rintro e wz ⟨rfl, bz⟩
                    have BZ := toHid bz
                    clear bz
                    go_wp2_with fail
                    go_ret
                    exact ⟨rfl, BZ.out⟩
                · obtain ⟨⟨yk, yv⟩, K', hKe⟩ := List.exists_cons_of_ne_nil hK0
                  have hKn : K.length = K'.length + 1 := by rw [hKe]; rfl
                  have zK2 : 0 < K.length := by omega
                  have zK : decide (0 < K.length) = true := by simp only [decide_eq_true_eq]; omega
                  obtain ⟨bK, oK, rfl, _, k0, _⟩ := HKq.out.at 0 zK2
                  have ky : K[0] = (yk, yv) := by simp only [hKe, List.getElem_cons_zero]
                  rw [ky] at k0
                  simp only [Nat.zero_mul, Nat.add_zero] at k0
                  by_cases hy : yk = x2
                  · have ye : ((txt yk).toList == (txt x2).toList) = true := by simp [hy]
                    have HLK : Hid (L = M ++ K') := (HJ.out M K HRM.out HRK.out).1 (yk, yv) K' hKe hy
                    have HZq : Hid (SlQ wB (if cK = 1 then some ⟨bK, oK, none⟩ else some ⟨bK, oK + 2, none⟩) K') := by
                      unfold Hid
                      by_cases hc1 : cK = 1
                      · rw [if_pos hc1]
                        have : K' = [] := List.eq_nil_of_length_eq_zero (by omega)
                        subst this
                        exact ⟨fun _ => rfl, fun x _ i t ht => by simp at ht⟩
                      · rw [if_neg hc1]
                        have := HKq.out
                        rw [hKe] at this
                        exact this.tail
                    have hcZ : (if cK = 1 then some (⟨bK, oK, none⟩ : Addr) else some ⟨bK, oK + 2, none⟩) = none → cK - 1 = 0 := fun e => by split at e <;> cases e
                    have hmz : Hid (K.length - 1 = K'.length) := by unfold Hid; omega
                    have hcZ' := toHid hcZ
                    have z1K : (1 : Int) ≤ (K.length : Int) := by omega
                    clear hKe hy ky hKn hcZ
                    go_wp2_with fail
                    go_quiet (fail)
                    have hdn := below_drewN (Below.refl wB.heap.size wB) nq
                    have HMC := toHid (HMB.out.below hdn)
                    have HQC := toHid (HQB.out.below hdn)
                    have HZC : Hid (SlQ (wB.drewN nq) (if cK = 1 then some ⟨bK, oK, none⟩ else some ⟨bK, oK + 2, none⟩) K') := (HZq.out).below hdn
                    have HBC := toHid (below_drewN HBB.out nq)
                    have HOz := toHid (own_zero (wB.drewN nq))
                    have hLL : L.length ≤ 100000 := by omega
                    have hMM : M.length ≤ 100000 := by omega
                    clear hdn b0 b1 b2 HMB HQB HBB k0
                    go_wp2_with (at_builtin; first
                      | (refine wpList_append_pq2 _ rfl _ _ rfl (wB.drewN nq).heap.size (.slice none 0 0) [] rfl HOz.out aM cM M.length M M rfl rfl HMC.out hcM rfl hMM (Nat.le_refl _) ?_; intro a1 d1 w1 hown1 hb1; have HO1 := toHid hown1; have hs1 : (wB.drewN nq).heap.size ≤ w1.heap.size := hb1.size; have HZ1 := toHid (HZC.out.below hb1); have HB1 := toHid hb1; clear hown1 hb1 HOz)
                      | (refine wpList_append_pq2 _ rfl _ _ rfl (wB.drewN nq).heap.size (.slice a1 M.length d1) M rfl HO1.out (if cK = 1 then some ⟨bK, oK, none⟩ else some ⟨bK, oK + 2, none⟩) (cK - 1) (K.length - 1) K' L rfl hmz.out HZ1.out hcZ'.out HLK.out hLL hs1 ?_; intro a2 d2 w2 hown2 hb2; have HL2 := toHid (slQ_of_own hown2); have HB2 := toHid (HB1.out.trans hb2); have HQ2 := toHid (HQC.out.below HB2.out); have HBl := toHid (HS.out _ (HW.out _ (HBC.out.trans (HB2.out.mono HBC.out.size)))).2.2.1; clear hown2 hb2))
                    all_goals
                      refine Calls.mono (samepairs_any aL cL L a2 d2 L _ HQ2.out HL2.out (by omega) (by omega)) ?_
                      rintro e w3 ⟨rfl, b3⟩
                      have HB3 := toHid (HBl.out.trans (b3.mono HBl.out.size))
                      clear b3
                      rw [decide_eq_true rfl]
                      go_wp2_with fail
                      refine Calls.mono (HLv.out _ HB3.out) ?_
                      rintro e wz ⟨rfl, bz⟩
                      have BZ := toHid bz
                      clear bz
                      go_wp2_with fail
                      go_ret
                      exact ⟨rfl, BZ.out⟩
                  · have ye : ((txt yk).toList == (txt x2).toList) = false := by rw [toList_txt, toList_txt]; simpa using hy
                    have HLK : Hid (L = M ++ K) := (HJ.out M K HRM.out HRK.out).2 (fun x K2 e => by rw [hKe] at e; cases e; exact hy)
                    clear hKe hy ky hKn
                    go_wp2_with fail
                    go_quiet (fail)
                    have hdn := below_drewN (Below.refl wB.heap.size wB) nq
                    have HMC := toHid (HMB.out.below hdn)
                    have HQC := toHid (HQB.out.below hdn)
                    have HZC : Hid (SlQ (wB.drewN nq) (some ⟨bK, oK, none⟩) K) := (HKq.out).below hdn
                    have HBC := toHid (below_drewN HBB.out nq)
                    have HOz := toHid (own_zero (wB.drewN nq))
                    have hLL : L.length ≤ 100000 := by omega
                    have hMM : M.length ≤ 100000 := by omega
                    clear hdn b0 b1 b2 HMB HQB HBB k0
                    go_wp2_with (at_builtin; first
                      | (refine wpList_append_pq2 _ rfl _ _ rfl (wB.drewN nq).heap.size (.slice none 0 0) [] rfl HOz.out aM cM M.length M M rfl rfl HMC.out hcM rfl hMM (Nat.le_refl _) ?_; intro a1 d1 w1 hown1 hb1; have HO1 := toHid hown1; have hs1 : (wB.drewN nq).heap.size ≤ w1.heap.size := hb1.size; have HZ1 := toHid (HZC.out.below hb1); have HB1 := toHid hb1; clear hown1 hb1 HOz)
                      | (refine wpList_append_pq2 _ rfl _ _ rfl (wB.drewN nq).heap.size (.slice a1 M.length d1) M rfl HO1.out (some ⟨bK, oK, none⟩) cK K.length K L rfl rfl HZ1.out hcK HLK.out hLL hs1 ?_; intro a2 d2 w2 hown2 hb2; have HL2 := toHid (slQ_of_own hown2); have HB2 := toHid (HB1.out.trans hb2); have HQ2 := toHid (HQC.out.below HB2.out); have HBl := toHid (HS.out _ (HW.out _ (HBC.out.trans (HB2.out.mono HBC.out.size)))).2.2.1; clear hown2 hb2))
                    all_goals
                      refine Calls.mono (samepairs_any aL cL L a2 d2 L _ HQ2.out HL2.out (by omega) (by omega)) ?_
                      rintro e w3 ⟨rfl, b3⟩
                      have HB3 := toHid (HBl.out.trans (b3.mono HBl.out.size))
                      clear b3
                      rw [decide_eq_true rfl]
                      go_wp2_with fail
                      refine Calls.mono (HLv.out _ HB3.out) ?_
                      rintro e wz ⟨rfl, bz⟩
                      have BZ := toHid bz
                      clear bz
                      go_wp2_with fail
                      go_ret
                      exact ⟨rfl, BZ.out⟩
        · skip
          generalize wr = wy at *
          obtain ⟨es, hes, hfm, hrow, hho⟩ := HE.out
          have hRow : Row wy (w.heap.size + 1) a c es := by unfold Row; rw [hes]; exact hrow
          have HHo := toHid hho
          have HRg : Hid (∀ (W : World) (f t : List UInt8), Below wy.heap.size wy W → Calls Tryd.prog 28 #[.slice a i c, .string (txt f), .string (txt t)] W fun e w' => ∃ aL cL, ∃ L : List Pq, e = .returned (.slice aL L.length cL) ∧ Rng (i : Int) (es.map (·.l)) f t L ∧ L.length ≤ 2000 ∧ w'.ownsRow W.heap.size 74 2 (.slice aL L.length cL) L.length (pcells L) ∧ Below W.heap.size W w') := fun W f t hW => by
            have hsl := (hRow.below hW).slG (hfm.below hW)
            have hlen : (hnd es).length = i := by simp [hnd, hes]
            have hc := range_any a c (hnd es) f t W hsl (by omega)
            rw [hlen] at hc
            refine Calls.mono hc ?_
            rintro e w' ⟨aL, cL, L, X, rfl, h1, h2, h3, h4, h5, h6⟩
            have hmap : (hnd es).map (·.2) = es.map (·.l) := by simp [hnd]
            rw [hmap] at h1
            exact ⟨aL, cL, L, rfl, rng_of h1 h2 h3, by omega, h5, h6⟩
          have HGt : Hid (∀ (key val : List UInt8) (hm : Nat), homeI key (i : Int) = (hm : Int) → (∃ hi : (homeI key (i : Int)).toNat < (es.map (·.l)).length, getL (es.map (·.l))[(homeI key (i : Int)).toNat] key = some val) → ∃ rb pz, a = some ⟨rb, 0, none⟩ ∧ hm < i ∧ (∀ W, Below wy.heap.size wy W → W.cell? ⟨rb, hm, none⟩ = some (.pointer (some ⟨pz, 0, none⟩))) ∧ ∀ W, Below wy.heap.size wy W → Calls Tryd.prog 22 #[.pointer (some ⟨pz, 0, none⟩), .string (txt key)] W fun e w' => e = .returned (.tuple #[.string (txt val), .int .i64 2]) ∧ Below W.heap.size W w') := fun key val hm hme hg => by
            obtain ⟨hi, hg⟩ := hg
            have hmm : (homeI key (i : Int)).toNat = hm := by omega
            simp only [hmm, List.getElem_map] at hg
            have hml : hm < es.length := by rw [hmm] at hi; simpa using hi
            obtain ⟨rb, e1, _, _⟩ := hRow.cell hm hml
            refine ⟨rb, es[hm].p, e1, by omega, fun W hW => ?_, fun W hW => ?_⟩
            · obtain ⟨rb', e2, _, e3⟩ := (hRow.below hW).cell hm hml
              rw [e1] at e2
              cases e2
              exact e3
            · have hf := hfm.below hW
              have := tget_any (w.heap.size + 1) es[hm].p (hm : Int) 0 es[hm].v es[hm].l key W (hf.ok hm hml) (hf.good hm hml)
              have ht : tgetL es[hm].l key = (val, 2) := by unfold tgetL; rw [hg]
              rw [ht] at this
              exact this
          have HW : Hid (∀ W, Below wy.heap.size wy W → Below (w.heap.size + 1) w0 W) := fun W hW => HC.out.trans (hW.mono (HS.out _ HC.out).2.2.2)
          have hnW := (HS.out _ HC.out).2.2.2
          generalize es.map (·.l) = ls at *
          clear hes hfm hrow hho hRow HE
          obtain ⟨⟨b0, b1, b2⟩, _⟩ := HS.out _ HC.out
          go_wp2_with fail
          refine Calls.mono (HRg.out _ x0 x1 (Below.refl _ _)) ?_
          rintro e wx ⟨aL, cL, L, rfl, hRng, hLl, hQ, hbx⟩
          have HRx := toHid hRng
          have HX := toHid (slQ_of_own hQ)
          have HBx := toHid hbx
          clear hRng hQ hbx b0 b1 b2
          go_wp2_with fail
          go_loopw [13] (fun vq wk => ∃ q : Nat, q ≤ L.length ∧ vq = .int .i64 q ∧ Hid (Below wy.heap.size wy wk) ∧ Hid (SlQ wk aL L)) (fun vq _ => L.length - (intOf vq).toNat)
          case atStart => exact ⟨0, Nat.zero_le _, rfl, HBx, HX⟩
          case round =>
            clear HBx HX
            obtain ⟨q, hqL, rfl, HBk, HQk⟩ := hrel
            by_cases hq : q < L.length
            · skip
              obtain ⟨b', o', rfl, hbl, c0, c1⟩ := HQk.out.at q hq
              have hmem := HRx.out.mem HHo.out (List.getElem_mem hq)
              have HPrev : Hid (∀ hq0 : 0 < q, L[q - 1].1 < L[q].1) := fun hq0 => by
                have := HRx.out.strict HHo.out (q - 1) (by omega)
                have e : q - 1 + 1 = q := by omega
                simp only [e] at this
                exact this
              generalize hx : L[q] = x at *
              obtain ⟨key, val⟩ := x
              simp only at c0 c1 hmem HPrev
              obtain ⟨hlo, hhi, hgt⟩ := hmem
              have hin := homeI_in key (i : Int)
              obtain ⟨hm, hme⟩ : ∃ hm : Nat, homeI key (i : Int) = (hm : Int) := ⟨(homeI key i).toNat, by omega⟩
              obtain ⟨rb, pz, rfl, hmi, hcell, hget⟩ := HGt.out key val hm hme hgt
              have hkl : key.length ≤ 9223372036854775807 := by obtain ⟨hi2, hg2⟩ := hgt; have := get_len (HHo.out.1 _ (List.getElem_mem hi2)) hg2; omega
              have HH : Hid (∀ W, Calls Tryd.prog 11 #[.string (txt key), .int .i64 (i : Int)] W fun e w' => e = .returned (.int .i64 (hm : Int)) ∧ w' = W) := fun W => by rw [← hme]; exact home_any key hkl (i : Int) (by omega) (by omega) W
              have HBd := toHid (HBk.out.trans (Below.refl _ _).drew)
              have HGe := toHid (hget wr.drew HBd.out)
              have r0 := hcell wr HBk.out
              have r1 := hcell wr.drew HBd.out
              have HCl := toHid hcell
              have HKd : Hid (SlQ wr.drew (some ⟨b', o', none⟩) L) := HQk.out.below (Below.refl _ _).drew
              have d0 : wr.drew.cell? ⟨b', o' + q * 2, none⟩ = some (.string (txt key)) := c0
              have bl1 : Op.bytesLess (txt key).toList (txt x0).toList = false := by rw [toList_txt, toList_txt, bytesLess_eq]; simpa using hlo
              have bl2 : (!Op.bytesLess (txt key).toList (txt x1).toList && !(txt key).toList == (txt x1).toList) = false := gtr_not (by simpa using hhi)
              have bv : ((txt val).toList == (txt val).toList) = true := by simp
              have z1 : (hm : Int) < (i : Int) := by omega
              have z2 : (q : Int) < (L.length : Int) := by omega
              clear hin hme hcell hget hgt hlo hhi hkl
              go_wp2_with fail
              go_region_held3 (fun W => W.cell? ⟨b', o' + q * 2, none⟩ = some (.string (txt key)) ∧ W.cell? ⟨rb, hm, none⟩ = some (.pointer (some ⟨pz, 0, none⟩))) (with_reducible exact ⟨by assumption, by assumption⟩) ((first
                | (go_at_call 11; refine Calls.mono (HH.out _) ?_; rintro e wa ⟨rfl, rfl⟩)
                | (go_at_call 22; refine Calls.mono HGe.out ?_; rintro e wg ⟨rfl, bg⟩; have HBg := toHid (HBd.out.trans (bg.mono HBd.out.size)); have HQg := toHid (HKd.out.below bg); clear bg; have r2 := HCl.out wg HBg.out; obtain ⟨b2, o2, he2, _, e0, e1⟩ := HQg.out.at q hq; simp only [Option.some.injEq, Addr.mk.injEq, and_true] at he2; obtain ⟨rfl, rfl⟩ := he2; rw [hx] at e0 e1; simp only at e0 e1)))
              clear c0 c1 d0 r0 r1 r2 HH HGe HBd HKd HBk HQk HCl
              obtain ⟨⟨g0, g1, g2⟩, _⟩ := HS.out _ (HW.out _ HBg.out)
              by_cases hq0 : q = 0
              · have zq : decide (0 < q) = false := by simp [hq0]
                clear hq0
                go_wp2_with fail
                go_quiet (fail)
                go_wp2_with fail
                have hdn := below_drewN (Below.refl wg.heap.size wg) nq
                have HB2 := toHid (below_drewN HBg.out nq)
                have HQ2 := toHid (HQg.out.below hdn)
                refine ⟨?rel, ?measure⟩
                case rel => exact ⟨q + 1, by omega, by simp, HB2, HQ2⟩
                case measure => first | omega | (simp only [intOf]; omega) | (simp [intOf]; omega)
              · obtain ⟨q', rfl⟩ : ∃ q', q = q' + 1 := ⟨q - 1, by omega⟩
                have hpv := HPrev.out (by omega)
                obtain ⟨b3, o3, he3, _, p0, p1⟩ := HQg.out.at q' (by omega)
                simp only [Option.some.injEq, Addr.mk.injEq, and_true] at he3
                obtain ⟨rfl, rfl⟩ := he3
                simp only [Nat.add_sub_cancel] at hpv
                generalize hxp : L[q'] = xp at *
                obtain ⟨kp, vp⟩ := xp
                simp only at p0 p1 hpv
                have bl3 : Op.bytesLess (txt kp).toList (txt key).toList = true := by rw [toList_txt, toList_txt, bytesLess_eq]; simpa using hpv
                have z3 : (q' : Int) < (L.length : Int) := by omega
                go_wp2_with fail
                go_quiet (fail)
                go_wp2_with fail
                have hdn := below_drewN (Below.refl wg.heap.size wg) nq
                have HB2 := toHid (below_drewN HBg.out nq)
                have HQ2 := toHid (HQg.out.below hdn)
                refine ⟨?rel, ?measure⟩
                case rel => exact ⟨q' + 1 + 1, by omega, by simp, HB2, HQ2⟩
                case measure => first | omega | (simp only [intOf]; omega) | (simp [intOf]; omega)
            · skip
              obtain rfl : q = L.length := by omega
              obtain ⟨⟨b0, b1, b2⟩, _⟩ := HS.out _ (HW.out _ HBk.out)
              have HF2 : Hid (Op.bytesLess (txt x2).toList (txt x0).toList = decide (x2 < x0)) := by unfold Hid; rw [toList_txt, toList_txt, bytesLess_eq]
              have HF3 : Hid ((!Op.bytesLess (txt x2).toList (txt x1).toList && !(txt x2).toList == (txt x1).toList) = decide (x1 < x2)) := gtr_of x2 x1
              obtain ⟨u1, hu1⟩ : ∃ u1, Op.bytesLess (txt x2).toList (txt x0).toList = u1 := ⟨_, rfl⟩
              obtain ⟨u2, hu2⟩ : ∃ u2, (!Op.bytesLess (txt x2).toList (txt x1).toList && !(txt x2).toList == (txt x1).toList) = u2 := ⟨_, rfl⟩
              rw [hu1] at HF2
              rw [hu2] at HF3
              have HBl := toHid (HS.out _ (HW.out _ HBk.out)).2.2.1
              cases u1
              case true =>
                go_wp2_with fail
                refine Calls.mono (HLv.out _ HBl.out) ?_
                rintro e wz ⟨rfl, bz⟩
                have BZ := toHid bz
                clear bz
                go_wp2_with fail
                go_ret
                exact ⟨rfl, BZ.out⟩
              case false =>
              cases u2
              case true =>
                go_wp2_with fail
                refine Calls.mono (HLv.out _ HBl.out) ?_
                rintro e wz ⟨rfl, bz⟩
                have BZ := toHid bz
                clear bz
                go_wp2_with fail
                go_ret
                exact ⟨rfl, BZ.out⟩
              case false =>
              have hca : ¬ x2 < x0 := of_decide_eq_false HF2.out.symm
              have hcb : ¬ x1 < x2 := of_decide_eq_false HF3.out.symm
              have HJ := toHid (fun (M K : List Pq) (hM : Rng (i : Int) ls x0 x2 M) (hK : Rng (i : Int) ls x2 x1 K) => HRx.out.join HHo.out hca hcb hM hK)
              clear hca hcb HF2 HF3 HBl
              go_wp2_with fail
              refine Calls.mono (HRg.out _ x0 x2 HBk.out) ?_
              rintro e wA ⟨aM, cM, M, rfl, hRM, hMl, hQM, hbA⟩
              have HRM := toHid hRM
              have HM := toHid (slQ_of_own hQM)
              have hcM := (own_room hQM).1
              have HBA := toHid (HBk.out.trans (hbA.mono HBk.out.size))
              have HQA := toHid (HQk.out.below hbA)
              clear hRM hQM hbA b0 b1 b2
              obtain ⟨⟨b0, b1, b2⟩, _⟩ := HS.out _ (HW.out _ HBA.out)
              go_wp2_with fail
              refine Calls.mono (HRg.out _ x2 x1 HBA.out) ?_
              rintro e wB ⟨aK, cK, K, rfl, hRK, hKl, hQK, hbB⟩
              have HRK := toHid hRK
              have HKo := toHid hQK
              have HKq := toHid (slQ_of_own hQK)
              have HMB := toHid (HM.out.below hbB)
              have HBB := toHid (HBA.out.trans (hbB.mono HBA.out.size))
              have HQB := toHid (HQA.out.below hbB)
              clear hRK hQK hbB b0 b1 b2 HM HQA
              obtain ⟨⟨b0, b1, b2⟩, _⟩ := HS.out _ (HW.out _ HBB.out)
              have hcK := (own_room HKo.out).1
              have hcK2 := (own_room HKo.out).2
              by_cases hK0 : K = []
              · have HLK : Hid (L = M ++ K) := (HJ.out M K HRM.out HRK.out).2 (fun x K' e => by rw [hK0] at e; cases e)
                have zK : decide (0 < K.length) = false := by simp [hK0]
                clear hK0
                go_wp2_with fail
                go_quiet (fail)
                have hdn := below_drewN (Below.refl wB.heap.size wB) nq
                have HMC := toHid (HMB.out.below hdn)
                have HQC := toHid (HQB.out.below hdn)
                have HZC : Hid (SlQ (wB.drewN nq) aK K) := (HKq.out).below hdn
                have HBC := toHid (below_drewN HBB.out nq)
                have HOz := toHid (own_zero (wB.drewN nq))
                have hLL : L.length ≤ 100000 := by omega
                have hMM : M.length ≤ 100000 := by omega
                clear hdn b0 b1 b2 HMB HQB HBB 
                go_wp2_with (at_builtin; first
                  | (refine wpList_append_pq2 _ rfl _ _ rfl (wB.drewN nq).heap.size (.slice none 0 0) [] rfl HOz.out aM cM M.length M M rfl rfl HMC.out hcM rfl hMM (Nat.le_refl _) ?_; intro a1 d1 w1 hown1 hb1; have HO1 := toHid hown1; have hs1 : (wB.drewN nq).heap.size ≤ w1.heap.size := hb1.size; have HZ1 := toHid (HZC.out.below hb1); have HB1 := toHid hb1; clear hown1 hb1 HOz)
                  | (refine wpList_append_pq2 _ rfl _ _ rfl (wB.drewN nq).heap.size (.slice a1 M.length d1) M rfl HO1.out aK cK K.length K L rfl rfl HZ1.out hcK HLK.out hLL hs1 ?_; intro a2 d2 w2 hown2 hb2; have HL2 := toHid (slQ_of_own hown2); have HB2 := toHid (HB1.out.trans hb2); have HQ2 := toHid (HQC.out.below HB2.out); have HBl := toHid (HS.out _ (HW.out _ (HBC.out.trans (HB2.out.mono HBC.out.size)))).2.2.1; clear hown2 hb2))
                all_goals
                  refine Calls.mono (samepairs_any aL cL L a2 d2 L _ HQ2.out HL2.out (by omega) (by omega)) ?_
                  rintro e w3 ⟨rfl, b3⟩
                  have HB3 := toHid (HBl.out.trans (b3.mono HBl.out.size))
                  clear b3
                  rw [decide_eq_true rfl]
                  go_wp2_with fail
                  refine Calls.mono (HLv.out _ HB3.out) ?_
                  rintro e wz ⟨rfl, bz⟩
                  have BZ := toHid bz
                  clear bz
                  go_wp2_with fail
                  go_ret
                  exact ⟨rfl, BZ.out⟩
              · obtain ⟨⟨yk, yv⟩, K', hKe⟩ := List.exists_cons_of_ne_nil hK0
                have hKn : K.length = K'.length + 1 := by rw [hKe]; rfl
                have zK2 : 0 < K.length := by omega
                have zK : decide (0 < K.length) = true := by simp only [decide_eq_true_eq]; omega
                obtain ⟨bK, oK, rfl, _, k0, _⟩ := HKq.out.at 0 zK2
                have ky : K[0] = (yk, yv) := by simp only [hKe, List.getElem_cons_zero]
                rw [ky] at k0
                simp only [Nat.zero_mul, Nat.add_zero] at k0
                by_cases hy : yk = x2
                · have ye : ((txt yk).toList == (txt x2).toList) = true := by simp [hy]
                  have HLK : Hid (L = M ++ K') := (HJ.out M K HRM.out HRK.out).1 (yk, yv) K' hKe hy
                  have HZq : Hid (SlQ wB (if cK = 1 then some ⟨bK, oK, none⟩ else some ⟨bK, oK + 2, none⟩) K') := by
                    unfold Hid
                    by_cases hc1 : cK = 1
                    · rw [if_pos hc1]
                      have : K' = [] := List.eq_nil_of_length_eq_zero (by omega)
                      subst this
                      exact ⟨fun _ => rfl, fun x _ i t ht => by simp at ht⟩
                    · rw [if_neg hc1]
                      have := HKq.out
                      rw [hKe] at this
                      exact this.tail
                  have hcZ : (if cK = 1 then some (⟨bK, oK, none⟩ : Addr) else some ⟨bK, oK + 2, none⟩) = none → cK - 1 = 0 := fun e => by split at e <;> cases e
                  have hmz : Hid (K.length - 1 = K'.length) := by unfold Hid; omega
                  have hcZ' := toHid hcZ
                  have z1K : (1 : Int) ≤ (K.length : Int) := by omega
                  clear hKe hy ky hKn hcZ
                  go_wp2_with fail
                  go_quiet (fail)
                  have hdn := below_drewN (Below.refl wB.heap.size wB) nq
                  have HMC := toHid (HMB.out.below hdn)
                  have HQC := toHid (HQB.out.below hdn)
                  have HZC : Hid (SlQ (wB.drewN nq) (if cK = 1 then some ⟨bK, oK, none⟩ else some ⟨bK, oK + 2, none⟩) K') := (HZq.out).below hdn
                  have HBC := toHid (below_drewN HBB.out nq)
                  have HOz := toHid (own_zero (wB.drewN nq))
                  have hLL : L.length ≤ 100000 := by omega
                  have hMM : M.length ≤ 100000 := by omega
                  clear hdn b0 b1 b2 HMB HQB HBB k0
                  go_wp2_with (at_builtin; first
                    | (refine wpList_append_pq2 _ rfl _ _ rfl (wB.drewN nq).heap.size (.slice none 0 0) [] rfl HOz.out aM cM M.length M M rfl rfl HMC.out hcM rfl hMM (Nat.le_refl _) ?_; intro a1 d1 w1 hown1 hb1; have HO1 := toHid hown1; have hs1 : (wB.drewN nq).heap.size ≤ w1.heap.size := hb1.size; have HZ1 := toHid (HZC.out.below hb1); have HB1 := toHid hb1; clear hown1 hb1 HOz)
                    | (refine wpList_append_pq2 _ rfl _ _ rfl (wB.drewN nq).heap.size (.slice a1 M.length d1) M rfl HO1.out (if cK = 1 then some ⟨bK, oK, none⟩ else some ⟨bK, oK + 2, none⟩) (cK - 1) (K.length - 1) K' L rfl hmz.out HZ1.out hcZ'.out HLK.out hLL hs1 ?_; intro a2 d2 w2 hown2 hb2; have HL2 := toHid (slQ_of_own hown2); have HB2 := toHid (HB1.out.trans hb2); have HQ2 := toHid (HQC.out.below HB2.out); have HBl := toHid (HS.out _ (HW.out _ (HBC.out.trans (HB2.out.mono HBC.out.size)))).2.2.1; clear hown2 hb2))
                  all_goals
                    refine Calls.mono (samepairs_any aL cL L a2 d2 L _ HQ2.out HL2.out (by omega) (by omega)) ?_
                    rintro e w3 ⟨rfl, b3⟩
                    have HB3 := toHid (HBl.out.trans (b3.mono HBl.out.size))
                    clear b3
                    rw [decide_eq_true rfl]
                    go_wp2_with fail
                    refine Calls.mono (HLv.out _ HB3.out) ?_
                    rintro e wz ⟨rfl, bz⟩
                    have BZ := toHid bz
                    clear bz
                    go_wp2_with fail
                    go_ret
                    exact ⟨rfl, BZ.out⟩
                · have ye : ((txt yk).toList == (txt x2).toList) = false := by rw [toList_txt, toList_txt]; simpa using hy
                  have HLK : Hid (L = M ++ K) := (HJ.out M K HRM.out HRK.out).2 (fun x K2 e => by rw [hKe] at e; cases e; exact hy)
                  clear hKe hy ky hKn
                  go_wp2_with fail
                  go_quiet (fail)
                  have hdn := below_drewN (Below.refl wB.heap.size wB) nq
                  have HMC := toHid (HMB.out.below hdn)
                  have HQC := toHid (HQB.out.below hdn)
                  have HZC : Hid (SlQ (wB.drewN nq) (some ⟨bK, oK, none⟩) K) := (HKq.out).below hdn
                  have HBC := toHid (below_drewN HBB.out nq)
                  have HOz := toHid (own_zero (wB.drewN nq))
                  have hLL : L.length ≤ 100000 := by omega
                  have hMM : M.length ≤ 100000 := by omega
                  clear hdn b0 b1 b2 HMB HQB HBB k0
                  go_wp2_with (at_builtin; first
                    | (refine wpList_append_pq2 _ rfl _ _ rfl (wB.drewN nq).heap.size (.slice none 0 0) [] rfl HOz.out aM cM M.length M M rfl rfl HMC.out hcM rfl hMM (Nat.le_refl _) ?_; intro a1 d1 w1 hown1 hb1; have HO1 := toHid hown1; have hs1 : (wB.drewN nq).heap.size ≤ w1.heap.size := hb1.size; have HZ1 := toHid (HZC.out.below hb1); have HB1 := toHid hb1; clear hown1 hb1 HOz)
                    | (refine wpList_append_pq2 _ rfl _ _ rfl (wB.drewN nq).heap.size (.slice a1 M.length d1) M rfl HO1.out (some ⟨bK, oK, none⟩) cK K.length K L rfl rfl HZ1.out hcK HLK.out hLL hs1 ?_; intro a2 d2 w2 hown2 hb2; have HL2 := toHid (slQ_of_own hown2); have HB2 := toHid (HB1.out.trans hb2); have HQ2 := toHid (HQC.out.below HB2.out); have HBl := toHid (HS.out _ (HW.out _ (HBC.out.trans (HB2.out.mono HBC.out.size)))).2.2.1; clear hown2 hb2))
                  all_goals
                    refine Calls.mono (samepairs_any aL cL L a2 d2 L _ HQ2.out HL2.out (by omega) (by omega)) ?_
                    rintro e w3 ⟨rfl, b3⟩
                    have HB3 := toHid (HBl.out.trans (b3.mono HBl.out.size))
                    clear b3
                    rw [decide_eq_true rfl]
                    go_wp2_with fail
                    refine Calls.mono (HLv.out _ HB3.out) ?_
                    rintro e wz ⟨rfl, bz⟩
                    have BZ := toHid bz
                    clear bz
                    go_wp2_with fail
                    go_ret
                    exact ⟨rfl, BZ.out⟩
end Go.Proofs.YtebchgoaelamcaaDoor
