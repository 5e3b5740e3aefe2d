/-
  TableDoes: the walk.
-/
import Derived.Test.YtebchgoaelamcaaDoorKe
namespace Go.Proofs.YtebchgoaelamcaaDoor
open Go.RowKit
set_option maxRecDepth 100000

set_option maxHeartbeats 8000000 in
theorem does_walk (a0 : Option Addr) (c0 : Nat) (l0 : List Pr) (a1 : Option Addr) (c1 : Nat) (ks : List As) (w : World) (hs0 : SlP w a0 l0) (hl0 : l0.length ≤ maxLen) (hs1 : SlK w a1 ks) (_hl1 : ks.length ≤ maxLen) (ht : Tb w) :
    Calls Tryd.prog 5 #[.slice a0 l0.length c0, .slice a1 ks.length c1] w fun e w' => e = .returned (.bool true) ∧ Below w.heap.size w w' := by
  have HPr := toHid (pair_any a0 c0 l0 w hs0 hl0)
  have HK := toHid hs1
  have HT := toHid ht
  have HLv : Hid (∀ W, Below w.heap.size w W → Calls Tryd.prog 10 #[] W fun e w' => e = .returned (.bool true) ∧ Below w.heap.size w w') := fun W hW => by
    refine Calls.mono (lives_any W (ht.below hW)) ?_
    rintro e w' ⟨rfl, b⟩
    exact ⟨rfl, hW.trans (b.mono hW.size)⟩
  unfold maxLen at _hl1
  clear hs0 hl0 hs1 ht
  go_enter Tryd.func5, Tryd.ntmps5
  go_wp2_with fail
  refine Calls.mono HPr.out ?_
  rintro e w1 ⟨L0, v0, a', c', rfl, hp1, hb1⟩
  have HP2 : Hid (PgOk (w1.alloc (.cells #[.int .i64 0, .int .u64 ((0 : Nat) : Int), .slice a' L0.length c'] 39)) (w.heap.size + 1) (w.heap.size + 1) 0 0 v0 L0) := hp1.pg.below ((Below.refl _ _).alloc (Nat.le_refl _) _) (Nat.le_refl _)
  have HB2 : Hid (Below w.heap.size w (w1.alloc (.cells #[.int .i64 0, .int .u64 ((0 : Nat) : Int), .slice a' L0.length c'] 39))) := hb1.alloc hb1.size _
  have HG0 := toHid hp1.good
  clear hp1 hb1 HPr
  simp only [refP]
  go_wp2_with fail
  go_loopw [7] (fun i wr => ∃ (k : Nat) (v : Value) (l : List Cl), k ≤ ks.length ∧ i = .int .i64 k ∧ PgOk wr (w.heap.size + 1) (w.heap.size + 1) 0 0 v l ∧ GoodL l ∧ Below w.heap.size w wr) (fun i _ => ks.length - (intOf i).toNat)
  case atStart => exact ⟨0, v0, L0, Nat.zero_le _, rfl, HP2.out, HG0.out, HB2.out⟩
  case round =>
    obtain ⟨k, v, l, hk, rfl, hpr, hg, hbr⟩ := hrel
    have HPr := toHid hpr
    have HG := toHid hg
    have HBr := toHid hbr
    clear hpr hg hbr HP2 HB2 HG0
    by_cases hlt : k < ks.length
    · by_cases h50 : k < 50
      · obtain ⟨b, o, rfl, hbl, c0, c1, c2⟩ := (HK.out.on HBr.out).at k hlt
        generalize hak : ks[k] = ak at *
        obtain ⟨kd, key, val⟩ := ak
        simp only at c0 c1 c2
        go_wp2_with fail
        have hS0 : St w (wr.alloc (.cells #[.int .i64 kd, .string (txt key), .string (txt val)] 23)) wr.heap.size (w.heap.size + 1) v l (wr.alloc (.cells #[.int .i64 kd, .string (txt key), .string (txt val)] 23)) := ⟨HBr.out.alloc HBr.out.size _, HPr.out.below ((Below.refl _ _).alloc (Nat.le_refl _) _) (Nat.le_refl _), fun _ _ _ => rfl, Nat.le_refl _⟩
        have hbox := heap_alloc_new wr (.cells #[.int .i64 kd, .string (txt key), .string (txt val)] 23)
        have hsz := size_alloc wr (.cells #[.int .i64 kd, .string (txt key), .string (txt val)] 23)
        have hpz : w.heap.size + 1 < wr.heap.size := lt_of_blk HPr.out.blk
        have hvz : ∀ j, v.ownBlock = some j → j < wr.heap.size := ownsRow_lt HPr.out.own
        have HV := toHid hvz
        clear hvz
        generalize hwq : wr.alloc (.cells #[.int .i64 kd, .string (txt key), .string (txt val)] 23) = wq at hS0 hbox hsz
        have HC : Hid (∀ W v' l', St w wq wr.heap.size (w.heap.size + 1) v' l' W → W.cell? ⟨wr.heap.size, 0, none⟩ = some (.int .i64 kd) ∧ W.cell? ⟨wr.heap.size, 1, none⟩ = some (.string (txt key)) ∧ W.cell? ⟨wr.heap.size, 2, none⟩ = some (.string (txt val))) := fun W v' l' hW => by
          have e := (hW.kp wr.heap.size (Nat.le_refl _) hsz).trans hbox
          exact ⟨cell_of e 0 rfl, cell_of e 1 rfl, cell_of e 2 rfl⟩
        have S0 := toHid hS0
        have HBx := toHid hbox
        have hlen := HG.out.few
        clear hS0 hbox hwq c0 c1 c2 hbl HPr
        refine Calls.mono (short_any kd key val _) ?_
        rintro e w2 ⟨x2, rfl, b2⟩
        have S2 := toHid (S0.out.step b2)
        clear b2 S0
        cases x2
        case false =>
          go_wp2_with fail
          refine Calls.mono (HLv.out _ S2.out.bel) ?_
          rintro e wz ⟨rfl, bz⟩
          have BZ := toHid bz
          clear bz
          go_wp2_with fail
          go_ret
          exact ⟨rfl, BZ.out⟩
        case true =>
        go_wp2_with fail
        refine Calls.mono (pairs_any _ _ 0 0 v l _ S2.out.pg HG.out.few) ?_
        rintro e w3 ⟨aL, cL, Lw, rfl, hpm, hsd, how, b3⟩
        have HPm := toHid hpm
        have HSd := toHid hsd
        have HQ3 := toHid (slQ_of_own how)
        have HNw : Hid (∀ y, aL = some y → wr.heap.size < y.block) := fun y hy => by have h1 := own_new how y hy; have h2 := S2.out.sz; omega
        have S3 := toHid (S2.out.step b3)
        have hLw : Lw.length ≤ 64 := by have h1 := hpm.length_eq; have h2 := prs_le l; omega
        clear b3 S2 hpm hsd how
        obtain ⟨c0, c1, c2⟩ := HC.out _ _ _ S3.out
        go_wp2_with fail
        refine Calls.mono (tplan_any _ _ 0 0 v l kd key val _ S3.out.pg HG.out) ?_
        rintro e w4 ⟨rfl, b4⟩
        have S4 := toHid (S3.out.step b4)
        have HQ4 := toHid (HQ3.out.below b4)
        have HYes : Hid ((planL l kd key val).2 = 1 → Planned l kd key val (planL l kd key val).1) := fun h => plan_ok HG.out h
        have HNo : Hid ((planL l kd key val).2 ≠ 1 → (planL l kd key val).1 = ⟨0, [], [], []⟩) := fun h => plan_no h
        clear b4 S3 HQ3 c0 c1 c2
        generalize planL l kd key val = r at HYes HNo
        obtain ⟨⟨r0, r1, r2, r3⟩, rr⟩ := r
        simp only [actV, actC] at HYes HNo ⊢
        have hB5 := (Below.refl w4.heap.size w4).alloc (Nat.le_refl _) (.cells #[.int .i64 r0, .string (txt r1), .string (txt r2), .string (txt r3)] 46)
        have S5 := toHid (S4.out.step hB5)
        have HQ5 := toHid (HQ4.out.below hB5)
        obtain ⟨d0, d1, d2, d3, f0, f1, f2, f3, hz5⟩ := cell4 (heap_alloc_new w4 (.cells #[.int .i64 r0, .string (txt r1), .string (txt r2), .string (txt r3)] 46))
        clear hB5 S4 HQ4
        generalize hw5 : w4.alloc (.cells #[.int .i64 r0, .string (txt r1), .string (txt r2), .string (txt r3)] 46) = w5 at *
        by_cases hrr : rr = 1
        · subst hrr
          have hPl := HYes.out rfl
          have HGet := toHid hPl.get
          have HRest := toHid hPl.rest
          have hok := hPl.ok
          clear hPl HYes HNo
          go_wp2_with fail
          refine Calls.mono (do_any _ _ 0 0 v l ⟨r0, r1, r2, r3⟩ _ S5.out.pg HG.out) ?_
          rintro e w6 ⟨rfl, v6, hp6, ht6, _⟩
          have S6 := toHid (S5.out.go ht6 hp6 hpz HV.out)
          have HQ6 := toHid (HQ5.out.touch ht6 (fun y hy _ => by
            have h1 := HNw.out y hy
            exact ⟨by omega, fun e => by have := HV.out _ e; omega⟩))
          have HG6 := toHid (do_good HG.out ⟨r0, r1, r2, r3⟩)
          rw [hok]
          clear hp6 ht6 S5 HQ5 d0 d1 d2 d3 f0 f1 f2 f3 hz5 hw5 HV HBx hok
          generalize (doL l ⟨r0, r1, r2, r3⟩).1 = l6 at *
          obtain ⟨c0, c1, c2⟩ := HC.out _ _ _ S6.out
          go_wp2_with fail
          refine Calls.mono (tget_any _ _ 0 0 v6 l6 key _ S6.out.pg HG6.out) ?_
          rintro e w7 ⟨rfl, b7⟩
          rw [HGet.out]
          have S7 := toHid (S6.out.step b7)
          have HQ7 := toHid (HQ6.out.below b7)
          clear b7 S6 HQ6 c0 c1 c2
          have hvv : ((txt val).toList == (txt val).toList) = true := by simp
          obtain ⟨c0, c1, c2⟩ := HC.out _ _ _ S7.out
          have Sd := toHid (S7.out.step (Below.refl _ _).drew)
          have HQd := toHid (HQ7.out.below (Below.refl _ _).drew)
          obtain ⟨e0, e1, e2⟩ := HC.out _ _ _ Sd.out
          have hl6 := HG6.out.few
          by_cases h5 : kd = 5
          · subst h5
            simp only [if_true]
            go_wp2_with fail
            go_region_held3 (fun W => W.cell? ⟨wr.heap.size, 1, none⟩ = some (.string (txt key))) (with_reducible assumption) ((first
              | (go_at_call 27; with_reducible refine Calls.mono (without_any aL cL Lw key _ HQd.out (by omega)) ?_; rintro e w8 ⟨a8, c8, rfl, ho8, b8⟩; have S8 := toHid (Sd.out.step b8); have Q8 := toHid (slQ_of_own ho8); clear ho8 b8; obtain ⟨g0, g1, g2⟩ := HC.out _ _ _ S8.out)
              | (go_at_call 24; refine Calls.mono (pairs_any _ _ 0 0 v6 l6 _ S8.out.pg HG6.out.few) ?_; rintro e w9 ⟨aM, cM, M, rfl, hpm9, hsd9, ho9, b9⟩; have S9 := toHid (S8.out.step b9); replace Q8 := toHid (Q8.out.below b9); have Q9 := toHid (slQ_of_own ho9); have HP9 := toHid hpm9; have HS9 := toHid hsd9; have hM : M.length ≤ 64 := (by have h1 := hpm9.length_eq; have h2 := prs_le l6; omega); clear ho9 b9 hpm9 hsd9; obtain ⟨i0, i1, i2⟩ := HC.out _ _ _ S9.out)
              | (go_at_call 27; with_reducible refine Calls.mono (without_any aM cM M key _ Q9.out (by omega)) ?_; rintro e wa ⟨aa, ca, rfl, hoa, ba⟩; have Sa := toHid (S9.out.step ba); replace Q8 := toHid (Q8.out.below ba); have Qa := toHid (slQ_of_own hoa); clear hoa ba; obtain ⟨j0, j1, j2⟩ := HC.out _ _ _ Sa.out)
              | (go_at_call 26; refine Calls.mono (samepairs_any a8 c8 (wo key Lw) aa ca (wo key M) _ Q8.out Qa.out (by have := List.length_filter_le (fun x : Pq => !(x.1 == key)) Lw; unfold wo; omega) (by have := List.length_filter_le (fun x : Pq => !(x.1 == key)) M; unfold wo; omega)) ?_; rintro e wb ⟨rfl, bb⟩; have Sb := toHid (Sa.out.step bb); clear bb; obtain ⟨k0, k1, k2⟩ := HC.out _ _ _ Sb.out)))
            rw [show decide (wo key Lw = wo key M) = true from decide_eq_true (rest_same HG.out HPm.out HP9.out HSd.out HS9.out HRest.out)]
            go_wp2_with fail
            refine ⟨?_, ?measure⟩
            iterate 40 (try apply Exists.intro)
            iterate 40 (try apply Exists.intro)
            refine ⟨?rel, rfl⟩
            case rel => exact ⟨k + 1, v6, l6, by omega, by simp, Sb.out.pg, HG6.out, Sb.out.bel⟩
            case measure => first | omega | (simp only [intOf]; omega) | (simp [intOf]; omega)
          · simp only [if_neg h5]
            go_wp2_with fail
            go_region_held3 (fun W => W.cell? ⟨wr.heap.size, 1, none⟩ = some (.string (txt key))) (with_reducible assumption) ((first
              | (go_at_call 27; with_reducible refine Calls.mono (without_any aL cL Lw key _ HQd.out (by omega)) ?_; rintro e w8 ⟨a8, c8, rfl, ho8, b8⟩; have S8 := toHid (Sd.out.step b8); have Q8 := toHid (slQ_of_own ho8); clear ho8 b8; obtain ⟨g0, g1, g2⟩ := HC.out _ _ _ S8.out)
              | (go_at_call 24; refine Calls.mono (pairs_any _ _ 0 0 v6 l6 _ S8.out.pg HG6.out.few) ?_; rintro e w9 ⟨aM, cM, M, rfl, hpm9, hsd9, ho9, b9⟩; have S9 := toHid (S8.out.step b9); replace Q8 := toHid (Q8.out.below b9); have Q9 := toHid (slQ_of_own ho9); have HP9 := toHid hpm9; have HS9 := toHid hsd9; have hM : M.length ≤ 64 := (by have h1 := hpm9.length_eq; have h2 := prs_le l6; omega); clear ho9 b9 hpm9 hsd9; obtain ⟨i0, i1, i2⟩ := HC.out _ _ _ S9.out)
              | (go_at_call 27; with_reducible refine Calls.mono (without_any aM cM M key _ Q9.out (by omega)) ?_; rintro e wa ⟨aa, ca, rfl, hoa, ba⟩; have Sa := toHid (S9.out.step ba); replace Q8 := toHid (Q8.out.below ba); have Qa := toHid (slQ_of_own hoa); clear hoa ba; obtain ⟨j0, j1, j2⟩ := HC.out _ _ _ Sa.out)
              | (go_at_call 26; refine Calls.mono (samepairs_any a8 c8 (wo key Lw) aa ca (wo key M) _ Q8.out Qa.out (by have := List.length_filter_le (fun x : Pq => !(x.1 == key)) Lw; unfold wo; omega) (by have := List.length_filter_le (fun x : Pq => !(x.1 == key)) M; unfold wo; omega)) ?_; rintro e wb ⟨rfl, bb⟩; have Sb := toHid (Sa.out.step bb); clear bb; obtain ⟨k0, k1, k2⟩ := HC.out _ _ _ Sb.out)))
            rw [show decide (wo key Lw = wo key M) = true from decide_eq_true (rest_same HG.out HPm.out HP9.out HSd.out HS9.out HRest.out)]
            go_wp2_with fail
            refine ⟨?_, ?measure⟩
            iterate 40 (try apply Exists.intro)
            iterate 40 (try apply Exists.intro)
            refine ⟨?rel, rfl⟩
            case rel => exact ⟨k + 1, v6, l6, by omega, by simp, Sb.out.pg, HG6.out, Sb.out.bel⟩
            case measure => first | omega | (simp only [intOf]; omega) | (simp [intOf]; omega)
        · have hx := HNo.out hrr
          simp only [Ac.mk.injEq] at hx
          obtain ⟨rfl, rfl, rfl, rfl⟩ := hx
          have hne := neq46 0 ⟨#[]⟩ ⟨#[]⟩ ⟨#[]⟩
          subst hw5
          simp only [show txt [] = ⟨#[]⟩ from rfl] at *
          clear HYes HNo d0 d1 d2 d3 f0 f1 f2 f3 hz5
          go_wp2_with fail
          refine ⟨?_, ?measure⟩
          iterate 40 (try apply Exists.intro)
          iterate 40 (try apply Exists.intro)
          refine ⟨?rel, rfl⟩
          case rel => exact ⟨k + 1, v, l, by omega, by simp, S5.out.pg, HG.out, S5.out.bel⟩
          case measure => first | omega | (simp only [intOf]; omega) | (simp [intOf]; omega)
      · go_wp2_with fail
        refine Calls.mono (HLv.out _ HBr.out) ?_
        rintro e wz ⟨rfl, bz⟩
        have BZ := toHid bz
        clear bz
        go_wp2_with fail
        go_ret
        exact ⟨rfl, BZ.out⟩
    · go_wp2_with fail
      refine Calls.mono (HLv.out _ HBr.out) ?_
      rintro e wz ⟨rfl, bz⟩
      have BZ := toHid bz
      clear bz
      go_wp2_with fail
      go_ret
      exact ⟨rfl, BZ.out⟩
end Go.Proofs.YtebchgoaelamcaaDoor
