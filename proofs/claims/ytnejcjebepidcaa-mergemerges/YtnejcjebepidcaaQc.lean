/-
  The walk of the document's Merge.
-/
import Derived.Test.YtnejcjebepidcaaQb
set_option linter.unusedSimpArgs false
set_option linter.unusedVariables false
namespace Go.Proofs.Ytnejcjebepidcaa
open Go.RowKit

/-- Logs that are nil have no room. -/
def NilC (w : World) (a : Option Addr) (logs : List (List Rc)) : Prop := ∀ b o i la n lc, a = some ⟨b, o, none⟩ → i < logs.length → w.cell? ⟨b, o + i, none⟩ = some (.slice la n lc) → la = none → lc = 0

theorem SlR.src {w : World} {a : Option Addr} {l : List Rc} {c : Nat} (hL : SlR w a l) (hnil : a = none → c = 0) : ∃ qs : List (Rc × Pl), qs.map (·.1) = l ∧ (∀ q, q ∈ qs → RI w q.1 q.2) ∧ (∀ y, a = some y → ∀ j u, (qs.flatMap fun q => recL q.1 q.2)[j]? = some u → w.cell? (y.add j) = some u) ∧ (a = none → l.length = 0 ∧ c = 0) ∧ (qs.flatMap fun q => recL q.1 q.2).length = l.length * 12 := by
  by_cases h0 : 0 < l.length
  · obtain ⟨b, o, rfl, _⟩ := hL.there h0
    obtain ⟨qs, h1, h2⟩ := hL.vals
    refine ⟨qs, h1, fun q hq => ?_, fun y hy => ?_, fun e => by simp at e, by rw [flat_len (fun q : Rc × Pl => recL q.1 q.2) 12 (fun _ => rfl), ← h1, List.length_map]⟩
    · obtain ⟨i, hi, rfl⟩ := List.getElem_of_mem hq
      exact (h2 i _ (List.getElem?_eq_getElem hi)).2
    · simp at hy
      subst hy
      exact vals_flat h2
  · have : l = [] := List.eq_nil_of_length_eq_zero (by omega)
    subst this
    exact ⟨[], rfl, by simp, fun y hy j u hj => by simp at hj, fun e => ⟨rfl, hnil e⟩, rfl⟩
theorem ShOk.app {w y : World} {B : Nat} {v' : Value} {all l : List Rc} {qs ps : List (Rc × Pl)} (h1 : qs.map (·.1) = all) (h2 : ps.map (·.1) = l) (ho : y.ownsRow B 46 12 v' (all.length + l.length) ((qs.flatMap fun q => recL q.1 q.2) ++ (ps.flatMap fun q => recL q.1 q.2))) (h3 : ∀ q, q ∈ qs → RI w q.1 q.2) (h4 : ∀ q, q ∈ ps → RI w q.1 q.2) : ShOk w y B v' (all ++ l) :=
  ⟨qs ++ ps, by simp [h1, h2], by rw [List.length_append, List.flatMap_append]; exact ho, fun q hq => by rcases List.mem_append.1 hq with hq | hq; exact h3 q hq; exact h4 q hq⟩
theorem ShOk.get {w W : World} {B c : Nat} {a : Option Addr} {out : List Rc} (h : ShOk w W B (.slice a out.length c) out) (i : Nat) (hi : i < out.length) : ∃ g p, a = some ⟨g, 0, none⟩ ∧ At12 W g (i * 12) out[i] p ∧ RI w out[i] p ∧ g < W.heap.size ∧ B ≤ g := by
  obtain ⟨qs, rfl, h2, h3⟩ := h
  rcases own_addr h2 with ⟨rfl, e, _⟩ | ⟨g, cur, rfl, hB, hg, _⟩
  · omega
  · have hi2 : i < qs.length := by simpa using hi
    refine ⟨g, qs[i].2, rfl, ?_, ?_, (Array.getElem?_eq_some_iff.1 hg).1, hB⟩
    · rw [List.getElem_map]; exact own_at12 h2 (List.getElem?_eq_getElem hi2)
    · rw [List.getElem_map]; exact h3 _ (List.getElem_mem hi2)

/-- A row of n records, its block known. -/
def Sh (w W : World) (B g c n : Nat) (L : List Rc) : Prop := L.length = n ∧ ShOk w W B (.slice (some ⟨g, 0, none⟩) n c) L
theorem Sh.set {w W : World} {B g c n : Nat} {L : List Rc} (h : Sh w W B g c n L) {i : Nat} (hi : i < n) {r : Rc} {p : Pl} (hr : RI w r p) : Sh w (set12 W g (i * 12) r p) B g c n (L.set i r) := by
  obtain ⟨rfl, qs, rfl, h2, h3⟩ := h
  refine ⟨by simp, qs.set i (r, p), by rw [List.map_set], ?_, fun q hq => ?_⟩
  · rw [List.length_set]; exact own_set12 h2 i r p (by simpa using hi)
  · rcases List.mem_or_eq_of_mem_set hq with hq | rfl
    · exact h3 q hq
    · exact hr
theorem Sh.get {w W : World} {B g c n : Nat} {L : List Rc} (h : Sh w W B g c n L) {i : Nat} {r : Rc} (hi : L[i]? = some r) : ∃ p, At12 W g (i * 12) r p ∧ RI w r p := by
  obtain ⟨rfl, h⟩ := h
  obtain ⟨hlt, rfl⟩ := List.getElem?_eq_some_iff.1 hi
  obtain ⟨g', p, e, h1, h2, _⟩ := h.get i hlt
  simp at e
  subst e
  exact ⟨p, h1, h2⟩
theorem set12_other (W : World) (g o : Nat) (r : Rc) (p : Pl) {k : Nat} (h : k ≠ g) : (set12 W g o r p).heap[k]? = W.heap[k]? := by
  have e : ∀ (W : World) (o : Nat) (u : Value), (W.setCell ⟨g, o, none⟩ u).heap[k]? = W.heap[k]? := fun W o u => heap_setCell_other W ⟨g, o, none⟩ k u h
  simp only [set12, e]

theorem take_last {out : List Rc} {m : Nat} (h0 : 0 < m) (hm : m ≤ out.length) : (out.take m).getLast? = out[m - 1]? := by
  rw [List.getLast?_eq_getElem?, List.length_take, Nat.min_eq_left hm, List.getElem?_take, if_pos (by omega)]
theorem twice_of {out all : List Rc} {i : Nat} {x r : Rc} (hp : out.Perm (all.take i)) (hx : x ∈ out) (ht : all.take (i + 1) = all.take i ++ [r]) (he : x.lsn = r.lsn) : ¬ (all.map Rc.lsn).Nodup := by
  intro h
  have h1 : ((all.take (i + 1)).map Rc.lsn).Nodup := h.sublist ((List.take_sublist _ _).map _)
  rw [ht, List.map_append, List.nodup_append] at h1
  exact h1.2.2 x.lsn (List.mem_map.2 ⟨x, hp.mem_iff.1 hx, rfl⟩) r.lsn (by simp) he
theorem row_free {w : World} {B g n cap : Nat} {e : TypeId} {size : Nat} {xs : List Value} (h : w.ownsRow B e size (.slice (some ⟨g, 0, none⟩) n cap) n xs) (k : Nat) : w.frozen? ⟨g, k, none⟩ = false := by
  rcases h.2 with ⟨h1, _⟩ | ⟨g', cap', cur, h1, hB, hh, hc, hm, hs, ht⟩
  · simp at h1
  · simp at h1
    obtain ⟨rfl, rfl⟩ := h1
    simp [World.frozen?, hh]
theorem Sh.free {w W : World} {B g c n : Nat} {L : List Rc} (h : Sh w W B g c n L) (k : Nat) : W.frozen? ⟨g, k, none⟩ = false := by
  obtain ⟨rfl, qs, rfl, h2, h3⟩ := h
  exact row_free h2 k
theorem Sh.lt {w W : World} {B g c n : Nat} {L : List Rc} (h : Sh w W B g c n L) : g < W.heap.size := by
  obtain ⟨rfl, qs, rfl, h2, h3⟩ := h
  exact (h2.lt g rfl).2
structure In (w W : World) (g c ga vc : Nat) (out : List Rc) (r : Rc) (all : List Rc) (m : Nat) : Prop where
  o : Sh w W w.heap.size g c (out.length + 1) (insAt out r m)
  a : ShOk w W w.heap.size (.slice (some ⟨ga, 0, none⟩) all.length vc) all
  low : Below w.heap.size w W
theorem In.below {w W W' : World} {g c ga vc : Nat} {out : List Rc} {r : Rc} {all : List Rc} {m : Nat} (h : In w W g c ga vc out r all m) (hb : Below W.heap.size W W') : In w W' g c ga vc out r all m :=
  ⟨⟨h.o.1, h.o.2.below hb⟩, h.a.below hb, h.low.trans (hb.mono h.low.size)⟩
theorem In.end {w W : World} {g c ga vc : Nat} {out : List Rc} {r : Rc} {all : List Rc} {m : Nat} (h : In w W g c ga vc out r all m) : ShOk w W w.heap.size (.slice (some ⟨g, 0, none⟩) (insAt out r m).length c) (insAt out r m) := by rw [insAt_len]; exact h.o.2
theorem In.swap {w W : World} {g c ga vc : Nat} {out : List Rc} {r x : Rc} {all : List Rc} {m : Nat} {p1 p2 : Pl} (hm : 0 < m) (hl : m ≤ out.length) (h : In w W g c ga vc out r all m) (h1 : RI w x p1) (h2 : RI w r p2) (hx : out[m - 1]? = some x) (hg : w.heap.size ≤ g) (hne : ga ≠ g) :
    In w (set12 (set12 W g (m * 12) x p1) g ((m - 1) * 12) r p2) g c ga vc out r all (m - 1) := by
  obtain ⟨k, rfl⟩ : ∃ k, m = k + 1 := ⟨m - 1, by omega⟩
  simp only [Nat.add_sub_cancel] at *
  obtain ⟨hk, rfl⟩ := List.getElem?_eq_some_iff.1 hx
  refine ⟨?_, ?_, below_set12 (below_set12 h.low hg _ _ _) hg _ _ _⟩
  · have := (h.o.set (i := k + 1) (by omega) h1).set (i := k) (by omega) h2
    rwa [insAt_swap hk] at this
  · obtain ⟨qs, q1, q2, q3⟩ := h.a
    refine ⟨qs, q1, own_stay q2 (fun k' c' hk' hc => ?_), q3⟩
    simp [Value.ownBlock] at hk'
    subst hk'
    rw [set12_other _ _ _ _ _ hne, set12_other _ _ _ _ _ hne]

set_option maxRecDepth 100000 in
set_option maxHeartbeats 20000000 in
theorem merge18 (a : Option Addr) (c : Nat) (logs : List (List Rc)) (w : World) (hL : SlL w a logs) (hN : NilC w a logs) (hn : logs.length ≤ 1000) (hf : logs.flatten.length ≤ 100000) :
    Calls Try.prog 18 #[.slice a logs.length c] w fun e w' => ∃ out a' c' er, e = .returned (.tuple #[.slice a' out.length c', .int .i64 er]) ∧ MSpec logs out er ∧ ShOk w w' w.heap.size (.slice a' out.length c') out ∧ Below w.heap.size w w' := by
  obtain ⟨i0, hi0, hz0, hz1, hz2⟩ := info_parts Try.info46
  have HL := toHid hL
  have HN := toHid hN
  clear hL hN
  go_enter Try.func18, Try.ntmps18
  go_wp2_with fail
  go_loopw [4, 5] (fun s k W => ∃ (i : Nat) (va : Option Addr) (vc : Nat) (all : List Rc), i ≤ logs.length ∧ k = .int .i64 i ∧ s = .slice va all.length vc ∧ all = (logs.take i).flatten ∧ (logs.take i).all risB = true ∧ ShOk w W w.heap.size (.slice va all.length vc) all ∧ Below w.heap.size w W) (fun _ k _ => logs.length - (intOf k).toNat)
  case atStart => exact ⟨0, none, 0, [], Nat.zero_le _, rfl, rfl, by simp, by simp, ShOk.nil _ _ _, Below.refl _ _⟩
  case round =>
    obtain ⟨i, va, vc, all, hi, rfl, rfl, hae, hri, hall, hbw⟩ := hrel
    have HAE := toHid hae
    have HRis := toHid hri
    have HAll := toHid hall
    have HBw := toHid hbw
    have hwz : w.heap.size ≤ wr.heap.size := hbw.size
    clear hae hri hall hbw
    by_cases hlt : i < logs.length
    · obtain ⟨b, o, la, lc, rfl, c0, hs, hlc⟩ := HL.out.get i hlt
      have hnl := HN.out b o i la _ lc rfl hlt c0
      obtain ⟨ps, p1, p2, p3, p4, p5⟩ := hs.src hnl
      have HP1 := toHid p1
      have HP2 := toHid p2
      have HP4 := toHid p4
      have HP5 := toHid p5
      have hbl := World.block_lt_of_cell? _ _ c0
      have c1 : wr.cell? ⟨b, o + i, none⟩ = some (.slice la logs[i].length lc) := (HBw.out.cell (p := ⟨b, o + i, none⟩) hbl).trans c0
      have hi1 : (i : Int) < (logs.length : Int) := by omega
      have hi2 : 0 ≤ (i : Int) := by omega
      have hq3 : logs[i].length ≤ 100000 := Nat.le_trans (len_flat hlt) hf
      have hal : all.length + logs[i].length ≤ 100000 := by
        rw [HAE.out, ← List.length_append, ← take_flat hlt]
        refine Nat.le_trans ?_ hf
        have e : logs.flatten = (logs.take (i + 1)).flatten ++ (logs.drop (i + 1)).flatten := by rw [← List.flatten_append, List.take_append_drop]
        rw [e, List.length_append]; omega
      have HRi := toHid (rises13 la lc logs[i] wr (hs.below HBw.out) (by omega))
      have HP3 := toHid (fun (n : Nat) y (hy : la = some y) j u (hj : (ps.flatMap fun q => recL q.1 q.2)[j]? = some u) => (show (wr.drewN n).cell? (y.add j) = some u from (((HBw.out.trans (below_drewN w.heap.size wr n)).cell (World.block_lt_of_cell? _ _ (p3 y hy j u hj))).trans (p3 y hy j u hj))))
      clear p1 p2 p3 p4 p5 hs c0 hnl
      go_wp2_with fail
      refine Calls.mono HRi.out ?_
      rintro e w1 ⟨rfl, n1, rfl⟩
      have HTk := toHid (show (logs.take (i + 1)).all risB = risB logs[i] by rw [List.take_succ_eq_append_getElem hlt, List.all_append, HRis.out]; simp)
      rcases hb : risB logs[i] with _ | _
      · have HBd := toHid (HBw.out.trans (below_drewN w.heap.size wr n1))
        have HM := toHid (show logs.all risB = false by
          cases e : logs.all risB
          · rfl
          · have := List.all_eq_true.1 e logs[i] (List.getElem_mem hlt); rw [hb] at this; simp at this)
        clear hb
        go_wp2
        go_ret2
        exact ⟨[], none, 0, 1, rfl, .inl ⟨HM.out, rfl, rfl⟩, ShOk.nil _ _ _, HBd.out⟩
      · rw [hb] at HTk
        clear hb
        obtain ⟨qs, hq1, hq2, hq3'⟩ := HAll.out.below (below_drewN wr.heap.size wr n1)
        have HQ1 := toHid hq1
        have HQ2 := toHid hq2
        have HQ3 := toHid hq3'
        have c2 : (wr.drewN n1).cell? ⟨b, o + i, none⟩ = some (.slice la logs[i].length lc) := c1
        clear hq1 hq2 hq3'
        go_wp2_with (at_builtin; go_must (refine wpList_append_src _ rfl _ _ 26 rfl w.heap.size 46 i0 _ 12 152 Try.underlying26 hi0 hz0 hz1 hz2 rfl (by decide) (.slice va all.length vc) all.length _ rfl HQ2.out la logs[i].length lc (ps.flatMap fun q => recL q.1 q.2) rfl HP4.out HP5.out (HP3.out n1) (flat_one _) (by unfold maxLen; omega) (by omega) hwz ?_; intro v5 y1 hown hgrow _; obtain ⟨a5, c5, rfl⟩ := ownsRow_shape hown; have HOW := toHid hown; have HGW := toHid hgrow; clear hown hgrow))
        have HAl := toHid (ShOk.app HQ1.out HP1.out HOW.out HQ3.out HP2.out)
        have HBy := toHid ((HBw.out.trans (below_drewN w.heap.size wr n1)).grown HGW.out hwz (fun k hk => HAll.out.own_ge k hk))
        go_roundw
        case rel => exact ⟨i + 1, a5, c5, all ++ logs[i], by omega, by go_num, by rw [List.length_append], by rw [take_flat hlt, ← HAE.out], HTk.out, by rw [List.length_append]; exact HAl.out, HBy.out⟩
        case measure => simp [intOf]; omega
    · obtain rfl : i = logs.length := by omega
      rw [List.take_length] at HAE HRis
      have hal : all.length ≤ 100000 := by rw [HAE.out]; exact hf
      go_wp2_with fail
      go_loopw [6, 7] (fun s k W => ∃ (i : Nat) (oa : Option Addr) (oc : Nat) (out : List Rc), i ≤ all.length ∧ k = .int .i64 i ∧ s = .slice oa out.length oc ∧ risB out = true ∧ out.Perm (all.take i) ∧ ShOk w W w.heap.size (.slice oa out.length oc) out ∧ ShOk w W w.heap.size (.slice va all.length vc) all ∧ (∀ k, (Value.slice oa out.length oc).ownBlock = some k → (Value.slice va all.length vc).ownBlock ≠ some k) ∧ Below w.heap.size w W) (fun _ k _ => all.length - (intOf k).toNat)
      case atStart => exact ⟨0, none, 0, [], Nat.zero_le _, rfl, rfl, rfl, by simp, ShOk.nil _ _ _, HAll.out, by simp [Value.ownBlock], HBw.out⟩
      case round =>
        clear HAll HBw hwz
        obtain ⟨i, oa, oc, out, hi, rfl, rfl, hro, hpo, hso, hsa, hap, hbw⟩ := hrel
        have HRo := toHid hro
        have HPo := toHid hpo
        have HSo := toHid hso
        have HSa := toHid hsa
        have HAp := toHid hap
        have HBw := toHid hbw
        have hwz : w.heap.size ≤ wr.heap.size := hbw.size
        have hol2 : out.length ≤ 100000 := by rw [hpo.length_eq, List.length_take]; omega
        clear hro hpo hso hsa hap hbw
        by_cases hlt : i < all.length
        · obtain ⟨ga, pa, rfl, h12, hra, hgz, hgb⟩ := HSa.out.get i hlt
          have hi1 : (i : Int) < (all.length : Int) := by omega
          have hi2 : 0 ≤ (i : Int) := by omega
          have HTk := toHid (List.take_succ_eq_append_getElem hlt)
          obtain ⟨r, hre⟩ : ∃ r, all[i] = r := ⟨_, rfl⟩
          rw [hre] at h12 hra HTk
          have HRe := toHid hre
          have HRr := toHid hra
          have HA12 := toHid h12
          obtain ⟨d0, d1, d2, d3, d4, d5, d6, d7, d8, d9, d10, d11⟩ := h12
          obtain ⟨qs, hq1, hq2, hq3⟩ := HSo.out
          have HQ1 := toHid hq1
          have HQ3 := toHid hq3
          have HQo := toHid (World.ownsRow.alloc hq2 (.cells (recC r pa) 46))
          have HNw := toHid (news_rec wr r pa)
          clear hq1 hq2 hq3 hra hre
          go_wp2_with (at_builtin; go_must (refine wpList_append_fresh _ rfl _ _ 26 rfl w.heap.size 46 i0 _ 12 152 Try.underlying26 hi0 hz0 hz1 hz2 rfl (by decide) _ out.length _ rfl HQo.out ⟨wr.heap.size, 0, none⟩ 1 1 (recL r pa) rfl rfl HNw.out (recL_one r pa) (by unfold maxLen; omega) (by omega) (by simp; omega) ?_; intro v5 y1 hown hgrow hfr; obtain ⟨a5, c5, rfl⟩ := ownsRow_shape hown; have HOW := toHid hown; have HGW := toHid hgrow; have HFr := toHid hfr; clear hown hgrow hfr))
          have HAl := toHid (ShOk.add (r := r) (p := pa) ⟨qs, HQ1.out, HOW.out, HQ3.out⟩ HRr.out)
          have HBy := toHid (HBw.out.trans (((Below.refl w.heap.size wr).alloc hwz _).grown HGW.out (by simp; omega) (fun k hk => HSo.out.own_ge k hk)))
          have HKa := toHid (show y1.heap[ga]? = wr.heap[ga]? by rw [HGW.out.block ga (by simp; omega) (fun e => HAp.out ga e.symm rfl), heap_alloc_old _ _ hgz])
          have HSa1 := toHid (show ShOk w y1 w.heap.size (.slice (some ⟨ga, 0, none⟩) all.length vc) all by
            obtain ⟨qs, q1, q2, q3⟩ := HSa.out
            exact ⟨qs, q1, own_stay q2 (fun k' c' hk' hc => by simp [Value.ownBlock] at hk'; subst hk'; exact HKa.out), q3⟩)
          obtain ⟨g5, rfl, hg5b⟩ : ∃ g, a5 = some ⟨g, 0, none⟩ ∧ w.heap.size ≤ g := by
            rcases own_addr HOW.out with ⟨_, e, _⟩ | ⟨g, cur, e, h, _⟩
            · omega
            · exact ⟨g, e, h⟩
          have hne : ga ≠ g5 := fun e => by
            rcases HFr.out g5 rfl with h | h
            · exact HAp.out g5 h (by rw [e]; rfl)
            · simp at h; omega
          have HI0 := toHid (show In w y1 g5 c5 ga vc out r all out.length from ⟨⟨insAt_len _ _ _, by rw [insAt_end]; exact HAl.out⟩, HSa1.out, HBy.out⟩)
          have HNe := toHid hne
          have HG5 := toHid hg5b
          clear hne hg5b HAl HBy HKa HSa1 HOW HGW HFr HQ1 HQ3 HQo HNw HSo HSa HAp HBw HA12
          go_loopw [8] (fun k W => ∃ m : Nat, m ≤ out.length ∧ k = .int .i64 m ∧ In w W g5 c5 ga vc out r all m ∧ ∀ y, (out.drop m).head? = some y → r.lsn < y.lsn) (fun k _ => (intOf k).toNat)
          case atStart => exact ⟨out.length, Nat.le_refl _, rfl, HI0.out, by simp⟩
          case round =>
            clear HI0
            obtain ⟨m, hm, rfl, hin, hd⟩ := hrel
            have HI := toHid hin
            have HD := toHid hd
            clear hin hd
            obtain ⟨g', pr, e, h12, -⟩ := HI.out.a.get i hlt
            simp at e
            subst e
            rw [HRe.out] at h12
            have l1 := h12.2.1
            clear h12
            by_cases h0 : m = 0
            · subst h0
              have g1 : ¬ (0 : Int) < ((0 : Nat) : Int) := by omega
              go_wp2_with fail
              go_quiet (fail)
              obtain ⟨W2, hW2⟩ : ∃ W2, W2 = wr.drewN nq := ⟨_, rfl⟩
              have HBW := toHid (show Below wr.heap.size wr W2 from hW2 ▸ below_drewN _ _ _)
              rw [← hW2]
              clear hW2
              have HI2 := toHid (HI.out.below HBW.out)
              go_wp2_with fail
              go_quiet (fail)
              have HI4 := toHid (HI2.out.below (below_drewN W2.heap.size W2 nq))
              have HRn := toHid (show risB (insAt out r 0) = true from insAt_ris HRo.out (Nat.zero_le _) (fun y hy => by simp at hy) HD.out)
              go_wp2_with fail
              have HFin := toHid (show (insAt out r 0).Perm (all.take (i + 1)) by rw [HTk.out]; exact (insAt_perm out r 0).trans (HPo.out.append_right _))
              go_roundw
              case rel => exact ⟨i + 1, some ⟨g5, 0, none⟩, c5, insAt out r 0, by omega, by go_num, by rw [insAt_len], HRn.out, HFin.out, HI4.out.end, HI4.out.a, fun k hk e => by simp [Value.ownBlock] at hk e; exact HNe.out (e.trans hk.symm), HI4.out.low⟩
              case measure => simp [intOf]; omega
            · obtain ⟨x, hx⟩ : ∃ x, out[m - 1]? = some x := ⟨_, List.getElem?_eq_getElem (by omega)⟩
              have HX := toHid hx
              have HXi := toHid (show (insAt out r m)[m - 1]? = some x by rw [show m = (m - 1) + 1 by omega, Nat.add_sub_cancel, insAt_prev (by omega)]; rw [← hx, List.getElem?_eq_getElem (by omega)])
              obtain ⟨q1, hA1, hR1⟩ := HI.out.o.get (i := m - 1) (r := x) HXi.out
              obtain ⟨q2, hA2, hR2⟩ := HI.out.o.get (i := m) (r := r) (insAt_self hm)
              have HR1 := toHid hR1
              have HR2 := toHid hR2
              have HA1 := toHid hA1
              have HA2 := toHid hA2
              have l2 := hA1.2.1
              clear hA1 hA2 hR1 hR2 hx
              have hmp : 0 < m := by omega
              have g3 : decide (0 < m) = true := by simp; omega
              have i1 : (0 : Int) < (m : Int) := by omega
              have i2 : 0 ≤ (m : Int) - 1 := by omega
              have i3 : (m : Int) - 1 < (out.length : Int) + 1 := by omega
              have i4 : (m : Int) < (out.length : Int) + 1 := by omega
              have i5 : 0 ≤ (m : Int) := by omega
              by_cases hgt : r.lsn < x.lsn
              · have b1 : (r.lsn : Int) < (x.lsn : Int) := by omega
                have b2 : decide ((r.lsn : Int) < (x.lsn : Int)) = true := by simp; omega
                have HGt := toHid hgt
                clear hgt
                go_wp2_with fail
                go_quiet (fail)
                obtain ⟨W2, hW2⟩ : ∃ W2, W2 = wr.drewN nq := ⟨_, rfl⟩
                have HBW := toHid (show Below wr.heap.size wr W2 from hW2 ▸ below_drewN _ _ _)
                rw [← hW2]
                clear hW2
                have HI2 := toHid (HI.out.below HBW.out)
                have HA1' := toHid (HA1.out.stay (w' := W2) (HBW.out.block _ HA1.out.lt))
                have HA2' := toHid (HA2.out.stay (w' := W2) (HBW.out.block _ HA2.out.lt))
                obtain ⟨s0, s1, s2, s3, s4, s5, s6, s7, s8, s9, s10, s11⟩ := HA1'.out
                obtain ⟨t0, t1, t2, t3, t4, t5, t6, t7, t8, t9, t10, t11⟩ := HA2'.out
                have hgl := HI2.out.o.lt
                have f0 := HI2.out.o.free (m * 12)
                have f1 := HI2.out.o.free (m * 12 + 1)
                have f2 := HI2.out.o.free (m * 12 + 2)
                have f3 := HI2.out.o.free (m * 12 + 3)
                have f4 := HI2.out.o.free (m * 12 + 4)
                have f5 := HI2.out.o.free (m * 12 + 5)
                have f6 := HI2.out.o.free (m * 12 + 6)
                have f7 := HI2.out.o.free (m * 12 + 7)
                have f8 := HI2.out.o.free (m * 12 + 8)
                have f9 := HI2.out.o.free (m * 12 + 9)
                have f10 := HI2.out.o.free (m * 12 + 10)
                have f11 := HI2.out.o.free (m * 12 + 11)
                have HD9 := toHid (show ∀ y, (out.drop (m - 1)).head? = some y → r.lsn < y.lsn from fun y hy => by
                  rw [List.head?_drop, HX.out] at hy
                  injection hy with hy
                  subst hy
                  exact HGt.out)
                have hwp : IntKind.i64.wrap ((m : Int) - 1) = (m : Int) - 1 := by simp [IntKind.wrap, IntKind.bits, IntKind.signed]; omega
                have i10 : (1 : Int) ≤ (m : Int) := by omega
                have htn : ((m : Int) - 1).toNat = m - 1 := by omega
                go_wp2_with fail
                refine wp_region_held_drew (S := fun _ => True) (by kernel_rfl) trivial (fun hHeld => ?_)
                refine wpAnyH_take (i := 0) (v := ?_) rfl (by kernel_rfl) (by kernel_rfl) (by kernel_rfl) (fun _ _ _ h => h) (Or.inl ⟨by rfl, ?_⟩) (by assumption) ?_
                rotate_left
                · (intro W hSw; (try dsimp only at hSw); go_simp; (try rw [hwp]); (try rw [if_pos i10]); (try rw [htn]); try with_reducible rfl)
                try simp only [Act.put, List.getElem_toArray, List.getElem_cons_zero, List.getElem_cons_succ, List.setIfInBounds_toArray, List.set_cons_zero, List.set_cons_succ]
                refine wpAnyH_take (i := 1) (v := ?_) rfl (by kernel_rfl) (by kernel_rfl) (by kernel_rfl) (fun _ _ _ h => h) (Or.inl ⟨by rfl, ?_⟩) (by assumption) ?_
                rotate_left
                · (intro W hSw; (try dsimp only at hSw); go_simp; (try rw [hwp]); (try rw [if_pos i10]); (try rw [htn]); try with_reducible rfl)
                try simp only [Act.put, List.getElem_toArray, List.getElem_cons_zero, List.getElem_cons_succ, List.setIfInBounds_toArray, List.set_cons_zero, List.set_cons_succ]
                refine wpAnyH_take (i := 2) (v := ?_) rfl (by kernel_rfl) (by kernel_rfl) (by kernel_rfl) (fun _ _ _ h => h) (Or.inl ⟨by rfl, ?_⟩) (by assumption) ?_
                rotate_left
                · (intro W hSw; (try dsimp only at hSw); go_simp; (try rw [hwp]); (try rw [if_pos i10]); (try rw [htn]); try with_reducible rfl)
                try simp only [Act.put, List.getElem_toArray, List.getElem_cons_zero, List.getElem_cons_succ, List.setIfInBounds_toArray, List.set_cons_zero, List.set_cons_succ]
                refine wpAnyH_take (i := 3) (v := ?_) rfl (by kernel_rfl) (by kernel_rfl) (by kernel_rfl) (fun _ _ _ h => h) (Or.inl ⟨by rfl, ?_⟩) (by assumption) ?_
                rotate_left
                · (intro W hSw; (try dsimp only at hSw); go_simp; (try rw [hwp]); (try rw [if_pos i10]); (try rw [htn]); try with_reducible rfl)
                try simp only [Act.put, List.getElem_toArray, List.getElem_cons_zero, List.getElem_cons_succ, List.setIfInBounds_toArray, List.set_cons_zero, List.set_cons_succ]
                refine wpAnyH_take (i := 4) (v := ?_) rfl (by kernel_rfl) (by kernel_rfl) (by kernel_rfl) (fun _ _ _ h => h) (Or.inl ⟨by rfl, ?_⟩) (by assumption) ?_
                rotate_left
                · (intro W hSw; (try dsimp only at hSw); go_simp; (try rw [hwp]); (try rw [if_pos i10]); (try rw [htn]); try with_reducible rfl)
                try simp only [Act.put, List.getElem_toArray, List.getElem_cons_zero, List.getElem_cons_succ, List.setIfInBounds_toArray, List.set_cons_zero, List.set_cons_succ]
                refine wpAnyH_take (i := 5) (v := ?_) rfl (by kernel_rfl) (by kernel_rfl) (by kernel_rfl) (fun _ _ _ h => h) (Or.inl ⟨by rfl, ?_⟩) (by assumption) ?_
                rotate_left
                · (intro W hSw; (try dsimp only at hSw); go_simp; (try rw [hwp]); (try rw [if_pos i10]); (try rw [htn]); try with_reducible rfl)
                try simp only [Act.put, List.getElem_toArray, List.getElem_cons_zero, List.getElem_cons_succ, List.setIfInBounds_toArray, List.set_cons_zero, List.set_cons_succ]
                refine wpAnyH_take (i := 6) (v := ?_) rfl (by kernel_rfl) (by kernel_rfl) (by kernel_rfl) (fun _ _ _ h => h) (Or.inl ⟨by rfl, ?_⟩) (by assumption) ?_
                rotate_left
                · (intro W hSw; (try dsimp only at hSw); go_simp; (try rw [hwp]); (try rw [if_pos i10]); (try rw [htn]); try with_reducible rfl)
                try simp only [Act.put, List.getElem_toArray, List.getElem_cons_zero, List.getElem_cons_succ, List.setIfInBounds_toArray, List.set_cons_zero, List.set_cons_succ]
                refine wpAnyH_take (i := 7) (v := ?_) rfl (by kernel_rfl) (by kernel_rfl) (by kernel_rfl) (fun _ _ _ h => h) (Or.inl ⟨by rfl, ?_⟩) (by assumption) ?_
                rotate_left
                · (intro W hSw; (try dsimp only at hSw); go_simp; (try rw [hwp]); (try rw [if_pos i10]); (try rw [htn]); try with_reducible rfl)
                try simp only [Act.put, List.getElem_toArray, List.getElem_cons_zero, List.getElem_cons_succ, List.setIfInBounds_toArray, List.set_cons_zero, List.set_cons_succ]
                refine wpAnyH_take (i := 8) (v := ?_) rfl (by kernel_rfl) (by kernel_rfl) (by kernel_rfl) (fun _ _ _ h => h) (Or.inl ⟨by rfl, ?_⟩) (by assumption) ?_
                rotate_left
                · (intro W hSw; (try dsimp only at hSw); go_simp; (try rw [hwp]); (try rw [if_pos i10]); (try rw [htn]); try with_reducible rfl)
                try simp only [Act.put, List.getElem_toArray, List.getElem_cons_zero, List.getElem_cons_succ, List.setIfInBounds_toArray, List.set_cons_zero, List.set_cons_succ]
                refine wpAnyH_take (i := 10) (v := ?_) rfl (by kernel_rfl) (by kernel_rfl) (by kernel_rfl) (fun _ _ _ h => h) (Or.inl ⟨by rfl, ?_⟩) (by assumption) ?_
                rotate_left
                · (intro W hSw; (try dsimp only at hSw); go_simp; (try rw [hwp]); (try rw [if_pos i10]); (try rw [htn]); try with_reducible rfl)
                try simp only [Act.put, List.getElem_toArray, List.getElem_cons_zero, List.getElem_cons_succ, List.setIfInBounds_toArray, List.set_cons_zero, List.set_cons_succ]
                refine wpAnyH_take (i := 11) (v := ?_) rfl (by kernel_rfl) (by kernel_rfl) (by kernel_rfl) (fun _ _ _ h => h) (Or.inl ⟨by rfl, ?_⟩) (by assumption) ?_
                rotate_left
                · (intro W hSw; (try dsimp only at hSw); go_simp; (try rw [hwp]); (try rw [if_pos i10]); (try rw [htn]); try with_reducible rfl)
                try simp only [Act.put, List.getElem_toArray, List.getElem_cons_zero, List.getElem_cons_succ, List.setIfInBounds_toArray, List.set_cons_zero, List.set_cons_succ]
                refine wpAnyH_take (i := 12) (v := ?_) rfl (by kernel_rfl) (by kernel_rfl) (by kernel_rfl) (fun _ _ _ h => h) (Or.inl ⟨by rfl, ?_⟩) (by assumption) ?_
                rotate_left
                · (intro W hSw; (try dsimp only at hSw); go_simp; (try rw [hwp]); (try rw [if_pos i10]); (try rw [htn]); try with_reducible rfl)
                try simp only [Act.put, List.getElem_toArray, List.getElem_cons_zero, List.getElem_cons_succ, List.setIfInBounds_toArray, List.set_cons_zero, List.set_cons_succ]
                refine wpAnyH_ready (rs := [9, 13]) (by kernel_rfl) (by simp) ?_
                refine AllReadyH.cons rfl (fun K hK => ?_) (AllReadyH.cons rfl (fun K hK => ?_) AllReadyH.nil)
                · skip
                  go_simp
                  try go_wp2_with fail
                  refine hK.out _ _ trivial (fun hHeld => ?_)
                  clear hK K
                  try simp only [Act.put, List.getElem_toArray, List.getElem_cons_zero, List.getElem_cons_succ, List.setIfInBounds_toArray, List.set_cons_zero, List.set_cons_succ]
                  refine wpAnyH_ready (rs := [13]) (by kernel_rfl) (by simp) ?_
                  refine AllReadyH.cons rfl (fun K hK => ?_) AllReadyH.nil
                  go_simp
                  try go_wp2_with fail
                  refine hK.out _ _ trivial (fun hHeld => ?_)
                  clear hK K
                  try simp only [Act.put, List.getElem_toArray, List.getElem_cons_zero, List.getElem_cons_succ, List.setIfInBounds_toArray, List.set_cons_zero, List.set_cons_succ]
                  refine wpAnyH_take (i := 14) (v := ?_) rfl (by kernel_rfl) (by kernel_rfl) (by kernel_rfl) (fun _ _ _ h => h) (Or.inl ⟨by rfl, ?_⟩) (by assumption) ?_
                  rotate_left
                  · (intro W hSw; (try dsimp only at hSw); go_simp; (try rw [hwp]); (try rw [if_pos i10]); (try rw [htn]); try with_reducible rfl)
                  try simp only [Act.put, List.getElem_toArray, List.getElem_cons_zero, List.getElem_cons_succ, List.setIfInBounds_toArray, List.set_cons_zero, List.set_cons_succ]
                  refine wpAnyH_ready (rs := [15]) (by kernel_rfl) (by simp) ?_
                  refine AllReadyH.cons rfl (fun K hK => ?_) AllReadyH.nil
                  go_simp
                  try go_wp2_with fail
                  refine hK.out _ _ trivial (fun hHeld => ?_)
                  clear hK K
                  try simp only [Act.put, List.getElem_toArray, List.getElem_cons_zero, List.getElem_cons_succ, List.setIfInBounds_toArray, List.set_cons_zero, List.set_cons_succ]
                  clear s0 s1 s2 s3 s4 s5 s6 s7 s8 s9 s10 s11 t0 t1 t2 t3 t4 t5 t6 t7 t8 t9 t10 t11 f0 f1 f2 f3 f4 f5 f6 f7 f8 f9 f10 f11 hgl
                  obtain ⟨W3, hW3⟩ : ∃ W3, set12 W2 g5 (m * 12) x q1 = W3 := ⟨_, rfl⟩
                  simp only [set12] at hW3
                  rw [hW3]
                  have HW3 := toHid hW3
                  have HS3 := toHid (show Sh w W3 w.heap.size g5 c5 (out.length + 1) ((insAt out r m).set m x) by subst hW3; exact HI2.out.o.set (by omega) HR1.out)
                  clear hW3
                  obtain ⟨q3, hA3, -⟩ := HS3.out.get (i := m - 1) (r := x) (by rw [List.getElem?_set_ne (by omega)]; exact HXi.out)
                  obtain ⟨s0, s1, s2, s3, s4, s5, s6, s7, s8, s9, s10, s11⟩ := hA3
                  have hgl := HS3.out.lt
                  have f0 := HS3.out.free ((m - 1) * 12)
                  have f1 := HS3.out.free ((m - 1) * 12 + 1)
                  have f2 := HS3.out.free ((m - 1) * 12 + 2)
                  have f3 := HS3.out.free ((m - 1) * 12 + 3)
                  have f4 := HS3.out.free ((m - 1) * 12 + 4)
                  have f5 := HS3.out.free ((m - 1) * 12 + 5)
                  have f6 := HS3.out.free ((m - 1) * 12 + 6)
                  have f7 := HS3.out.free ((m - 1) * 12 + 7)
                  have f8 := HS3.out.free ((m - 1) * 12 + 8)
                  have f9 := HS3.out.free ((m - 1) * 12 + 9)
                  have f10 := HS3.out.free ((m - 1) * 12 + 10)
                  have f11 := HS3.out.free ((m - 1) * 12 + 11)
                  refine wpAnyH_take (i := 16) (v := ?_) rfl (by kernel_rfl) (by kernel_rfl) (by kernel_rfl) (fun _ _ _ h => h) (Or.inl ⟨by rfl, ?_⟩) (by assumption) ?_
                  rotate_left
                  · (intro W hSw; (try dsimp only at hSw); go_simp; (try rw [hwp]); (try rw [if_pos i10]); (try rw [htn]); try with_reducible rfl)
                  try simp only [Act.put, List.getElem_toArray, List.getElem_cons_zero, List.getElem_cons_succ, List.setIfInBounds_toArray, List.set_cons_zero, List.set_cons_succ]
                  refine wpAnyH_ready (rs := [17]) (by kernel_rfl) (by simp) ?_
                  refine AllReadyH.cons rfl (fun K hK => ?_) AllReadyH.nil
                  go_simp
                  try go_wp2_with fail
                  refine hK.out _ _ trivial (fun hHeld => ?_)
                  clear hK K
                  try simp only [Act.put, List.getElem_toArray, List.getElem_cons_zero, List.getElem_cons_succ, List.setIfInBounds_toArray, List.set_cons_zero, List.set_cons_succ]
                  refine wpAnyH_done (by kernel_rfl) ?_ _
                  clear hHeld
                  have HI9 := toHid (show In w (set12 W3 g5 ((m - 1) * 12) r q2) g5 c5 ga vc out r all (m - 1) by have h := HW3.out; subst h; exact In.swap hmp hm HI2.out HR1.out HR2.out HX.out HG5.out HNe.out)
                  go_wp2_with fail
                  go_roundw
                  case rel => exact ⟨m - 1, by omega, by first | go_num | (congr 1; omega), HI9.out.below ((Below.refl _ _).drew), HD9.out⟩
                  case measure => simp [intOf]; omega
                · skip
                  go_simp
                  try go_wp2_with fail
                  refine hK.out _ _ trivial (fun hHeld => ?_)
                  clear hK K
                  try simp only [Act.put, List.getElem_toArray, List.getElem_cons_zero, List.getElem_cons_succ, List.setIfInBounds_toArray, List.set_cons_zero, List.set_cons_succ]
                  refine wpAnyH_ready (rs := [9]) (by kernel_rfl) (by simp) ?_
                  refine AllReadyH.cons rfl (fun K hK => ?_) AllReadyH.nil
                  go_simp
                  try go_wp2_with fail
                  refine hK.out _ _ trivial (fun hHeld => ?_)
                  clear hK K
                  try simp only [Act.put, List.getElem_toArray, List.getElem_cons_zero, List.getElem_cons_succ, List.setIfInBounds_toArray, List.set_cons_zero, List.set_cons_succ]
                  refine wpAnyH_take (i := 14) (v := ?_) rfl (by kernel_rfl) (by kernel_rfl) (by kernel_rfl) (fun _ _ _ h => h) (Or.inl ⟨by rfl, ?_⟩) (by assumption) ?_
                  rotate_left
                  · (intro W hSw; (try dsimp only at hSw); go_simp; (try rw [hwp]); (try rw [if_pos i10]); (try rw [htn]); try with_reducible rfl)
                  try simp only [Act.put, List.getElem_toArray, List.getElem_cons_zero, List.getElem_cons_succ, List.setIfInBounds_toArray, List.set_cons_zero, List.set_cons_succ]
                  refine wpAnyH_ready (rs := [15]) (by kernel_rfl) (by simp) ?_
                  refine AllReadyH.cons rfl (fun K hK => ?_) AllReadyH.nil
                  go_simp
                  try go_wp2_with fail
                  refine hK.out _ _ trivial (fun hHeld => ?_)
                  clear hK K
                  try simp only [Act.put, List.getElem_toArray, List.getElem_cons_zero, List.getElem_cons_succ, List.setIfInBounds_toArray, List.set_cons_zero, List.set_cons_succ]
                  clear s0 s1 s2 s3 s4 s5 s6 s7 s8 s9 s10 s11 t0 t1 t2 t3 t4 t5 t6 t7 t8 t9 t10 t11 f0 f1 f2 f3 f4 f5 f6 f7 f8 f9 f10 f11 hgl
                  obtain ⟨W3, hW3⟩ : ∃ W3, set12 W2 g5 (m * 12) x q1 = W3 := ⟨_, rfl⟩
                  simp only [set12] at hW3
                  rw [hW3]
                  have HW3 := toHid hW3
                  have HS3 := toHid (show Sh w W3 w.heap.size g5 c5 (out.length + 1) ((insAt out r m).set m x) by subst hW3; exact HI2.out.o.set (by omega) HR1.out)
                  clear hW3
                  obtain ⟨q3, hA3, -⟩ := HS3.out.get (i := m - 1) (r := x) (by rw [List.getElem?_set_ne (by omega)]; exact HXi.out)
                  obtain ⟨s0, s1, s2, s3, s4, s5, s6, s7, s8, s9, s10, s11⟩ := hA3
                  have hgl := HS3.out.lt
                  have f0 := HS3.out.free ((m - 1) * 12)
                  have f1 := HS3.out.free ((m - 1) * 12 + 1)
                  have f2 := HS3.out.free ((m - 1) * 12 + 2)
                  have f3 := HS3.out.free ((m - 1) * 12 + 3)
                  have f4 := HS3.out.free ((m - 1) * 12 + 4)
                  have f5 := HS3.out.free ((m - 1) * 12 + 5)
                  have f6 := HS3.out.free ((m - 1) * 12 + 6)
                  have f7 := HS3.out.free ((m - 1) * 12 + 7)
                  have f8 := HS3.out.free ((m - 1) * 12 + 8)
                  have f9 := HS3.out.free ((m - 1) * 12 + 9)
                  have f10 := HS3.out.free ((m - 1) * 12 + 10)
                  have f11 := HS3.out.free ((m - 1) * 12 + 11)
                  refine wpAnyH_take (i := 16) (v := ?_) rfl (by kernel_rfl) (by kernel_rfl) (by kernel_rfl) (fun _ _ _ h => h) (Or.inl ⟨by rfl, ?_⟩) (by assumption) ?_
                  rotate_left
                  · (intro W hSw; (try dsimp only at hSw); go_simp; (try rw [hwp]); (try rw [if_pos i10]); (try rw [htn]); try with_reducible rfl)
                  try simp only [Act.put, List.getElem_toArray, List.getElem_cons_zero, List.getElem_cons_succ, List.setIfInBounds_toArray, List.set_cons_zero, List.set_cons_succ]
                  refine wpAnyH_ready (rs := [17]) (by kernel_rfl) (by simp) ?_
                  refine AllReadyH.cons rfl (fun K hK => ?_) AllReadyH.nil
                  go_simp
                  try go_wp2_with fail
                  refine hK.out _ _ trivial (fun hHeld => ?_)
                  clear hK K
                  try simp only [Act.put, List.getElem_toArray, List.getElem_cons_zero, List.getElem_cons_succ, List.setIfInBounds_toArray, List.set_cons_zero, List.set_cons_succ]
                  refine wpAnyH_done (by kernel_rfl) ?_ _
                  clear hHeld
                  have HI9 := toHid (show In w (set12 W3 g5 ((m - 1) * 12) r q2) g5 c5 ga vc out r all (m - 1) by have h := HW3.out; subst h; exact In.swap hmp hm HI2.out HR1.out HR2.out HX.out HG5.out HNe.out)
                  go_wp2_with fail
                  go_roundw
                  case rel => exact ⟨m - 1, by omega, by first | go_num | (congr 1; omega), HI9.out.below ((Below.refl _ _).drew), HD9.out⟩
                  case measure => simp [intOf]; omega
              · by_cases heq : x.lsn = r.lsn
                · have b1 : ¬ (r.lsn : Int) < (x.lsn : Int) := by omega
                  have b2 : decide ((r.lsn : Int) < (x.lsn : Int)) = false := by simp; omega
                  have b3 : ((x.lsn : Int) == (r.lsn : Int)) = true := by simp [heq]
                  have b4 : (x.lsn == r.lsn) = true := by simp [heq]
                  have HTw := toHid (show ¬ (logs.flatten.map Rc.lsn).Nodup from HAE.out ▸ twice_of HPo.out (List.mem_of_getElem? HX.out) HTk.out heq)
                  clear hgt heq
                  go_wp2_with fail
                  go_quiet (fail)
                  obtain ⟨W2, hW2⟩ : ∃ W2, W2 = wr.drewN nq := ⟨_, rfl⟩
                  have HBW := toHid (show Below wr.heap.size wr W2 from hW2 ▸ below_drewN _ _ _)
                  rw [← hW2]
                  clear hW2
                  have HI2 := toHid (HI.out.below HBW.out)
                  have l3 : W2.cell? ⟨ga, i * 12 + 1, none⟩ = some (.int .u64 (r.lsn : Int)) := (HBW.out.cell (World.block_lt_of_cell? _ _ l1)).trans l1
                  have l4 : W2.cell? ⟨g5, (m - 1) * 12 + 1, none⟩ = some (.int .u64 (x.lsn : Int)) := (HBW.out.cell (World.block_lt_of_cell? _ _ l2)).trans l2
                  go_wp2_with fail
                  go_quiet (fail)
                  have HB4 := toHid (HI2.out.low.trans (below_drewN w.heap.size W2 nq))
                  go_wp2
                  go_ret2
                  exact ⟨[], none, 0, 9, rfl, .inr (.inl ⟨HRis.out, HTw.out, rfl, rfl⟩), ShOk.nil _ _ _, HB4.out⟩
                · have b1 : ¬ (r.lsn : Int) < (x.lsn : Int) := by omega
                  have b2 : decide ((r.lsn : Int) < (x.lsn : Int)) = false := by simp; omega
                  have b3 : ((x.lsn : Int) == (r.lsn : Int)) = false := by simp; omega
                  have b4 : (x.lsn == r.lsn) = false := by simp [heq]
                  have HRn := toHid (show risB (insAt out r m) = true from insAt_ris HRo.out hm (fun y hy => by rw [take_last hmp hm, HX.out] at hy; injection hy with hy; subst hy; omega) HD.out)
                  clear hgt heq
                  go_wp2_with fail
                  go_quiet (fail)
                  obtain ⟨W2, hW2⟩ : ∃ W2, W2 = wr.drewN nq := ⟨_, rfl⟩
                  have HBW := toHid (show Below wr.heap.size wr W2 from hW2 ▸ below_drewN _ _ _)
                  rw [← hW2]
                  clear hW2
                  have HI2 := toHid (HI.out.below HBW.out)
                  have l3 : W2.cell? ⟨ga, i * 12 + 1, none⟩ = some (.int .u64 (r.lsn : Int)) := (HBW.out.cell (World.block_lt_of_cell? _ _ l1)).trans l1
                  have l4 : W2.cell? ⟨g5, (m - 1) * 12 + 1, none⟩ = some (.int .u64 (x.lsn : Int)) := (HBW.out.cell (World.block_lt_of_cell? _ _ l2)).trans l2
                  go_wp2_with fail
                  go_quiet (fail)
                  have HI4 := toHid (HI2.out.below (below_drewN W2.heap.size W2 nq))
                  go_wp2_with fail
                  have HFin := toHid (show (insAt out r m).Perm (all.take (i + 1)) by rw [HTk.out]; exact (insAt_perm out r m).trans (HPo.out.append_right _))
                  go_roundw
                  case rel => exact ⟨i + 1, some ⟨g5, 0, none⟩, c5, insAt out r m, by omega, by go_num, by rw [insAt_len], HRn.out, HFin.out, HI4.out.end, HI4.out.a, fun k hk e => by simp [Value.ownBlock] at hk e; exact HNe.out (e.trans hk.symm), HI4.out.low⟩
                  case measure => simp [intOf]; omega
        · obtain rfl : i = all.length := by omega
          have HPf := toHid (show out.Perm logs.flatten by have := HPo.out; rwa [List.take_length, HAE.out] at this)
          go_wp2
          go_ret2
          exact ⟨out, oa, oc, 0, rfl, .inr (.inr ⟨HRis.out, rfl, HPf.out, HRo.out⟩), HSo.out, HBw.out⟩

end Go.Proofs.Ytnejcjebepidcaa
