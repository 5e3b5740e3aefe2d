/-
  NetPlays: the document's items; its Peek.
-/
import Derived.Test.YtfdpmffoajjchaaLa
import Derived.Test.YtfdpmffoajjchaaRo
namespace Go.Proofs.Ytfdpmffoajjchaa
open Go.RowKit Go.Conc

/-- An item as it lies. -/
structure It where
  frm : Int
  tow : Int
  m : Ms
  p : Pl

def itL (x : It) : List Value := [.int .i64 x.frm, .int .i64 x.tow] ++ msL x.m x.p
theorem itL_length (x : It) : (itL x).length = 11 := rfl
def itsC (l : List It) : List Value := l.flatMap itL
theorem itsC_length (l : List It) : (itsC l).length = l.length * 11 := flat_len itL 11 itL_length l
theorem itsC_append (l k : List It) : itsC (l ++ k) = itsC l ++ itsC k := by simp [itsC]
theorem itsC_one (x : It) : itsC [x] = itL x := by simp [itsC]

theorem item_at {W : World} {a : Option Addr} {l : List It} (h : Rd W a (itsC l)) (i : Nat) (hi : i < l.length) :
    ∃ b o, a = some ⟨b, o, none⟩ ∧ b < W.heap.size ∧ W.cell? ⟨b, o + i * 11, none⟩ = some (.int .i64 l[i].frm) ∧ W.cell? ⟨b, o + i * 11 + 1, none⟩ = some (.int .i64 l[i].tow) ∧ ∀ j u, (msL l[i].m l[i].p)[j]? = some u → W.cell? ⟨b, o + i * 11 + 2 + j, none⟩ = some u := by
  obtain ⟨b, o, rfl, hb⟩ := h.there (by rw [itsC_length]; omega)
  have e := fun k hk => flat_get itL 11 itL_length l i k hk
  simp only [List.getElem?_eq_getElem hi, Option.bind_some] at e
  have h0 := (h.cells _ rfl _ _ (e 0 (by omega))).2
  have h1 := (h.cells _ rfl _ _ (e 1 (by omega))).2
  refine ⟨b, o, rfl, hb, by simpa using h0, by simpa [Nat.add_assoc] using h1, fun j u hj => ?_⟩
  have hj9 : j < 9 := (List.getElem?_eq_some_iff.1 hj).1
  have h2 : (itL l[i])[2 + j]? = some u := by
    show ([Value.int .i64 l[i].frm, .int .i64 l[i].tow] ++ msL l[i].m l[i].p)[2 + j]? = some u
    rw [List.getElem?_append_right (by simp)]
    simpa using hj
  have h3 := (h.cells _ rfl _ _ ((e (2 + j) (by omega)).trans h2)).2
  simpa [Nat.add_assoc] using h3

/-- A row of messages that can be read. -/
structure MR (W : World) (v : Value) (ms : List Ms) (ps : List Pl) : Prop where
  len : ms.length = ps.length
  row : ∃ a c, v = .slice a ms.length c ∧ Rd W a (allC ms ps)
  each : ∀ (i : Nat) (m : Ms) (p : Pl), ms[i]? = some m → ps[i]? = some p → MI W m p
theorem MR.keep {W W' : World} {v : Value} {ms : List Ms} {ps : List Pl} (h : MR W v ms ps) (hk : KeepC W W') : MR W' v ms ps :=
  ⟨h.len, let ⟨a, c, e, r⟩ := h.row; ⟨a, c, e, r.keep hk⟩, fun i m p h1 h2 => (h.each i m p h1 h2).keep hk⟩
theorem AllR.mr {W : World} {B : Nat} {v : Value} {ms : List Ms} {ps : List Pl} (h : AllR W B v ms ps) : MR W v ms ps := by
  obtain ⟨a, c, rfl⟩ := h.shape
  exact ⟨h.len, ⟨a, c, rfl, own_rd h.row⟩, fun i m p h1 h2 => (h.each i m p h1 h2).mi⟩
theorem MR.at {W : World} {a : Option Addr} {c : Nat} {ms : List Ms} {ps : List Pl} (hl : ms.length = ps.length) (hr : Rd W a (allC ms ps)) (he : ∀ (i : Nat) (m : Ms) (p : Pl), ms[i]? = some m → ps[i]? = some p → MI W m p) (i : Nat) (hi : i < ms.length) (_c : c = c) :
    ∃ b o p, a = some ⟨b, o, none⟩ ∧ b < W.heap.size ∧ MI W ms[i] p ∧ ∀ j u, (msL ms[i] p)[j]? = some u → W.cell? ⟨b, o + i * 9 + j, none⟩ = some u := by
  have hip : i < ps.length := by omega
  have e := fun j hj => allC_get ms ps i _ _ j (List.getElem?_eq_getElem hi) (List.getElem?_eq_getElem hip) hj
  have h0 : (allC ms ps)[i * 9 + 0]? = some (.int .i64 ms[i].kind) := e 0 (by omega)
  obtain ⟨b, o, rfl, hb⟩ := hr.there (by have := (List.getElem?_eq_some_iff.1 h0).1; omega)
  refine ⟨b, o, ps[i], rfl, hb, he i _ _ (List.getElem?_eq_getElem hi) (List.getElem?_eq_getElem hip), fun j u hj => ?_⟩
  have hj9 : j < 9 := (List.getElem?_eq_some_iff.1 hj).1
  have := (hr.cells _ rfl _ _ ((e j hj9).trans hj)).2
  simpa [Nat.add_assoc] using this

set_option maxRecDepth 100000 in
set_option maxHeartbeats 2000000 in
theorem sameMR (v v' : Value) (ms : List Ms) (ps qs : List Pl) (w : World) (h : MR w v ms ps) (h' : MR w v' ms qs) (hL : ∀ m, m ∈ ms → Lim m) (hl : ms.length ≤ 1000) :
    Calls Try.prog 24 #[v, v'] w fun e w' => e = .returned (.bool true) ∧ Below w.heap.size w w' := by
  obtain ⟨hlen, ⟨a, c, rfl, hrd⟩, heach⟩ := h
  obtain ⟨hlen', ⟨a', c', rfl, hrd'⟩, heach'⟩ := h'
  have H := toHid (And.intro hlen (And.intro hrd heach))
  have H' := toHid (And.intro hlen' (And.intro hrd' heach'))
  have HL := toHid hL
  clear hlen hrd heach hlen' hrd' heach' hL
  go_enter Try.func24, Try.ntmps24
  go_wp2_with fail
  go_loopw [5] (fun i W => ∃ k : Nat, k ≤ ms.length ∧ i = .int .i64 k ∧ Below w.heap.size w W) (fun i _ => ms.length - (intOf i).toNat)
  case atStart => exact ⟨0, Nat.zero_le _, rfl, Below.refl _ _⟩
  case round =>
    obtain ⟨k, hk, rfl, hB⟩ := hrel
    have HB := toHid hB
    by_cases hlt : k < ms.length
    · obtain ⟨g, o, p, hg, hgl, hO, hc⟩ := MR.at (c := 0) H.out.1 (H.out.2.1.below hB) (fun i m p h1 h2 => (H.out.2.2 i m p h1 h2).below hB) k hlt rfl
      obtain ⟨g', o', p', hg', hgl', hO', hc'⟩ := MR.at (c := 0) H'.out.1 (H'.out.2.1.below hB) (fun i m p h1 h2 => (H'.out.2.2 i m p h1 h2).below hB) k hlt rfl
      subst hg
      subst hg'
      obtain ⟨m, hm⟩ : ∃ m, m = ms[k] := ⟨_, rfl⟩
      rw [← hm] at hO hO' hc hc'
      have HLm : Hid (Lim m) := HL.out m (by rw [hm]; exact List.getElem_mem hlt)
      obtain ⟨c0, c1, c2, c3, c4, c5, c6, c7, c8⟩ := nine hc
      obtain ⟨d0, d1, d2, d3, d4, d5, d6, d7, d8⟩ := nine hc'
      have HO := toHid hO
      have HO' := toHid hO'
      have e1 : (k : Int) < (ms.length : Int) := by omega
      have e2 : 0 ≤ (k : Int) := by omega
      clear hm hO hO' hc hc' hB
      obtain ⟨wa, wc, pa, pc⟩ := p
      obtain ⟨wa', wc', pa', pc'⟩ := p'
      simp only at c6 c7 d6 d7
      go_wp2_with fail
      refine wp_region_quiet_tail 8 Try.mixed (by kernel_rfl) ?_
      simp only [List.take_succ_cons, List.take_zero, List.drop_succ_cons, List.drop_zero]
      repeat (go_big_quiet_step (fail))
      refine wpQuiet_nil ?_
      go_wp2_with fail
      go_at_call 11
      refine Calls.mono (same11 m ⟨wa, wc, pa, pc⟩ ⟨wa', wc', pa', pc'⟩ _ (HO.out.below ((Below.refl _ _).drew)) (HO'.out.below ((Below.refl _ _).drew)) HLm.out) ?_
      rintro e w3 ⟨rfl, hB3⟩
      have HB3 := toHid (HB.out.drew.trans (hB3.mono HB.out.drew.size))
      clear hB3 c0 c1 c2 c3 c4 c5 c6 c7 c8 d0 d1 d2 d3 d4 d5 d6 d7 d8
      go_wp2_with fail
      go_roundw
      case rel => exact ⟨k + 1, by omega, by go_num, HB3.out⟩
      case measure => simp [intOf]; omega
    · have e1 : ¬ (k : Int) < (ms.length : Int) := by omega
      clear hB
      go_wp2_with fail
      go_ret
      exact ⟨rfl, HB.out⟩

/-- What stands in a row of the document's net. -/
def hit (f t : Int) (x : It) : Bool := decide (x.frm = f ∧ x.tow = t)
def pkM (l : List It) (f t : Int) : List Ms := (l.filter (hit f t)).map It.m
def pkP (l : List It) (f t : Int) : List Pl := (l.filter (hit f t)).map It.p
theorem pk_len (l : List It) (f t : Int) : (pkM l f t).length = (pkP l f t).length := by simp [pkM, pkP]
theorem pkM_le (l : List It) (f t : Int) : (pkM l f t).length ≤ l.length := by simp [pkM]; exact List.length_filter_le _ _
theorem pk_yes {l : List It} {f t : Int} {i : Nat} (hi : i < l.length) (h : l[i].frm = f ∧ l[i].tow = t) : pkM (l.take (i + 1)) f t = pkM (l.take i) f t ++ [l[i].m] ∧ pkP (l.take (i + 1)) f t = pkP (l.take i) f t ++ [l[i].p] := by
  have e : hit f t l[i] = true := by simp [hit, h]
  rw [List.take_succ_eq_append_getElem hi]
  simp only [pkM, pkP, List.filter_append, List.filter_cons, List.filter_nil, e, if_true, List.map_append, List.map_cons, List.map_nil]
  exact ⟨trivial, trivial⟩
theorem pk_no {l : List It} {f t : Int} {i : Nat} (hi : i < l.length) (h : ¬ (l[i].frm = f ∧ l[i].tow = t)) : pkM (l.take (i + 1)) f t = pkM (l.take i) f t ∧ pkP (l.take (i + 1)) f t = pkP (l.take i) f t := by
  have e : hit f t l[i] = false := by simp only [hit]; exact decide_eq_false h
  rw [List.take_succ_eq_append_getElem hi]
  simp only [pkM, pkP, List.filter_append, List.filter_cons, List.filter_nil, e, List.map_append]
  exact ⟨by simp, by simp⟩

theorem own_block {W : World} {B e size n : Nat} {v : Value} {xs : List Value} (h : W.ownsRow B e size v n xs) : ∀ k, v.ownBlock = some k → B ≤ k ∧ ∃ c, W.heap[k]? = some (.cells c e) := by
  intro k hk
  rcases h.2 with ⟨rfl, _⟩ | ⟨g, cap, cur, rfl, hb, hg, _⟩
  · simp [Value.ownBlock] at hk
  · simp [Value.ownBlock] at hk
    subst hk
    exact ⟨hb, cur, hg⟩

theorem news9 (W : World) (m : Ms) (p : Pl) : ∀ j u, (msL m p)[j]? = some u → (W.alloc (.cells (msC m p) 31)).cell? ((⟨W.heap.size, 0, none⟩ : Addr).add j) = some u := by
  intro j u hj
  rw [add_plain]
  simp only [World.cell?, heap_alloc_new, Nat.zero_add]
  have : (msC m p)[j]? = some u := by rw [← Array.getElem?_toList]; exact hj
  simpa using this
theorem msL_one (m : Ms) (p : Pl) : ∀ u ∈ msL m p, u.oneCell' = true := by
  intro u hu
  simp only [msL, List.mem_cons, List.not_mem_nil, or_false] at hu
  rcases hu with rfl | rfl | rfl | rfl | rfl | rfl | rfl | rfl | rfl <;> rfl

set_option maxRecDepth 100000 in
set_option maxHeartbeats 2000000 in
theorem refPeek34 (n : Int) (a : Option Addr) (c : Nat) (l : List It) (f t : Int) (w : World) (h : Rd w a (itsC l)) (hl : l.length ≤ 100000) :
    Calls Try.prog 34 #[refN n (.slice a l.length c), .int .i64 f, .int .i64 t] w fun e w' => ∃ v, e = .returned v ∧ w'.ownsRow w.heap.size 31 9 v (pkM l f t).length (allC (pkM l f t) (pkP l f t)) ∧ Below w.heap.size w w' := by
  obtain ⟨i0, hi0, hz0, hz1, hz2⟩ := info_parts info31
  have HR := toHid h
  have hb0 : Below w.heap.size w (w.alloc (.cells #[.int .i64 n, .slice a l.length c] 45)) := (Below.refl _ _).alloc (Nat.le_refl _) _
  have HB0 := toHid hb0
  have HS0 : Hid ((w.alloc (.cells #[.int .i64 n, .slice a l.length c] 45)).heap[w.heap.size]? = some (.cells #[.int .i64 n, .slice a l.length c] 45)) := heap_alloc_new _ _
  clear h hb0
  go_enter Try.func34, Try.ntmps34
  go_wp2_with fail
  go_loopw [7, 8] (fun q k W => ∃ (i : Nat) (v : Value), i ≤ l.length ∧ k = .int .i64 i ∧ q = v ∧ W.ownsRow w.heap.size 31 9 v (pkM (l.take i) f t).length (allC (pkM (l.take i) f t) (pkP (l.take i) f t)) ∧ Below w.heap.size w W ∧ W.heap[w.heap.size]? = some (.cells #[.int .i64 n, .slice a l.length c] 45)) (fun _ k _ => l.length - (intOf k).toNat)
  case atStart => exact ⟨0, _, Nat.zero_le _, rfl, rfl, World.ownsRow_nil _ _ _ _, HB0.out, HS0.out⟩
  case round =>
    obtain ⟨i, vv, hi, rfl, hvq, hv, hB, hS⟩ := hrel
    obtain rfl := hvq.symm
    have HV := toHid hv
    have HB := toHid hB
    have HS := toHid hS
    have c0 : wr.cell? ⟨w.heap.size, 0, none⟩ = some (.int .i64 n) := by simp [World.cell?, hS]
    have c1 : wr.cell? ⟨w.heap.size, 1, none⟩ = some (.slice a l.length c) := by simp [World.cell?, hS]
    clear hv hB hS
    by_cases hlt : i < l.length
    · obtain ⟨b, o, rfl, hb, d0, d1, hm⟩ := item_at (HR.out.below HB.out) i hlt
      have e1 : (i : Int) < (l.length : Int) := by omega
      have e2 : 0 ≤ (i : Int) := by omega
      by_cases hh : l[i].frm = f ∧ l[i].tow = t
      · obtain ⟨p1, p2⟩ := pk_yes hlt hh
        have HP := toHid (And.intro p1 p2)
        have z1 : (l[i].frm == f) = true := by simp [hh.1]
        have z2 : (l[i].tow == t) = true := by simp [hh.2]
        obtain ⟨m, hmm⟩ : ∃ m, m = l[i].m := ⟨_, rfl⟩
        obtain ⟨p, hpp⟩ : ∃ p, p = l[i].p := ⟨_, rfl⟩
        rw [← hmm, ← hpp] at hm HP
        obtain ⟨q0, q1, q2, q3, q4, q5, q6, q7, q8⟩ := nine hm
        obtain ⟨fr, hfr⟩ : ∃ x, x = l[i].frm := ⟨_, rfl⟩
        obtain ⟨tw, htw⟩ : ∃ x, x = l[i].tow := ⟨_, rfl⟩
        rw [← hfr] at d0 z1
        rw [← htw] at d1 z2
        clear hh p1 p2 hm hmm hpp hfr htw
        obtain ⟨ma, hma⟩ : ∃ x, x = pkM (l.take i) f t := ⟨_, rfl⟩
        obtain ⟨pa, hpa⟩ : ∃ x, x = pkP (l.take i) f t := ⟨_, rfl⟩
        have HLN : Hid (ma.length ≤ i) := by show _ ≤ _; rw [hma]; have := pkM_le (l.take i) f t; rw [List.length_take] at this; omega
        have HLE : Hid (ma.length = pa.length) := by show _ = _; rw [hma, hpa]; exact pk_len _ _ _
        rw [← hma, ← hpa] at HV HP
        clear hma hpa
        obtain ⟨wa, wc, qa, qc⟩ := p
        simp only at q6 q7
        go_wp2_with (at_builtin; go_must (refine wpList_append_fresh _ rfl (.tmp 34) (.tmp 41) 39 rfl w.heap.size 31 i0 _ 9 112 Try.underlying39 hi0 hz0 hz1 hz2 rfl (by decide) vv ma.length (allC ma pa) rfl (own_keep HV.out (KeepC.below ((Below.refl _ _).alloc (Nat.le_refl _) _))) ⟨wr.heap.size, 0, none⟩ 1 1 (msL m ⟨wa, wc, qa, qc⟩) rfl rfl (news9 _ _ _) (msL_one _ _) (by have := HLN.out; unfold maxLen; omega) (by have := HLN.out; omega) (by have := HB.out.size; simp; omega) ?_))
        intro v' y hown hgrow hfr
        have HO := toHid hown
        have hbz := HB.out.size
        have hlo : ∀ k, vv.ownBlock = some k → w.heap.size ≤ k ∧ ∃ c, wr.heap[k]? = some (.cells c 31) := own_block HV.out
        have HB' := toHid (((HB.out.alloc hbz (.cells (msC m ⟨wa, wc, qa, qc⟩) 31))).grown hgrow (by simp; omega) (fun k hk => (hlo k hk).1))
        have hne : vv.ownBlock ≠ some w.heap.size := fun e => by
          obtain ⟨_, c', hc'⟩ := hlo _ e
          rw [HS.out] at hc'
          simp at hc'
        have HS' := toHid (((hgrow.block w.heap.size (by simp; have := (Array.getElem?_eq_some_iff.1 HS.out).1; omega) (fun e => hne e.symm))).trans ((Below.heap_alloc _ _ _ (Array.getElem?_eq_some_iff.1 HS.out).1).trans HS.out))
        clear hown hgrow hfr hlo hne q0 q1 q2 q3 q4 q5 q6 q7 q8 d0 d1
        go_wp2_with fail
        go_roundw
        case rel => exact ⟨i + 1, _, by omega, by go_num, rfl, by rw [HP.out.1, HP.out.2, allC_append _ _ _ _ HLE.out, List.length_append]; exact HO.out, HB'.out, HS'.out⟩
        case measure => simp [intOf]; omega
      · obtain ⟨p1, p2⟩ := pk_no hlt hh
        have HP := toHid (And.intro p1 p2)
        by_cases hf : l[i].frm = f
        · have z1 : (l[i].frm == f) = true := by simp [hf]
          have z2 : (l[i].tow == t) = false := by simp; exact fun e => hh ⟨hf, e⟩
          clear hh p1 p2 hm hf
          go_wp2_with fail
          go_roundw
          case rel => exact ⟨i + 1, _, by omega, by go_num, rfl, by rw [HP.out.1, HP.out.2]; exact HV.out, HB.out, HS.out⟩
          case measure => simp [intOf]; omega
        · have z1 : (l[i].frm == f) = false := by simp [hf]
          clear hh p1 p2 hm hf
          go_wp2_with fail
          go_roundw
          case rel => exact ⟨i + 1, _, by omega, by go_num, rfl, by rw [HP.out.1, HP.out.2]; exact HV.out, HB.out, HS.out⟩
          case measure => simp [intOf]; omega
    · have e1 : ¬ (i : Int) < (l.length : Int) := by omega
      have HE : Hid (l.take i = l) := List.take_of_length_le (by omega)
      go_wp2_with fail
      go_ret
      exact ⟨_, rfl, by have := HV.out; rw [HE.out] at this; exact this, HB.out⟩

end Go.Proofs.Ytfdpmffoajjchaa
