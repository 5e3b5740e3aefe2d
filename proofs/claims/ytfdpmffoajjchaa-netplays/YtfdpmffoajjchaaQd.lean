/-
  NetPlays: a step that cuts; one that looks, and writes over what it saw.
-/
import Derived.Test.YtfdpmffoajjchaaQc
namespace Go.Proofs.Ytfdpmffoajjchaa
open Go.RowKit Go.Conc

theorem step20_cut (w wr : World) (s n : Nat) (D : Nat × Array Value) (R : Nat → List Nat) (MM : Nat → Ms) (PL : Nat → Pl) (v : Value) (its : List It) (x : Op1) (p : Pl) (hS : Sim w wr s n R MM PL v its) (hD : wr.heap[D.1]? = some (.cells D.2 45)) (hk : x.kind = 2) :
    Calls Try.prog 20 #[netP s n, refN n v, opV x p] wr (Post20 w s n D) := by
  obtain ⟨a, c, rfl⟩ := ownsRow_shape hS.row
  have hle := hS.len_le
  by_cases hp : 1 ≤ x.frm ∧ x.frm ≤ n
  · refine step20_cutG w wr s n D R MM PL _ its x p hS hD hk (its.length - (cutL its x.frm).length) (fun W hW => ?_)
    have hSW := hS.below hW
    refine Calls.mono (refCut_yes n a c its x.frm W (own_rd hSW.row) (by omega) hp) ?_
    rintro e w1 ⟨v', rfl, hrow1, hB1⟩
    obtain ⟨a', c', rfl⟩ := ownsRow_shape hrow1
    refine ⟨a', _, c', rfl, hB1, fun W2 hW2 => ?_⟩
    have hb3 : Below W.heap.size W W2 := hB1.trans (hW2.mono hB1.size)
    have hS2 := hSW.below hb3
    refine Calls.mono (cut_any hS2.net x.frm) ?_
    rintro e w' ⟨rfl, hN, hT⟩
    obtain ⟨t1, t2⟩ := hSW.cut hp hb3 (row_low (own_keep hrow1 (KeepC.below hW2)) hSW.bel.size) hN hT
    exact ⟨by rw [t2], hT, _, _, _, _, t1⟩
  · refine step20_cutG w wr s n D R MM PL _ its x p hS hD hk 0 (fun W hW => ?_)
    have hSW := hS.below hW
    refine Calls.mono (refCut_no n a c its.length x.frm W hp) ?_
    rintro e w1 ⟨rfl, hB1⟩
    refine ⟨a, _, c, rfl, hB1, fun W2 hW2 => ?_⟩
    have hS2 := (hSW.below hB1).below hW2
    have e1 : cutN n R x.frm = 0 := by unfold cutN; rw [if_neg hp]
    have e2 : cutR n R x.frm = R := by unfold cutR; rw [if_neg hp]
    refine Calls.mono (cut_any hS2.net x.frm) ?_
    rintro e w' ⟨rfl, hN, hT⟩
    rw [e2] at hN
    exact ⟨by rw [e1], hT, R, MM, PL, its, hS2.same hN hT⟩

theorem pk_mi {W : World} {l : List It} {f t : Int} (h : ∀ x, x ∈ l → MI W x.m x.p) : ∀ (i : Nat) (m : Ms) (p : Pl), (pkM l f t)[i]? = some m → (pkP l f t)[i]? = some p → MI W m p := by
  intro i m p h1 h2
  unfold pkM at h1
  unfold pkP at h2
  rw [List.getElem?_map] at h1 h2
  cases hx : (l.filter (hit f t))[i]? with
  | none => rw [hx] at h1; simp at h1
  | some x =>
    rw [hx] at h1 h2
    simp at h1 h2
    subst h1
    subst h2
    exact h x (List.mem_filter.1 (List.mem_iff_getElem?.2 ⟨i, hx⟩)).1
theorem Sim.pkLim {w W : World} {s n : Nat} {R : Nat → List Nat} {MM : Nat → Ms} {PL : Nat → Pl} {v : Value} {its : List It} (h : Sim w W s n R MM PL v its) (f t : Int) : ∀ m, m ∈ pkM its f t → Lim m := by
  intro m hm
  unfold pkM at hm
  obtain ⟨x, hx, rfl⟩ := List.mem_map.1 hm
  exact (h.ito x (List.mem_filter.1 hx).1).2
theorem Sim.pkLen {w W : World} {s n : Nat} {R : Nat → List Nat} {MM : Nat → Ms} {PL : Nat → Pl} {v : Value} {its : List It} (h : Sim w W s n R MM PL v its) (f t : Int) : (pkM its f t).length ≤ 256 := by
  rw [← h.lens f t]
  exact lenO_le h.net.len _ _
theorem Sim.peek {w W : World} {s n : Nat} {R : Nat → List Nat} {MM : Nat → Ms} {PL : Nat → Pl} {v : Value} {its : List It} (h : Sim w W s n R MM PL v its) (f t : Int) :
    Calls Try.prog 16 #[netP s n, .int .i64 f, .int .i64 t] W fun e w' => ∃ v' ps, e = .returned v' ∧ AllR w' W.heap.size v' (pkM its f t) ps ∧ NetOk w' s n R ∧ Tn s n W w' := by
  cases hr : rix n f t with
  | none =>
    have hb := between_any W s n R h.net f t
    rw [hr] at hb
    refine Calls.mono (peek_no W _ f t hb) ?_
    rintro e w' ⟨rfl, rfl⟩
    rw [pk_none hr h.val]
    exact ⟨_, [], rfl, AllR.nil _ _, h.net, Tn.refl _ _ _⟩
  | some k =>
    rw [pk_row hr, ← h.corr k (rix_lt hr)]
    exact peek_row h.net f t hr ⟨by simp, fun i b m h1 h2 => by
      rw [List.getElem?_map, h1] at h2
      simp at h2
      subst h2
      obtain ⟨q1, q2, q3⟩ := h.msg k (rix_lt hr) b (List.mem_iff_getElem?.2 ⟨i, h1⟩)
      exact ⟨q3, _, q1, q2.mi⟩⟩

structure Sl20b (s n B : Nat) (a : Option Addr) (ln c i : Nat) (u : Nat → Value) : Prop where
  h0 : u 0 = netP s n
  h4 : u 4 = .pointer (some ⟨B, 0, none⟩)
  h5 : u 5 = .pointer (some ⟨B + 1, 0, none⟩)
  h6 : u 6 = .pointer (some ⟨B + 2, 0, none⟩)
  h21 : u 21 = .slice a ln c
  h22 : u 22 = .bool true
  h23 : u 23 = .int .i64 (i : Nat)

/-- What is known of the row that was looked at. -/
structure Seen (w : World) (n C : Nat) (R : Nat → List Nat) (PL : Nat → Pl) (its : List It) (ms : List Ms) (ps : List Pl) : Prop where
  hC : w.heap.size ≤ C
  len : ms.length = ps.length
  le : ms.length ≤ 256
  lim : ∀ m, m ∈ ms → Lim m
  dis : ∀ (i j : Nat) (p q : Pl), i < j → ps[i]? = some p → ps[j]? = some q → Disj p q
  d1 : ∀ j, j < 2 * n → ∀ b, b ∈ R j → ∀ q, q ∈ ps → Disj (PL b) q
  d2 : ∀ x, x ∈ its → ∀ q, q ∈ ps → Disj x.p q

/-- The row that was looked at, from its place i on. -/
structure Y20 (w : World) (s n : Nat) (D : Nat × Array Value) (B C : Nat) (x : Op1) (p : Pl) (R : Nat → List Nat) (MM : Nat → Ms) (PL : Nat → Pl) (v : Value) (its : List It) (ms : List Ms) (ps : List Pl) (a : Option Addr) (c i : Nat) (W : World) : Prop where
  sim : Sim w W s n R MM PL v its
  box : BoxS D B W #[.int .i64 n, v] (opA x p) zer45
  row : W.ownsRow C 31 9 (.slice a ms.length c) ms.length (allC ms ps)
  own : ∀ (j : Nat) (m : Ms) (q : Pl), i ≤ j → ms[j]? = some m → ps[j]? = some q → Own W C m q
theorem Y20.spo {w W W' : World} {s n : Nat} {D : Nat × Array Value} {B C : Nat} {x : Op1} {p : Pl} {R : Nat → List Nat} {MM : Nat → Ms} {PL : Nat → Pl} {v : Value} {its : List It} {ms : List Ms} {ps : List Pl} {a : Option Addr} {c i : Nat} {m : Ms} {q : Pl}
    (hk : Seen w n C R PL its ms ps) (h : Y20 w s n D B C x p R MM PL v its ms ps a c i W) (h1 : ms[i]? = some m) (h2 : ps[i]? = some q) (hs : Spo q W W') : Y20 w s n D B C x p R MM PL v its ms ps a c (i + 1) W' := by
  have ho := h.own i m q (Nat.le_refl _) h1 h2
  have hq : q ∈ ps := List.mem_iff_getElem?.2 ⟨i, h2⟩
  exact ⟨h.sim.spo ho hk.hC hs (fun j hj b hb => hk.d1 j hj b hb q hq) (fun y hy => hk.d2 y hy q hq), h.box.spo ho hs, own_stay h.row (fun k c _ hc => by rw [hc]; exact hs.other ho hc (by decide) (by decide)), fun j m' q' hj h3 h4 => (h.own j m' q' (by omega) h3 h4).spo ho hs (hk.dis i j q q' (by omega) h2 h4).symm⟩

def I20b (w : World) (s n : Nat) (D : Nat × Array Value) (B C : Nat) (x : Op1) (p : Pl) (R : Nat → List Nat) (MM : Nat → Ms) (PL : Nat → Pl) (v : Value) (its : List It) (ms : List Ms) (ps : List Pl) (a : Option Addr) (c i : Nat) (A : Act) (W : World) : Prop :=
  ∃ u : Nat → Value, A = frameN 149 u ∧ Sl20b s n B a ms.length c i u ∧ Y20 w s n D B C x p R MM PL v its ms ps a c i W

set_option maxRecDepth 100000 in
set_option maxHeartbeats 3000000 in
theorem round20b (w : World) (s n : Nat) (D : Nat × Array Value) (B C : Nat) (x : Op1) (p : Pl) (R : Nat → List Nat) (MM : Nat → Ms) (PL : Nat → Pl) (v : Value) (its : List It) (ms : List Ms) (ps : List Pl) (a : Option Addr) (c i : Nat) (hk : Seen w n C R PL its ms ps) (hi : i < ms.length) (u : Nat → Value) (wr : World) (hu : Sl20b s n B a ms.length c i u) (hY : Y20 w s n D B C x p R MM PL v its ms ps a c i wr) (Q0 : Exit → Act → World → Prop) :
    Code.wp Try.prog loop20b (Exit.then (fun A W => I20b w s n D B C x p R MM PL v its ms ps a c (i + 1) A W) Q0) (frameN 149 u) wr := by
  obtain ⟨h0, h4, h5, h6, h21, h22, h23⟩ := hu
  have hl := hk.len
  have hip : i < ps.length := by omega
  obtain ⟨g, rfl, hcell⟩ : ∃ g, a = some ⟨g, 0, none⟩ ∧ ∀ j u, (msL ms[i] ps[i])[j]? = some u → wr.cell? ⟨g, i * 9 + j, none⟩ = some u := by
    rcases own_addr hY.row with ⟨_, e, _⟩ | ⟨g, cur, rfl, _, hg, _⟩
    · omega
    · refine ⟨g, rfl, fun j u hj => ?_⟩
      have hj9 : j < 9 := (List.getElem?_eq_some_iff.1 hj).1
      have e := allC_get ms ps i _ _ j (List.getElem?_eq_getElem hi) (List.getElem?_eq_getElem hip) hj9
      exact own_cell hY.row (e.trans hj)
  rw [frame_open149, h0, h4, h5, h6, h21, h22, h23]
  clear h0 h4 h5 h6 h21 h22 h23
  have h256 := hk.le
  have HO := toHid (hY.own i _ _ (Nat.le_refl _) (List.getElem?_eq_getElem hi) (List.getElem?_eq_getElem hip))
  have HL := toHid (hk.lim _ (List.getElem_mem hi))
  have HN : Hid (∀ W', Spo ps[i] wr W' → Y20 w s n D B C x p R MM PL v its ms ps (some ⟨g, 0, none⟩) c (i + 1) W') := fun W' hs => hY.spo hk (List.getElem?_eq_getElem hi) (List.getElem?_eq_getElem hip) hs
  have HF : Hid (∀ (A : Act) (W : World), A.tmps.size = 149 → A.defers = [] → Sl20b s n B (some ⟨g, 0, none⟩) ms.length c (i + 1) (fun i => A.tmps.getD i undef) → Y20 w s n D B C x p R MM PL v its ms ps (some ⟨g, 0, none⟩) c (i + 1) W → Exit.then (fun A W => I20b w s n D B C x p R MM PL v its ms ps (some ⟨g, 0, none⟩) c (i + 1) A W) Q0 .normal A W) := by
    intro A W hs hd hS hY
    exact ⟨_, frameN_lit 149 A hs hd, hS, hY⟩
  generalize (Exit.then (fun A W => I20b w s n D B C x p R MM PL v its ms ps (some ⟨g, 0, none⟩) c (i + 1) A W) Q0) = QA at HF ⊢
  have e1 : (i : Int) < (ms.length : Int) := by omega
  have e2 : 0 ≤ (i : Int) := by omega
  obtain ⟨m, hm⟩ : ∃ m, m = ms[i] := ⟨_, rfl⟩
  obtain ⟨q, hq⟩ : ∃ q, q = ps[i] := ⟨_, rfl⟩
  rw [← hm, ← hq] at hcell
  rw [← hq] at HN
  rw [← hm, ← hq] at HO
  rw [← hm] at HL
  clear hm hq hk hY hip hl
  obtain ⟨wa, wc, pa, pc⟩ := q
  obtain ⟨c0, c1, c2, c3, c4, c5, c6, c7, c8⟩ := nine hcell
  clear hcell
  simp only at c6 c7
  conv => arg 2; whnf
  go_wp2_with fail
  go_at_call 31
  refine Calls.mono (spoil31 m ⟨wa, wc, pa, pc⟩ _ wr HO.out HL.out) ?_
  rintro e w8 ⟨rfl, hsp⟩
  have HY := toHid (HN.out _ hsp)
  clear hsp c0 c1 c2 c3 c4 c5 c6 c7 c8
  go_wp2_with fail
  exact HF.out _ _ rfl rfl ⟨rfl, rfl, rfl, rfl, rfl, rfl, by show Value.int .i64 _ = _; simp⟩ HY.out

theorem exit20b (s n B : Nat) (a : Option Addr) (ln c i : Nat) (hj : ¬ i < ln) (u : Nat → Value) (wr : World) (hu : Sl20b s n B a ln c i u) (Q0 : Exit → Act → World → Prop) (R : Act → World → Prop)
    (hexit : ∀ u' : Nat → Value, Sl20b s n B a ln c i u' → Q0 (.exit 3) (frameN 149 u') wr) : Code.wp Try.prog loop20b (Exit.then R Q0) (frameN 149 u) wr := by
  obtain ⟨h0, h4, h5, h6, h21, h22, h23⟩ := hu
  have HX := toHid hexit
  clear hexit
  rw [frame_open149, h0, h4, h5, h6, h21, h22, h23]
  clear h0 h4 h5 h6 h21 h22 h23
  have e1 : ¬ (i : Int) < (ln : Int) := by omega
  conv => arg 2; whnf
  go_wp2_with fail
  rw [frameN_lit 149 ⟨_, _⟩ rfl rfl]
  exact HX.out _ ⟨rfl, rfl, rfl, rfl, rfl, rfl, rfl⟩

theorem loop20b_wp (w : World) (s n : Nat) (D : Nat × Array Value) (B C : Nat) (x : Op1) (p : Pl) (R : Nat → List Nat) (MM : Nat → Ms) (PL : Nat → Pl) (v : Value) (its : List It) (ms : List Ms) (ps : List Pl) (a : Option Addr) (c : Nat) (hk : Seen w n C R PL its ms ps) (u : Nat → Value) (W : World) (hu : Sl20b s n B a ms.length c 0 u) (hY : Y20 w s n D B C x p R MM PL v its ms ps a c 0 W) (Q0 : Exit → Act → World → Prop)
    (hexit : ∀ (u' : Nat → Value) (W' : World), Sl20b s n B a ms.length c ms.length u' → Sim w W' s n R MM PL v its → BoxS D B W' #[.int .i64 n, v] (opA x p) zer45 → Q0 (.exit 3) (frameN 149 u') W') :
    Code.wp Try.prog (Code.loop loop20b) Q0 (frameN 149 u) W := by
  have h256 := hk.le
  refine wp_loop (fun A w' => ∃ j, j ≤ ms.length ∧ I20b w s n D B C x p R MM PL v its ms ps a c j A w') (fun A _ => ms.length - (intOf (A.tmps.getD 23 undef)).toNat) ⟨0, by omega, u, rfl, hu, hY⟩ ?_
  rintro A w' ⟨j, hjl, u', rfl, hu', hY'⟩
  by_cases hj : j < ms.length
  · refine Code.wp_mono ?_ (round20b w s n D B C x p R MM PL v its ms ps a c j hk hj u' w' hu' hY' Q0)
    intro e A w'' h'
    cases e <;> first | exact h' | skip
    refine ⟨⟨j + 1, by omega, h'⟩, ?_⟩
    obtain ⟨u'', rfl, hu'', _⟩ := h'
    show ms.length - (intOf (u'' 23)).toNat < ms.length - (intOf (u' 23)).toNat
    rw [hu''.h23, hu'.h23]
    simp only [intOf]
    omega
  · obtain rfl : j = ms.length := by omega
    exact exit20b s n B a ms.length c _ hj u' w' hu' Q0 _ (fun u'' k => hexit u'' w' k hY'.sim hY'.box)

set_option maxRecDepth 100000 in
set_option maxHeartbeats 3000000 in
theorem step20_peek (w wr : World) (s n : Nat) (D : Nat × Array Value) (R : Nat → List Nat) (MM : Nat → Ms) (PL : Nat → Pl) (v : Value) (its : List It) (x : Op1) (p : Pl) (hS : Sim w wr s n R MM PL v its) (hD : wr.heap[D.1]? = some (.cells D.2 45)) (hk0 : ¬ x.kind = 0) (hk1 : ¬ x.kind = 1) (hk2 : ¬ x.kind = 2) (hk3 : ¬ x.kind = 3) :
    Calls Try.prog 20 #[netP s n, refN n v, opV x p] wr (Post20 w s n D) := by
  obtain ⟨a, c, rfl⟩ := ownsRow_shape hS.row
  have HX := toHid (BoxS.new #[.int .i64 n, .slice a its.length c] (opA x p) zer45 hD)
  have hb3 := below_alloc3 wr (.cells #[.int .i64 n, .slice a its.length c] 45) (.cells (opA x p) 50) (.cells zer45 45)
  have HS := toHid (hS.below hb3)
  have HZ := toHid hS.bel.size
  clear hS hD hb3
  go_enter Try.func20, Try.ntmps20
  refine wp_seq_k fun K0 hK0 => ?_
  have HK0 := toHid hK0
  clear hK0
  go_wp2_with fail
  refine HK0.out _ _ ?_
  clear HK0
  generalize hw0 : ((wr.alloc (.cells #[.int .i64 n, .slice a its.length c] 45)).alloc (.cells (opA x p) 50)).alloc (.cells zer45 45) = w0 at HX HS ⊢
  clear hw0
  generalize hB : wr.heap.size = B at HX HZ ⊢
  clear hB
  obtain ⟨o0, o1, o2, o3, o4, o5, o6, o7, o8, o9, o10, o11, o12⟩ := cell13 HX.out.h1
  go_wp2_with fail
  go_at_call 16
  refine Calls.mono (HS.out.peek x.frm x.tow) ?_
  rintro e w1 ⟨v1, ps, rfl, hA1, hN1, hT1⟩
  obtain ⟨ms, hms⟩ : ∃ ms, ms = pkM its x.frm x.tow := ⟨_, rfl⟩
  rw [← hms] at hA1
  have HMS := toHid hms
  obtain ⟨a1, c1, rfl⟩ := hA1.shape
  have HS1 := toHid (HS.out.same hN1 hT1)
  have HX1 := toHid (HX.out.keep (hT1.keepC HS.out.net))
  have HA1 := toHid hA1
  have HK : Hid (Seen w n w0.heap.size R PL its ms ps) :=
    ⟨HS.out.bel.size, hA1.len, by rw [hms]; exact HS.out.pkLen _ _, by rw [hms]; exact HS.out.pkLim _ _, hA1.dis, fun j hj b hb q hq => by
      obtain ⟨i, hi⟩ := List.mem_iff_getElem?.1 hq
      have hl := hA1.len
      have hip := (List.getElem?_eq_some_iff.1 hi).1
      exact disj_of (own_till (HS.out.msg j hj b hb).2.1) (own_from (hA1.each i _ q (List.getElem?_eq_getElem (by omega)) hi)), fun y hy q hq => by
      obtain ⟨i, hi⟩ := List.mem_iff_getElem?.1 hq
      have hl := hA1.len
      have hip := (List.getElem?_eq_some_iff.1 hi).1
      exact disj_of (own_till (HS.out.ito y hy).1) (own_from (hA1.each i _ q (List.getElem?_eq_getElem (by omega)) hi))⟩
  clear hms hA1 hN1 hT1 HS HX o0 o1 o2 o3 o4 o5 o6 o7 o8 o9 o10 o11 o12
  obtain ⟨o0, o1, o2, o3, o4, o5, o6, o7, o8, o9, o10, o11, o12⟩ := cell13 HX1.out.h1
  obtain ⟨x0, x1, xf⟩ := cell2 HX1.out.h0
  go_wp2_with fail
  go_at_call 34
  refine Calls.mono (refPeek34 n a c its x.frm x.tow w1 (own_rd HS1.out.row) (by have := HS1.out.len_le; omega)) ?_
  rintro e w2 ⟨v2, rfl, hrow2, hB2⟩
  rw [← HMS.out] at hrow2
  obtain ⟨a2, c2, rfl⟩ := ownsRow_shape hrow2
  have HS2 := toHid (HS1.out.below hB2)
  have HX2 := toHid (HX1.out.keep (KeepC.below hB2))
  have HA2 := toHid (HA1.out.keep (KeepC.below hB2))
  have HR2 : Hid (MR w2 (.slice a2 ms.length c2) ms (pkP its x.frm x.tow)) := ⟨by rw [HMS.out]; exact pk_len _ _ _, ⟨a2, c2, rfl, own_rd hrow2⟩, by rw [HMS.out]; exact pk_mi (fun y hy => (HS2.out.ito y hy).1.mi)⟩
  clear hrow2 hB2 HS1 HX1 HA1 o0 o1 o2 o3 o4 o5 o6 o7 o8 o9 o10 o11 o12 x0 x1 xf
  go_wp2_with fail
  go_at_call 24
  refine Calls.mono (sameMR _ _ ms ps (pkP its x.frm x.tow) w2 HA2.out.mr HR2.out HK.out.lim (by have := HK.out.le; omega)) ?_
  rintro e w3 ⟨rfl, hB3⟩
  have HS3 := toHid (HS2.out.below hB3)
  have HX3 := toHid (HX2.out.keep (KeepC.below hB3))
  have HA3 := toHid (HA2.out.keep (KeepC.below hB3))
  clear hB3 HS2 HX2 HA2 HR2
  go_wp2_with fail
  refine wp149 rfl rfl (loop20b_wp w s n D B w0.heap.size x p R MM PL _ its ms ps a1 c1 HK.out _ w3 ⟨rfl, rfl, rfl, rfl, rfl, rfl, rfl⟩ ⟨HS3.out, HX3.out, HA3.out.row, fun j m q _ h1 h2 => HA3.out.each j m q h1 h2⟩ _ ?_)
  intro u' W' hu hS' hX'
  obtain ⟨h0, h4, h5, h6, h21, h22, h23⟩ := hu
  obtain ⟨f1, f2, f3⟩ := fin20 hS' hX' HZ.out (.int .i64 (n : Int)) (.slice a its.length c)
  have HF1 := toHid f1
  have HF2 := toHid f2
  have HF3 := toHid f3
  obtain ⟨x0, x1, xf⟩ := cell2 hX'.h0
  obtain ⟨z0, z1, zf⟩ := cell2 hX'.h2
  clear hS' hX' f1 f2 f3
  rw [frame_open149, h0, h4, h5, h6, h21, h22, h23]
  clear h0 h4 h5 h6 h21 h22 h23
  go_wp2_with fail
  exact bodyPost_ret (results_cell_row2 (P := Try.prog) Try.results20 _ _ (B + 2) 45 _ (0, 0) _ rfl HF1.out Try.underlying45 rfl (by kernel_rfl)) rfl ⟨_, _, _, _, _, rfl, HF2.out, HF3.out⟩

theorem step20 (w wr : World) (s n : Nat) (D : Nat × Array Value) (R : Nat → List Nat) (MM : Nat → Ms) (PL : Nat → Pl) (v : Value) (its : List It) (x : Op1) (p : Pl) (hS : Sim w wr s n R MM PL v its) (hD : wr.heap[D.1]? = some (.cells D.2 45)) (hL : Lim x.m) (hM : ∀ W, Below w.heap.size w W → MI W x.m p) :
    Calls Try.prog 20 #[netP s n, refN n v, opV x p] wr (Post20 w s n D) := by
  by_cases h0 : x.kind = 0
  · exact step20_send w wr s n D R MM PL v its x p hS hD hL hM (.inl h0)
  · by_cases h3 : x.kind = 3
    · exact step20_send w wr s n D R MM PL v its x p hS hD hL hM (.inr h3)
    · by_cases h1 : x.kind = 1
      · exact step20_take w wr s n D R MM PL v its x p hS hD h1
      · by_cases h2 : x.kind = 2
        · exact step20_cut w wr s n D R MM PL v its x p hS hD h2
        · exact step20_peek w wr s n D R MM PL v its x p hS hD h0 h1 h2 h3

end Go.Proofs.Ytfdpmffoajjchaa
