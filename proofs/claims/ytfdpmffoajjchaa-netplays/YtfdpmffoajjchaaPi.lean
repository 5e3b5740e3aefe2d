/-
  NetPlays: a step that sends: the end of a round of its loop.
-/
import Derived.Test.YtfdpmffoajjchaaPh
namespace Go.Proofs.Ytfdpmffoajjchaa
open Go.RowKit Go.Conc

structure Sl20 (s n B : Nat) (lim : Int) (i : Nat) (u : Nat → Value) : Prop where
  h0 : u 0 = netP s n
  h4 : u 4 = .pointer (some ⟨B, 0, none⟩)
  h5 : u 5 = .pointer (some ⟨B + 1, 0, none⟩)
  h6 : u 6 = .pointer (some ⟨B + 2, 0, none⟩)
  h8 : u 8 = .int .i64 lim
  h9 : u 9 = .int .i64 (i : Nat)

noncomputable def loop20a : Code := (((Try.f20.body.map loopsOf).getD [])[0]?).getD .skip
noncomputable def loop20b : Code := (((Try.f20.body.map loopsOf).getD [])[1]?).getD .skip
noncomputable def reg20 : Code := tailOf 2 loop20a
noncomputable def rest20 : Code := tailOf 3 (blkOf (headOf (tailOf 1 loop20a)))

def I20 (w : World) (s n : Nat) (D : Nat × Array Value) (B : Nat) (lim : Int) (x : Op1) (p : Pl) (Z : Array Value) (i : Nat) (A : Act) (W : World) : Prop :=
  ∃ (u : Nat → Value) (R : Nat → List Nat) (MM : Nat → Ms) (PL : Nat → Pl) (v : Value) (its : List It), A = frameN 149 u ∧ Sl20 s n B lim i u ∧ Sim w W s n R MM PL v its ∧ BoxS D B W #[.int .i64 n, v] (opA x p) Z

theorem below_set2 {wr W : World} {B t : Nat} {z0 z1 v0 v1 : Value} (hb : Below wr.heap.size wr W) (h : wr.heap[B]? = some (.cells #[z0, z1] t)) :
    Below ((wr.setCell ⟨B, 0, none⟩ v0).setCell ⟨B, 1, none⟩ v1).heap.size ((wr.setCell ⟨B, 0, none⟩ v0).setCell ⟨B, 1, none⟩ v1) ((W.setCell ⟨B, 0, none⟩ v0).setCell ⟨B, 1, none⟩ v1) := by
  have hB : B < wr.heap.size := (Array.getElem?_eq_some_iff.1 h).1
  refine ⟨hb.os, hb.tape, hb.output, by simpa [World.setCell] using hb.size, fun k hk => ?_⟩
  have hk' : k < wr.heap.size := by simpa [World.setCell] using hk
  by_cases e : k = B
  · subst e
    rw [put2_same v0 v1 h, put2_same v0 v1 ((hb.block k hB).trans h)]
  · rw [heap_setCell_other _ _ _ _ e, heap_setCell_other _ _ _ _ e, heap_setCell_other _ _ _ _ e, heap_setCell_other _ _ _ _ e]
    exact hb.block k hk'

theorem keep_box {W W' : World} {B : Nat} {A : Array Value} (h : W.heap[B]? = some (.cells A 45)) (hk : ∀ k, k ≠ B → W'.heap[k]? = W.heap[k]?) {k t : Nat} {c : Array Value} (hc : W.heap[k]? = some (.cells c t)) (ht : t ≠ 45) : W'.heap[k]? = some (.cells c t) :=
  (hk k (kind_ne hc h ht)).trans hc
theorem own_box {W W' : World} {B C : Nat} {A : Array Value} {m : Ms} {p : Pl} (h : W.heap[B]? = some (.cells A 45)) (hk : ∀ k, k ≠ B → W'.heap[k]? = W.heap[k]?) (ho : Own W C m p) : Own W' C m p :=
  ⟨own_stay ho.ow (fun k c _ hc => by rw [hc]; exact keep_box h hk hc (by decide)), own_stay ho.op (fun k c _ hc => by rw [hc]; exact keep_box h hk hc (by decide))⟩
theorem Sim.box {w W W' : World} {s n B : Nat} {A : Array Value} {R : Nat → List Nat} {MM : Nat → Ms} {PL : Nat → Pl} {v : Value} {its : List It} (hS : Sim w W s n R MM PL v its) (h : W.heap[B]? = some (.cells A 45)) (hk : ∀ k, k ≠ B → W'.heap[k]? = W.heap[k]?) (hb : Below w.heap.size W W') : Sim w W' s n R MM PL v its := by
  refine ⟨hS.net.keep (fun k h1 h2 => hk k (fun e => ?_)), hS.bel.trans hb, hS.hs, fun j hj b hm => ?_, hS.d1, own_stay hS.row (fun k c _ hc => by rw [hc]; exact keep_box h hk hc (by decide)), fun x hx => ?_, hS.val, hS.d2, hS.corr, hS.cnt⟩
  · subst e
    exact net_none hS.net h1 h2 h (by decide) (by decide)
  · obtain ⟨h1, h2, h3⟩ := hS.msg j hj b hm
    exact ⟨keep_box h hk h1 (by decide), own_box h hk h2, h3⟩
  · obtain ⟨h1, h2⟩ := hS.ito x hx
    exact ⟨own_box h hk h1, h2⟩

set_option maxRecDepth 100000 in
set_option maxHeartbeats 4000000 in
theorem rest20_wp (w : World) (s n : Nat) (D : Nat × Array Value) (B : Nat) (lim : Int) (x : Op1) (p : Pl) (Z : Array Value) (i : Nat) (u : Nat → Value) (wr W5 : World) (R : Nat → List Nat) (MM : Nat → Ms) (PL : Nat → Pl) (a : Option Addr) (c : Nat) (v' : Value) (its : List It) (p1 p3 : Pl) (B1 A1 C : Nat) (hu : Sl20 s n B lim i u) (h10 : u 10 = .pointer (some ⟨B1, 0, none⟩)) (h11 : u 11 = .pointer (some ⟨A1, 0, none⟩)) (h12 : u 12 = .int .i64 (ecd n R x.frm x.tow)) (h260 : i < 260) (hL : Lim x.m) (hwB : w.heap.size ≤ B)
    (hS : Sim w wr s n R MM PL (.slice a its.length c) its) (hXr : BoxS D B wr #[.int .i64 n, .slice a its.length c] (opA x p) Z) (hb5 : Below wr.heap.size wr W5) (hC1 : W5.heap[B1]? = some (.cells (msC (num x.m i) p1) 31)) (hA1 : W5.heap[A1]? = some (.cells #[.int .i64 n, v'] 45)) (hO1 : Own W5 wr.heap.size (num x.m i) p1)
    (hP : RefP W5 w.heap.size (.slice a its.length c) v' its ⟨x.frm, x.tow, num x.m i, p3⟩ (ecd n R x.frm x.tow)) (hO3 : Own W5 C (num x.m i) p3) (hC : wr.heap.size ≤ C) (htl : Till C p1)
    (Q0 : Exit → Act → World → Prop) :
    Code.wp Try.prog rest20 (Exit.inBlock 2 (Exit.then (fun A W => Code.wp Try.prog reg20 (Exit.then (fun A W => I20 w s n D B lim x p Z (i + 1) A W) Q0) A W) (Exit.then (fun A W => I20 w s n D B lim x p Z (i + 1) A W) Q0))) (frameN 149 u) W5 := by
  obtain ⟨a', k', c', rfl⟩ : ∃ a' k' c', v' = .slice a' k' c' := by
    rcases hP with ⟨_, e⟩ | ⟨_, e⟩
    · exact ⟨_, _, _, e⟩
    · obtain ⟨a', c', rfl⟩ := ownsRow_shape e
      exact ⟨_, _, _, rfl⟩
  obtain ⟨h0, h4, h5, h6, h8, h9⟩ := hu
  rw [frame_open149, h0, h4, h5, h6, h8, h9, h10, h11, h12]
  clear h0 h4 h5 h6 h8 h9 h10 h11 h12
  have HF : Hid (∀ (A : Act) (W : World) (R : Nat → List Nat) (MM : Nat → Ms) (PL : Nat → Pl) (v : Value) (its : List It), A.tmps.size = 149 → A.defers = [] → Sl20 s n B lim (i + 1) (fun i => A.tmps.getD i undef) → Sim w W s n R MM PL v its → BoxS D B W #[.int .i64 n, v] (opA x p) Z → (Exit.then (fun A W => I20 w s n D B lim x p Z (i + 1) A W) Q0) .normal A W) := by
    intro A W R MM PL v its hs hd h1 h2 h3
    exact ⟨_, R, MM, PL, v, its, frameN_lit 149 A hs hd, h1, h2, h3⟩
  generalize (Exit.then (fun A W => I20 w s n D B lim x p Z (i + 1) A W) Q0) = QA at HF ⊢
  have hX5 : BoxS D B W5 #[.int .i64 n, .slice a its.length c] (opA x p) Z := hXr.keep (KeepC.below hb5)
  obtain ⟨x0, x1, xf⟩ := cell2 hX5.h0
  obtain ⟨y0, y1, yf⟩ := cell2 hA1
  -- the box is written
  have hk6 : ∀ k, k ≠ B → ((W5.setCell ⟨B, 0, none⟩ (.int .i64 (n : Int))).setCell ⟨B, 1, none⟩ (.slice a' k' c')).heap[k]? = W5.heap[k]? := fun k hk => by rw [heap_setCell_other _ _ _ _ hk, heap_setCell_other _ _ _ _ hk]
  have hkr : ∀ k, k ≠ B → ((wr.setCell ⟨B, 0, none⟩ (.int .i64 (n : Int))).setCell ⟨B, 1, none⟩ (.slice a' k' c')).heap[k]? = wr.heap[k]? := fun k hk => by rw [heap_setCell_other _ _ _ _ hk, heap_setCell_other _ _ _ _ hk]
  have hSr := hS.box hXr.h0 hkr (((Below.refl _ _).setCell hwB _).setCell hwB _)
  have hb6 := below_set2 (v0 := .int .i64 (n : Int)) (v1 := .slice a' k' c') hb5 hXr.h0
  have hzr : ((wr.setCell ⟨B, 0, none⟩ (.int .i64 (n : Int))).setCell ⟨B, 1, none⟩ (.slice a' k' c')).heap.size = wr.heap.size := by simp [World.setCell]
  have hP6 : RefP ((W5.setCell ⟨B, 0, none⟩ (.int .i64 (n : Int))).setCell ⟨B, 1, none⟩ (.slice a' k' c')) w.heap.size (.slice a its.length c) (.slice a' k' c') its ⟨x.frm, x.tow, num x.m i, p3⟩ (ecd n R x.frm x.tow) := by
    rcases hP with q | ⟨q1, q2⟩
    · exact .inl q
    · exact .inr ⟨q1, own_stay q2 (fun k cc _ hc => by rw [hc]; exact keep_box hX5.h0 hk6 hc (by decide))⟩
  have HSend := toHid (sendAny hSr x.frm x.tow (num x.m i) p1 p3 (num_lim hL i) hb6 hP6 (own_box hX5.h0 hk6 hO3) (by rw [hzr]; exact hC) (own_box hX5.h0 hk6 hO1).mi (by rw [hzr]; exact own_from hO1) htl (own_till (own_box hX5.h0 hk6 hO1)))
  have HX6 : Hid (BoxS D B ((W5.setCell ⟨B, 0, none⟩ (.int .i64 (n : Int))).setCell ⟨B, 1, none⟩ (.slice a' k' c')) #[.int .i64 n, .slice a' k' c'] (opA x p) Z) := ⟨(hk6 _ (by have := hX5.hlt; omega)).trans hX5.h3, hX5.hlt, put2_same _ _ hX5.h0, (hk6 _ (by omega)).trans hX5.h1, (hk6 _ (by omega)).trans hX5.h2⟩
  have HO6 := toHid (own_box hX5.h0 hk6 hO1)
  have HC6 := toHid (keep_box hX5.h0 hk6 hC1 (by decide))
  have HN6 := toHid (hSr.below hb6).net
  have HWr := toHid hS.bel.size
  have HLm := toHid (num_lim hL i)
  clear hS hXr hb5 hC1 hA1 hO1 hP hO3 hC htl hX5 hk6 hkr hSr hb6 hzr hP6 hL
  conv => arg 2; whnf
  refine wp_seq_k fun K13 hK13 => ?_
  have HK13 := toHid hK13
  clear hK13
  go_wp2_with fail
  refine HK13.out _ _ ?_
  clear HK13
  generalize hw6 : (W5.setCell ⟨B, 0, none⟩ (.int .i64 (n : Int))).setCell ⟨B, 1, none⟩ (.slice a' k' c') = w6 at HSend HX6 HO6 HC6 HN6 ⊢
  clear hw6 x0 x1 xf y0 y1 yf
  obtain ⟨o0, o1, o2, o3, o4, o5, o6, o7, o8, o9, o10, o11, o12⟩ := cell13 HX6.out.h1
  obtain ⟨m0, m1, m2, m3, m4, m5, m6, m7, m8, mf⟩ := cell9 HC6.out
  obtain ⟨wa, wc, pa, pc⟩ := p1
  simp only [num] at m0 m1 m2 m3 m4 m5 m6 m7 m8
  obtain ⟨ec, hec⟩ : ∃ e, e = ecd n R x.frm x.tow := ⟨_, rfl⟩
  rw [← hec] at HSend ⊢
  clear hec
  go_wp2_with fail
  go_at_call 12
  refine Calls.mono HSend.out ?_
  rintro e w7 ⟨rfl, hT7, R7, MM7, PL7, its7, hS7, hd7, hd7'⟩
  have HS7 := toHid hS7
  have HD7 := toHid hd7
  have HD7' := toHid hd7'
  have HX7 := toHid (HX6.out.keep (hT7.keepC HN6.out))
  have HO7 := toHid (HO6.out.keep (hT7.keepC HN6.out))
  have HC7 := toHid (hT7.keepC HN6.out _ _ _ _ HC6.out)
  clear hS7 hd7 hd7' hT7 o0 o1 o2 o3 o4 o5 o6 o7 o8 o9 o10 o11 o12 m0 m1 m2 m3 m4 m5 m6 m7 m8 mf
  obtain ⟨m0, m1, m2, m3, m4, m5, m6, m7, m8, mf⟩ := cell9 HC7.out
  simp only [num] at m0 m1 m2 m3 m4 m5 m6 m7 m8
  go_wp2_with fail
  go_at_call 31
  refine Calls.mono (spoil31 (num x.m i) ⟨wa, wc, pa, pc⟩ _ w7 HO7.out HLm.out) ?_
  rintro e w8 ⟨rfl, hsp⟩
  have HS8 := toHid (HS7.out.spo HO7.out HWr.out hsp HD7.out HD7'.out)
  have HX8 := toHid (HX7.out.spo HO7.out hsp)
  clear hsp m0 m1 m2 m3 m4 m5 m6 m7 m8 mf
  go_wp2_with fail
  conv => arg 2; whnf
  go_wp2_with fail
  exact HF.out _ _ _ _ _ _ _ rfl rfl ⟨rfl, rfl, rfl, rfl, rfl, by show Value.int .i64 _ = _; simp⟩ HS8.out HX8.out

end Go.Proofs.Ytfdpmffoajjchaa
