/-
  Package stable: end, Finish and Crash.
-/
import Derived.Test.YtbigclhfgcaccaaBd
namespace Go.Proofs.Ytbigclhfgcaccaa
open Go.RowKit Go.Shelf

attribute [local go_sem] Oper.semAt_some

theorem blk_own {W W' : World} {row : Option Nat} {k : Nat} {c : Array Value} {t : TypeId} (h : W.heap[k]? = some (.cells c t)) (hg : W.grownBy W' row) (hr : ∀ r, row = some r → ∃ o : Obj, W.heap[r]? = some o ∧ o.isCells = false) : W'.heap[k]? = some (.cells c t) := by
  rw [hg.block k (lt_of_blk h) (fun e => by obtain ⟨o, h1, h2⟩ := hr k e.symm; rw [h] at h1; injection h1 with h1; rw [← h1] at h2; simp [Obj.isCells] at h2)]
  exact h
theorem touch_own {w W W' : World} {row : Option Nat} {p G : Nat} (h : Touch p G w W) (hg : W.grownBy W' row) (hr : ∀ r, row = some r → w.heap.size ≤ r) : Touch p G w W' :=
  ⟨hg.os.trans h.os, hg.tape.trans h.tape, hg.output.trans h.output, Nat.le_trans h.size hg.size, fun k hk h1 h2 => by
    rw [hg.block k (Nat.lt_of_lt_of_le hk h.size) (fun e => by have := hr k e.symm; omega)]
    exact h.block k hk h1 h2⟩

/-- The bytes behind some sectors. -/
def lays (a : Nat) (m : List UInt8) (pre : List Nat) (b : List UInt8) : List UInt8 := pre.foldl (fun b x => over b (a + 64 * x) ((m.drop (64 * x)).take 64)) b
theorem lays_snoc (a : Nat) (m : List UInt8) (pre : List Nat) (x : Nat) (b : List UInt8) : lays a m (pre ++ [x]) b = over (lays a m pre b) (a + 64 * x) ((m.drop (64 * x)).take 64) := by simp [lays]
theorem lays_length (a : Nat) (m : List UInt8) (N : Nat) (hN : m.length = 64 * N) (b : List UInt8) (hb : a + m.length ≤ b.length) (pre : List (Fin N)) : (lays a m (pre.map (·.1)) b).length = b.length := by
  induction pre generalizing b with
  | nil => rfl
  | cons x l ih =>
    have := x.2
    have e : (over b (a + 64 * x.1) ((m.drop (64 * x.1)).take 64)).length = b.length := over_length _ _ _ (by simp; omega)
    show (lays a m (l.map (·.1)) (over b (a + 64 * x.1) ((m.drop (64 * x.1)).take 64))).length = _
    rw [ih _ (by rw [e]; exact hb), e]
theorem lays_upto (a : Nat) (m : List UInt8) (N : Nat) (hN : m.length = 64 * N) (b : List UInt8) (hb : a + m.length ≤ b.length) (k : Nat) (hk : k ≤ N) : lays a m ((upto N k).map (·.1)) b = over b a (m.take (64 * k)) := by
  induction k with
  | zero => simp [upto, lays, over_nil]
  | succ k ih =>
    rw [upto_succ N k (by omega), List.map_append, List.map_singleton, lays_snoc, ih (by omega)]
    have e := over_over b a (m.take (64 * k)) ((m.drop (64 * k)).take 64) (by simp; omega)
    rw [show (m.take (64 * k)).length = 64 * k by simp; omega] at e
    rw [e]
    congr 1
    rw [show 64 * (k + 1) = 64 * k + 64 by omega, List.take_add]

theorem sectors_in (n q : Nat) (w : World) : CallsIn Fence.wide n Try.prog 34 #[.pointer (some ⟨q, 0, none⟩)] w fun e w' => e = .returned (.func (.func 35) #[] #[.pointer (some ⟨w.heap.size, 0, none⟩)]) ∧ w' = w.alloc (.cells #[.pointer (some ⟨q, 0, none⟩)] 60) := by
  refine callsIn_of_wp Try.func34 rfl trivial ?_ rfl
  simp only [Try.ntmps34, List.size_toArray, List.length_cons, List.length_nil, Nat.reduceAdd, Nat.reduceSub, Array.replicate_succ, Array.replicate_zero, List.push_toArray, List.append_toArray, List.nil_append, List.cons_append]
  gi_wp2
  go_ret
  exact ⟨rfl, rfl⟩

theorem sectors_stops (n : Nat) (hn : 1 ≤ n) (q bx r a L N : Nat) (hN : L = 64 * N) (hs : a + L ≤ 65536) (w : World) (hb : w.heap[bx]? = some (.cells #[.pointer (some ⟨q, 0, none⟩)] 60)) (hq : w.heap[q]? = some (.cells #[.int .i64 (a : Int), .slice (some ⟨r, 0, none⟩) L L] 68)) :
    SeqStopsK Fence.wide n Try.prog 35 #[.pointer (some ⟨bx, 0, none⟩)] (fun x : Fin N => secV a r L x.1) (Kp q bx) (fun ys => ys = upto N N) (fun pre => ∃ k, k ≤ N ∧ pre = upto N k) N w := fun l J Jx W hW hJ _ hY h0 => by
  refine sectors1_in n hn l q bx r a L N hN hs J Jx hY (fun pre W' h => hJ pre W' W'.drew none h ?_ (fun r e => by cases e)) W ?_ ?_ h0
  · exact ⟨rfl, rfl, rfl, Nat.le_refl _, fun _ _ _ => rfl⟩
  · rw [hW.block bx (lt_of_blk hb)]; exact hb
  · rw [hW.block q (lt_of_blk hq)]; exact hq

/-- Between two sectors. -/
structure EndI (w : World) (s p G r : Nat) (us : List (Option Nat)) (k : Int) (a : Nat) (m b : List UInt8) (pre : List Nat) (W : World) : Prop where
  v0 : W.heap[s]? = some (.cells #[.pointer (some ⟨p, 0, none⟩)] 22)
  v1 : W.heap[s + 1]? = some (.cells #[.int .i64 (k - pre.length)] 3)
  dv : W.heap[p]? = some (.cells (devC G b.length us) 63)
  bf : Buf W G (lays a m pre b)
  rb : Buf W r m
  le : (pre.length : Int) ≤ max k 0
  tc : Touch p G w W

theorem EndI.own {w : World} {s p G r : Nat} {us : List (Option Nat)} {k : Int} {a : Nat} {m b : List UInt8} {pre : List Nat} {W W' : World} {row : Option Nat} (h : EndI w s p G r us k a m b pre W) (hg : W.grownBy W' row)
    (hr : ∀ r, row = some r → w.heap.size ≤ r ∧ ∃ o : Obj, W.heap[r]? = some o ∧ o.isCells = false) : EndI w s p G r us k a m b pre W' :=
  have hr' := fun r e => (hr r e).2
  ⟨blk_own h.v0 hg hr', blk_own h.v1 hg hr', blk_own h.dv hg hr', blk_own h.bf hg hr', blk_own h.rb hg hr', h.le, touch_own h.tc hg (fun r e => (hr r e).1)⟩

theorem EndI.step {w : World} {s p G r q : Nat} {us : List (Option Nat)} {k : Int} {a : Nat} {m b : List UInt8} {pre : List Nat} {W W1 : World} (h : EndI w s p G r us k a m b pre W) (x : Nat) (hw : w.heap.size ≤ s) (hG : G < w.heap.size) (hp : p < w.heap.size) (hpG : p ≠ G) (hr : r < w.heap.size) (hrG : r ≠ G) (hq : q < w.heap.size) (hqG : q ≠ G)
    (hpos : 0 < k - pre.length) (hb : Buf W1 G (over (lays a m pre b) (a + 64 * x) ((m.drop (64 * x)).take 64))) (hk : ∀ i, i ≠ G → W1.heap[i]? = W.heap[i]?) (hsz : W1.heap.size = W.heap.size) (ht : Touch p G W W1) :
    EndI w s p G r us k a m b (pre ++ [x]) (W1.setCell ⟨s + 1, 0, none⟩ (.int .i64 (k - pre.length - 1))) ∧ KeepsOthers W (W1.setCell ⟨s + 1, 0, none⟩ (.int .i64 (k - pre.length - 1))) ∧ Kp q (s + 1 + 1) W (W1.setCell ⟨s + 1, 0, none⟩ (.int .i64 (k - pre.length - 1))) := by
  have o : ∀ i, i ≠ s + 1 → (W1.setCell ⟨s + 1, 0, none⟩ (.int .i64 (k - pre.length - 1))).heap[i]? = W1.heap[i]? := fun i hi => heap_setCell_other _ _ _ _ hi
  have v1 : W1.heap[s + 1]? = some (.cells #[.int .i64 (k - pre.length)] 3) := by rw [hk _ (by omega)]; exact h.v1
  refine ⟨⟨?_, ?_, ?_, ?_, ?_, ?_, ?_⟩, ⟨?_, ?_⟩, ?_, ?_⟩
  · rw [o _ (by omega), hk _ (by omega)]; exact h.v0
  · rw [heap_setCell_same _ _ _ _ _ _ v1]
    simp
    omega
  · rw [o _ (by omega), hk _ hpG]; exact h.dv
  · unfold Buf
    rw [o _ (by omega), lays_snoc]
    exact hb
  · unfold Buf
    rw [o _ (by omega), hk _ hrG]; exact h.rb
  · simp only [List.length_append, List.length_cons, List.length_nil]; omega
  · have t := h.tc.trans ht
    exact ⟨t.os, t.tape, t.output, by simpa using t.size, fun i hi h1 h2 => by rw [o _ (by omega)]; exact t.block i hi h1 h2⟩
  · simp [hsz]
  · intro i ob hi hc
    rw [o _ (fun e => ?_), hk _ (fun e => ?_)]
    · exact hi
    · have := h.bf; unfold Buf at this; rw [e, this] at hi; injection hi with hi; rw [← hi] at hc; simp [Obj.isCells] at hc
    · rw [e, h.v1] at hi; injection hi with hi; rw [← hi] at hc; simp [Obj.isCells] at hc
  · rw [o _ (by omega), hk _ hqG]
  · rw [o _ (by omega), hk _ (by omega)]

theorem end_fin {w W : World} {s p G r h D : Nat} {us : List (Option Nat)} {k : Int} {a : Nat} {m : List UInt8} {pre : List Nat} {d : Dv} {av : List Nat} (hd : Dev w av p G d) (hh : h < 8) (h1 : us.length = 8)
    (h3 : ∀ i, i < 8 → (us[i]? = some none ∧ d.u[i]? = some none) ∨ ∃ q a m, us[i]? = some (some q) ∧ d.u[i]? = some (some (a, m)) ∧ Wr w (p :: G :: av) q a m)
    (hE : EndI w s p G r us k a m d.b pre W) (hlen : (lays a m pre d.b).length = d.b.length) (hD : w.heap.size ≤ D) (hK : W.heap[D]? = some (.deferred (some []))) :
    (W.setCell ⟨p, 1 + h, none⟩ (.pointer none)).heap[D]? = some (.deferred (some [])) ∧
    Dev ((W.setCell ⟨p, 1 + h, none⟩ (.pointer none)).putObj D (.deferred none)) av p G ⟨lays a m pre d.b, d.u.set h none⟩ ∧ Touch p G w ((W.setCell ⟨p, 1 + h, none⟩ (.pointer none)).putObj D (.deferred none)) := by
  have hp := hd.lt.1
  have hG := hd.lt.2
  have o : ∀ i, i ≠ p → i ≠ D → ((W.setCell ⟨p, 1 + h, none⟩ (.pointer none)).putObj D (.deferred none)).heap[i]? = W.heap[i]? := fun i hi hi' => by
    rw [World.putObj_heap_other hi', heap_setCell_other _ _ _ _ hi]
  have ht : Touch p G w ((W.setCell ⟨p, 1 + h, none⟩ (.pointer none)).putObj D (.deferred none)) :=
    ⟨hE.tc.os, hE.tc.tape, hE.tc.output, by simpa using hE.tc.size, fun i hi i1 i2 => by rw [o i i1 (by omega)]; exact hE.tc.block i hi i1 i2⟩
  refine ⟨by rw [heap_setCell_other _ _ _ _ (by show D ≠ p; omega)]; exact hK, ⟨⟨by rw [hlen]; exact hd.good.small, by rw [hlen]; exact hd.good.whole, by simpa using hd.good.hands, fun i a' m' e => ?_⟩, ?_, hd.ne, hd.avp, hd.avG, us.set h none, by simpa using h1, ?_, fun i hi => ?_⟩, ht⟩
  · by_cases hi : h = i
    · subst hi
      rw [List.getElem?_set_self (by rw [hd.good.hands]; exact hh)] at e
      simp at e
    · rw [List.getElem?_set_ne hi] at e
      rw [hlen]
      exact hd.good.fits i a' m' e
  · unfold Buf
    rw [o G (fun e => hd.ne e.symm) (by omega)]
    exact hE.bf
  · rw [World.putObj_heap_other (by omega), hlen]
    exact dev_set hE.dv h none
  · by_cases hi' : h = i
    · subst hi'
      exact .inl ⟨List.getElem?_set_self (by omega), List.getElem?_set_self (by rw [hd.good.hands]; exact hh)⟩
    · rw [List.getElem?_set_ne hi', List.getElem?_set_ne hi']
      rcases h3 i hi with e | ⟨q, a', m', e1, e2, e3⟩
      · exact .inl e
      · exact .inr ⟨q, a', m', e1, e2, e3.keep fun j j1 j2 => ht.block j j1 (fun e => j2 (by simp [e])) (fun e => j2 (by simp [e]))⟩

set_option maxRecDepth 100000 in
set_option maxHeartbeats 2000000 in
theorem end_in (p G h : Nat) (k : Int) (d : Dv) (av : List Nat) (w : World) (hd : Dev w av p G d) (hh : h < 8) (hk : I64 k) (a : Nat) (m : List UInt8) (hx : d.u[h]? = some (some (a, m))) :
    CallsIn Fence.wide 9 Try.prog 29 #[.pointer (some ⟨p, 0, none⟩), .int .i64 (h : Int), .int .i64 k] w fun e w' => e = .returned (.int .i64 0) ∧ Dev w' av p G ⟨over d.b a (m.take (64 * k.toNat)), d.u.set h none⟩ ∧ Touch p G w w' := by
  obtain ⟨us, h1, h2, h3⟩ := hd.us
  obtain ⟨c0, cs, cf⟩ := dev_cells h2
  obtain ⟨f1, f2, f3, f4⟩ := hd.good.fits h a m hx
  have f5 := hd.good.small
  rcases h3 h hh with ⟨e1, e2⟩ | ⟨q, a', m', e1, e2, e3⟩
  · rw [e2] at hx; simp at hx
  rw [e2] at hx
  simp at hx
  obtain ⟨rfl, rfl⟩ := hx
  have c1 := cs h _ e1
  simp only [flV, Option.map_some] at c1
  obtain ⟨r, w1, w2, w3, w4⟩ := e3.out
  have H := handled_any ⟨p, 0, none⟩ h
  rw [decide_eq_true (by omega)] at H
  have HC : Hid _ := cs
  have H3 : Hid _ := h3
  have hp := hd.lt.1
  clear cs h3
  refine callsIn_of_wp_marks Try.func29 rfl trivial ?_ rfl
  simp only [Try.ntmps29, List.size_toArray, List.length_cons, List.length_nil, Nat.reduceAdd, Nat.reduceSub, Array.replicate_succ, Array.replicate_zero, List.push_toArray, List.append_toArray, List.nil_append, List.cons_append]
  gi_wp2_with fail
  refine ⟨trivial, (callsIn_wide.2 (H _)).mono ?_⟩
  rintro e w' ⟨rfl, hw⟩
  obtain rfl := hw.symm
  gi_wp2_with fail
  refine ⟨trivial, (sectors_in _ q _).mono ?_⟩
  rintro e w' ⟨rfl, hw⟩
  obtain rfl := hw.symm
  gi_wp2_with fail
  obtain ⟨N, hN⟩ : ∃ N, m'.length = 64 * N := ⟨m'.length / 64, by omega⟩
  obtain ⟨W0, hW0⟩ : ∃ W0, ((w.alloc (Obj.cells #[Value.pointer (some { block := p, off := 0 })] 22)).alloc (Obj.cells #[Value.int IntKind.i64 k] 3)).alloc (Obj.cells #[Value.pointer (some { block := q, off := 0 })] 60) = W0 := ⟨_, rfl⟩
  have hB0 : Below w.heap.size w W0 := by rw [← hW0]; exact (((Below.refl _ w).alloc (Nat.le_refl _) _).alloc (by simp) _).alloc (by simp; omega) _
  have z0 : W0.heap.size = w.heap.size + 3 := by rw [← hW0]; simp
  have x0 : W0.heap[w.heap.size]? = some (.cells #[.pointer (some ⟨p, 0, none⟩)] 22) := by
    rw [← hW0]; exact (Below.heap_alloc _ _ _ (by simp; omega)).trans ((Below.heap_alloc _ _ _ (by simp)).trans (heap_alloc_new w _))
  have x1 : W0.heap[w.heap.size + 1]? = some (.cells #[.int .i64 k] 3) := by
    have := heap_alloc_new (w.alloc (Obj.cells #[Value.pointer (some { block := p, off := 0 })] 22)) (.cells #[.int .i64 k] 3)
    rw [World.size_alloc] at this
    rw [← hW0]; exact (Below.heap_alloc _ _ _ (by simp)).trans this
  have x2 : W0.heap[w.heap.size + 1 + 1]? = some (.cells #[.pointer (some ⟨q, 0, none⟩)] 60) := by
    have := heap_alloc_new ((w.alloc (Obj.cells #[Value.pointer (some { block := p, off := 0 })] 22)).alloc (.cells #[.int .i64 k] 3)) (.cells #[.pointer (some ⟨q, 0, none⟩)] 60)
    rw [World.size_alloc, World.size_alloc] at this
    rw [← hW0]; exact this
  have hql := lt_of_blk w1
  have hrl := lt_of_blk w2
  have hGl := hd.lt.2
  have hE0 : EndI w w.heap.size p G r us k a' m' d.b [] W0 := ⟨x0, by simpa using x1, by rw [hB0.block p hp]; exact h2, hd.buf.below hB0 (Nat.le_refl _), w2.below hB0 (Nat.le_refl _), by simp; omega, Touch.of hB0⟩
  have hq0 : W0.heap[q]? = some (.cells #[.int .i64 (a' : Int), .slice (some ⟨r, 0, none⟩) m'.length m'.length] 68) := by rw [hB0.block q hql]; exact w1
  rw [hW0]
  clear hW0
  have HN : Hid (m'.length = 64 * N) := hN
  have hseq := sectors_stops 8 (by omega) q (w.heap.size + 1 + 1) r a' m'.length N hN (by omega) W0 x2 hq0
  clear hN
  refine wpIn_rangeFunc_ownF rfl (by omega) (gf := 35) (lb := #[.pointer (some ⟨w.heap.size + 1 + 1, 0, none⟩)]) rfl trivial (enters_of Try.func35 (by kernel_rfl) rfl) hseq (fun h1 h2 => ⟨h2.1.trans h1.1, h2.2.trans h1.2⟩)
    (fun W l o o' hl _ _ _ => ⟨World.putObj_heap_other (by omega), World.putObj_heap_other (by omega)⟩) (Below.refl _ _) (fun _ => rfl)
    (fun (pre : List (Fin N)) W => EndI w w.heap.size p G r us k a' m' d.b (pre.map (fun y : Fin N => y.1)) W)
    (fun c (ys : List (Fin N)) W => c = .exit 0 ∧ ∃ (pre : List (Fin N)) (x : Fin N), ys = pre ++ [x] ∧ EndI w w.heap.size p G r us k a' m' d.b (pre.map (fun y : Fin N => y.1)) W ∧ k - (pre.length : Int) ≤ 0)
    (fun s A B row hs hg hr => hs.own hg (fun r e => ⟨by have := (hr r e).1; omega, (hr r e).2⟩))
    (fun c s A B row hs hg hr => ⟨hs.1, hs.2.elim fun pre e => e.elim fun x e => ⟨pre, x, e.1, e.2.1.own hg (fun r e => ⟨by have := (hr r e).1; omega, (hr r e).2⟩), e.2.2⟩⟩)
    hE0
    (fun x => { tmps := #[.pointer (some ⟨p, 0, none⟩), .int .i64 (h : Int), .int .i64 k, .pointer (some ⟨w.heap.size, 0, none⟩), undef, .pointer (some ⟨w.heap.size + 1, 0, none⟩), .int .i64 0, .pointer (some ⟨q, 0, none⟩),
      .int .i64 ((a' : Int) + 64 * (x.1 : Int)), .slice (some ⟨r, 64 * x.1, none⟩) 64 (m'.length - 64 * x.1), .pointer (some ⟨p, 0, none⟩), .int .i64 (h : Int), .bool true, .bool false, .pointer (some ⟨p, 0, none⟩), .int .i64 (h : Int), .pointer (some ⟨p, 0, none⟩),
      .pointer (some ⟨p, 1, none⟩), .pointer (some ⟨p, 1 + h, none⟩), .pointer (some ⟨q, 0, none⟩), .pointer (some ⟨q, 0, none⟩), .bool false, .pointer (some ⟨q, 0, none⟩), .func (.func 35) #[] #[.pointer (some ⟨w.heap.size + 1 + 1, 0, none⟩)],
      .int .i64 ((a' : Int) + 64 * (x.1 : Int)), .slice (some ⟨r, 64 * x.1, none⟩) 64 (m'.length - 64 * x.1), undef, undef, undef, undef, undef, undef, undef, undef, undef, undef, undef, undef, undef, undef, undef, undef, undef], defers := [] }) ?assign ?body ?done ?stop
  case assign =>
    intro l x W K hK
    gi_wp2
    exact hK
  case body =>
    rintro l pre x W hE hpre
    obtain ⟨X, hX⟩ := x
    have hlen := lays_length a' m' N HN.out d.b f4 pre
    have hN := HN.out
    have g1 : a' + 64 * X + 64 ≤ d.b.length := by omega
    have g2 : 64 * X + 64 ≤ m'.length := by omega
    have lm : ((m'.drop (64 * X)).take 64).length = 64 := by simp; omega
    have E0 : W.cell? ⟨w.heap.size, 0, none⟩ = some (.pointer (some ⟨p, 0, none⟩)) := by simp [World.cell?, hE.v0]
    have E1 : W.cell? ⟨w.heap.size + 1, 0, none⟩ = some (.int .i64 (k - (pre.length : Int))) := by simp [World.cell?, hE.v1]
    have E1f : W.frozen? ⟨w.heap.size + 1, 0, none⟩ = false := by simp [World.frozen?, hE.v1]
    have E2 := (dev_cells hE.dv).1
    obtain ⟨W1, r1, r2, r3, r4, r5⟩ := copy_run (P := Try.prog) Try.underlying34 size5 W G (a' + 64 * X) (d.b.length - (a' + 64 * X)) (d.b.length - (a' + 64 * X)) (some ⟨r, 64 * X, none⟩) (m'.length - 64 * X) (lays a' m' (pre.map (·.1)) d.b) ((m'.drop (64 * X)).take 64) hE.bf ((hE.rb.slB (64 * X)).take 64) (by rw [lm]; omega) (by rw [lm, hlen]; omega)
    rw [lm] at r1
    have E1' : W1.cell? ⟨w.heap.size + 1, 0, none⟩ = some (.int .i64 (k - (pre.length : Int))) := by
      have := r4 (w.heap.size + 1) (by omega)
      rw [hE.v1] at this
      simp [World.cell?, this]
    have E1f' : W1.frozen? ⟨w.heap.size + 1, 0, none⟩ = false := by
      have := r4 (w.heap.size + 1) (by omega)
      rw [hE.v1] at this
      simp [World.frozen?, this]
    have hk2 := hk.2
    have wN : q ≠ G ∧ r ≠ G := ⟨fun e => w3 (by simp [e]), fun e => w4 (by simp [e])⟩
    have HS := fun hpos => hE.step (q := q) (W1 := W1) X (Nat.le_refl _) hGl hp hd.ne hrl wN.2 hql wN.1 hpos r2 r4 r5 (r3 p)
    dsimp only
    rw [show (a' : Int) + 64 * (X : Int) = ((a' + 64 * X : Nat) : Int) by omega]
    by_cases hz : k - (pre.length : Int) ≤ 0
    · clear hN HN lm r1 r2 r3 r4 r5 HS
      gi_wp2
      exact ⟨KeepsOthers.refl _, rfl, pre, _, rfl, hE, hz⟩
    · have HP := (show Hid _ from HS (by simp; omega))
      simp only [List.length_map] at HP
      have hw1 : IntKind.i64.wrap (k - (pre.length : Int) - 1) = k - (pre.length : Int) - 1 := by have := hk.1; simp [IntKind.wrap, IntKind.bits, IntKind.signed]; omega
      have hz' : ¬ d.b.length = a' + 64 * X := by omega
      clear hN HN lm r2 r3 r4 r5 HS hlen
      generalize a' + 64 * X = t at *
      gi_wp2
      exact ⟨HP.out.2.1, HP.out.2.2, by simpa using HP.out.1⟩
  case done =>
    rintro D ys W hD rfl hE hK
    have hN := HN.out
    have hle := hE.le
    rw [List.length_map, upto_length N N (Nat.le_refl _)] at hle
    have hF := end_fin hd hh h1 H3.out hE (lays_length a' m' N HN.out d.b f4 _) (by omega) hK
    rw [lays_upto a' m' N HN.out d.b f4 N (Nat.le_refl _), List.take_of_length_le (by omega), ← List.take_of_length_le (l := m') (i := 64 * k.toNat) (by omega)] at hF
    have E0 : W.cell? ⟨w.heap.size, 0, none⟩ = some (.pointer (some ⟨p, 0, none⟩)) := by simp [World.cell?, hE.v0]
    obtain ⟨_, E2, E3⟩ := dev_cells hE.dv
    have E4 := E2 h _ e1
    have E5 := E3 (1 + h)
    have HF : Hid _ := hF
    clear hF E2 E3 hN hle
    gi_wp2
    refine ⟨by simp, .inl ⟨_, _, rfl, run_takeDeferred HF.out.1, ?_⟩⟩
    exact ⟨_, results_tmp rfl _ _ _, rfl, HF.out.2⟩
  case stop =>
    rintro D c ys W hD ⟨j, hj, hys⟩ ⟨rfl, pre', x, e, hE, hz⟩ hK
    have hN := HN.out
    have hle := hE.le
    rw [List.length_map] at hle
    have hl : (upto N j).length = pre'.length + 1 := by rw [← hys, e]; simp
    rw [upto_length N j hj] at hl
    have hpre : pre' = upto N pre'.length := by
      have e' : (upto N j).take pre'.length = pre' := by rw [← hys, e]; simp
      rw [← e']
      unfold upto
      rw [List.take_take]
      congr 1
      simp
      omega
    have hkn : pre'.length = k.toNat := by omega
    have hF := end_fin hd hh h1 H3.out hE (lays_length a' m' N HN.out d.b f4 _) (by omega) hK
    rw [hpre, lays_upto a' m' N HN.out d.b f4 pre'.length (by omega), hkn] at hF
    have E0 : W.cell? ⟨w.heap.size, 0, none⟩ = some (.pointer (some ⟨p, 0, none⟩)) := by simp [World.cell?, hE.v0]
    obtain ⟨_, E2, E3⟩ := dev_cells hE.dv
    have E4 := E2 h _ e1
    have E5 := E3 (1 + h)
    have HF : Hid _ := hF
    clear hF E2 E3 hN hle hl hpre hkn
    gi_wp2
    refine ⟨by simp, .inl ⟨_, _, rfl, run_takeDeferred HF.out.1, ?_⟩⟩
    exact ⟨_, results_tmp rfl _ _ _, rfl, HF.out.2⟩

/-- What Finish and Crash answer, and what they leave. -/
def finE (d : Dv) (h : Int) : Int := if 0 ≤ h ∧ h < 8 then (match d.u[h.toNat]? with | some (some _) => 0 | _ => 8) else 1
def finD (d : Dv) (h k : Int) : Dv := if 0 ≤ h ∧ h < 8 then (match d.u[h.toNat]? with | some (some (a, m)) => ⟨over d.b a (m.take (64 * k.toNat)), d.u.set h.toNat none⟩ | _ => d) else d

theorem end_nil (h k : Int) (w : World) : Calls Try.prog 29 #[.pointer none, .int .i64 h, .int .i64 k] w fun e w' => e = .returned (.int .i64 1) ∧ Below w.heap.size w w' := by
  have hB : Below w.heap.size w ((w.alloc (.cells #[.pointer none] 22)).alloc (.cells #[.int .i64 k] 3)) := ((Below.refl _ w).alloc (Nat.le_refl _) _).alloc (by simp) _
  refine (callsIn_wide (n := 9)).1 ?_
  refine callsIn_of_wp_marks Try.func29 rfl trivial ?_ rfl
  simp only [Try.ntmps29, List.size_toArray, List.length_cons, List.length_nil, Nat.reduceAdd, Nat.reduceSub, Array.replicate_succ, Array.replicate_zero, List.push_toArray, List.append_toArray, List.nil_append, List.cons_append]
  gi_wp2_with fail
  refine ⟨trivial, (callsIn_wide.2 (handled_nil h _)).mono ?_⟩
  rintro e w' ⟨rfl, hw⟩
  obtain rfl := hw.symm
  gi_wp2_with fail
  exact ⟨_, results_tmp rfl _ _ _, rfl, hB⟩

theorem end_any (p G : Nat) (h k : Int) (d : Dv) (av : List Nat) (w : World) (hd : Dev w av p G d) (hk : I64 k) :
    Calls Try.prog 29 #[.pointer (some ⟨p, 0, none⟩), .int .i64 h, .int .i64 k] w fun e w' => e = .returned (.int .i64 (finE d h)) ∧ Dev w' av p G (finD d h k) ∧ Touch p G w w' := by
  have hB : Below w.heap.size w ((w.alloc (.cells #[.pointer (some ⟨p, 0, none⟩)] 22)).alloc (.cells #[.int .i64 k] 3)) := ((Below.refl _ w).alloc (Nat.le_refl _) _).alloc (by simp) _
  by_cases hh : 0 ≤ h ∧ h < 8
  · obtain ⟨i, rfl⟩ := Int.eq_ofNat_of_zero_le hh.1
    have hi : i < 8 := by omega
    have hlt : i < d.u.length := by rw [hd.good.hands]; exact hi
    cases hx : d.u[i] with
    | some am =>
      obtain ⟨a, m⟩ := am
      have hx' : d.u[i]? = some (some (a, m)) := by rw [List.getElem?_eq_getElem hlt, hx]
      have H := end_in p G i k d av w hd hi hk a m hx'
      simp only [finE, finD, if_pos hh, Int.toNat_natCast, hx']
      exact (callsIn_wide (n := 9)).1 H
    | none =>
      have hx' : d.u[i]? = some none := by rw [List.getElem?_eq_getElem hlt, hx]
      simp only [finE, finD, if_pos hh, Int.toNat_natCast, hx']
      obtain ⟨us, h1, h2, h3⟩ := hd.us
      obtain ⟨c0, cs, cf⟩ := dev_cells h2
      rcases h3 i hi with ⟨e1, e2⟩ | ⟨q, a', m', e1, e2, e3⟩
      · have c1 := cs i _ e1
        simp only [flV, Option.map_none] at c1
        have H := handled_any ⟨p, 0, none⟩ i
        rw [decide_eq_true hh] at H
        have hp := hd.lt.1
        clear cs h3 hx
        refine (callsIn_wide (n := 9)).1 ?_
        refine callsIn_of_wp_marks Try.func29 rfl trivial ?_ rfl
        simp only [Try.ntmps29, List.size_toArray, List.length_cons, List.length_nil, Nat.reduceAdd, Nat.reduceSub, Array.replicate_succ, Array.replicate_zero, List.push_toArray, List.append_toArray, List.nil_append, List.cons_append]
        gi_wp2_with fail
        refine ⟨trivial, (callsIn_wide.2 (H _)).mono ?_⟩
        rintro e w' ⟨rfl, hw⟩
        obtain rfl := hw.symm
        gi_wp2_with fail
        exact ⟨_, results_tmp rfl _ _ _, rfl, hd.below hB, Touch.of hB⟩
      · rw [e2] at hx'; simp at hx'
  · have H := handled_any ⟨p, 0, none⟩ h
    rw [decide_eq_false hh] at H
    simp only [finE, finD, if_neg hh]
    refine (callsIn_wide (n := 9)).1 ?_
    refine callsIn_of_wp_marks Try.func29 rfl trivial ?_ rfl
    simp only [Try.ntmps29, List.size_toArray, List.length_cons, List.length_nil, Nat.reduceAdd, Nat.reduceSub, Array.replicate_succ, Array.replicate_zero, List.push_toArray, List.append_toArray, List.nil_append, List.cons_append]
    gi_wp2_with fail
    refine ⟨trivial, (callsIn_wide.2 (H _)).mono ?_⟩
    rintro e w' ⟨rfl, hw⟩
    obtain rfl := hw.symm
    gi_wp2_with fail
    exact ⟨_, results_tmp rfl _ _ _, rfl, hd.below hB, Touch.of hB⟩

theorem finish_nil (h : Int) (w : World) : Calls Try.prog 18 #[.pointer none, .int .i64 h] w fun e w' => e = .returned (.int .i64 1) ∧ Below w.heap.size w w' := by
  go_enter Try.func18, Try.ntmps18
  go_wp2_with fail
  refine (end_nil _ _ _).mono ?_
  rintro e w' ⟨rfl, hb⟩
  go_wp2_with fail
  go_ret
  exact ⟨rfl, hb⟩
theorem crash_nil (h k : Int) (w : World) : Calls Try.prog 19 #[.pointer none, .int .i64 h, .int .i64 k] w fun e w' => e = .returned (.int .i64 1) ∧ Below w.heap.size w w' := by
  go_enter Try.func19, Try.ntmps19
  go_wp2_with fail
  refine (end_nil _ _ _).mono ?_
  rintro e w' ⟨rfl, hb⟩
  go_wp2_with fail
  go_ret
  exact ⟨rfl, hb⟩
theorem finish_any (p G : Nat) (h : Int) (d : Dv) (av : List Nat) (w : World) (hd : Dev w av p G d) :
    Calls Try.prog 18 #[.pointer (some ⟨p, 0, none⟩), .int .i64 h] w fun e w' => e = .returned (.int .i64 (finE d h)) ∧ Dev w' av p G (finD d h 1024) ∧ Touch p G w w' := by
  have H := end_any p G h 1024 d av w hd (by omega)
  generalize finD d h 1024 = D at *
  generalize finE d h = E at *
  go_enter Try.func18, Try.ntmps18
  go_wp2_with fail
  refine H.mono ?_
  rintro e w' ⟨rfl, hb⟩
  go_wp2_with fail
  go_ret
  exact ⟨rfl, hb⟩
theorem crash_any (p G : Nat) (h k : Int) (d : Dv) (av : List Nat) (w : World) (hd : Dev w av p G d) (hk : I64 k) :
    Calls Try.prog 19 #[.pointer (some ⟨p, 0, none⟩), .int .i64 h, .int .i64 k] w fun e w' => e = .returned (.int .i64 (finE d h)) ∧ Dev w' av p G (finD d h k) ∧ Touch p G w w' := by
  have H := end_any p G h k d av w hd hk
  generalize finD d h k = D at *
  generalize finE d h = E at *
  go_enter Try.func19, Try.ntmps19
  go_wp2_with fail
  refine H.mono ?_
  rintro e w' ⟨rfl, hb⟩
  go_wp2_with fail
  go_ret
  exact ⟨rfl, hb⟩

end Go.Proofs.Ytbigclhfgcaccaa
