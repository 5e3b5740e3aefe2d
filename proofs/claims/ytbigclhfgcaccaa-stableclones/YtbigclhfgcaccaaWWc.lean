/-
  The inner loop of StableWhole.
-/
import Derived.Test.YtbigclhfgcaccaaWWb
import Derived.Deep.RegionHeld3
import Derived.BigQuiet
namespace Go.Proofs.Ytbigclhfgcaccaa
open Go.RowKit

noncomputable def loop5c : Code := ((loopsOf loop5b)[0]?).getD .skip

theorem below_drewN (w : World) (k : Nat) : Below w.heap.size w (w.drewN k) := ⟨rfl, rfl, rfl, Nat.le_refl _, fun _ _ => rfl⟩

theorem q5 {Q0 : Exit → Act → World → Prop} {e : Exit} {A : Act} {w : World} (hs : A.tmps.size = 207) (hd : A.defers = []) (h : Q0 e (frame5 fun i => A.tmps.getD i undef) w) : Q0 e A w := by
  rw [frame5_lit A hs hd]; exact h

/-- The slots that are read in the second loop. -/
structure Sm5 (n : Nat) (k : Int) (s Gn Gw : Nat) (u : Nat → Value) : Prop where
  h3 : u 3 = .int .i64 (n : Int)
  h5 : u 5 = .pointer (some ⟨s + 1, 0, none⟩)
  h6 : u 6 = .int .i64 k
  h10 : u 10 = .slice (some ⟨Gw, 0, none⟩) n n
  h12 : u 12 = .slice (some ⟨Gn, 0, none⟩) n n

/-- What lies there in the second loop. -/
structure Mm5 (s Gn Gw : Nat) (o : Op) (now was : List UInt8) (W : World) : Prop where
  nw : Buf W Gn now
  ws : Buf W Gw was
  op : W.heap[s + 1]? = some (.cells (opV o) 49)
theorem Mm5.below {s Gn Gw : Nat} {o : Op} {now was : List UInt8} {W W' : World} (h : Mm5 s Gn Gw o now was W) (hb : Below W.heap.size W W') : Mm5 s Gn Gw o now was W' :=
  ⟨h.nw.below hb (Nat.le_refl _), h.ws.below hb (Nat.le_refl _), by rw [hb.block _ (lt_of_blk h.op)]; exact h.op⟩

def I5c (n : Nat) (k : Int) (s Gn Gw : Nat) (o : Op) (now was : List UInt8) (at' : Nat) (f : Bool) (w : World) (i : Nat) (x : Act) (w' : World) : Prop :=
  ∃ u : Nat → Value, x = frame5 u ∧ Sm5 n k s Gn Gw u ∧ u 14 = .int .i64 (at' : Int) ∧ u 15 = .bool f ∧ u 16 = .int .i64 (i : Int) ∧ Mm5 s Gn Gw o now was w' ∧ Below w.heap.size w w'

set_option maxRecDepth 100000 in
set_option maxHeartbeats 3000000 in
theorem round5c (n : Nat) (k : Int) (s Gn Gw : Nat) (o : Op) (now was : List UInt8) (at' : Nat) (f : Bool) (w : World) (i : Nat) (u : Nat → Value) (wr : World) (hu : Sm5 n k s Gn Gw u) (h14 : u 14 = .int .i64 (at' : Int)) (h15 : u 15 = .bool f) (h16 : u 16 = .int .i64 (i : Int))
    (hM : Mm5 s Gn Gw o now was wr) (hb : Below w.heap.size w wr) (hin : i < n) (hn : n ≤ 4096) (hia : i < at' + 64) (hat : at' ≤ 4096) (hnn : now.length = n) (hwn : was.length = n) (hf : now[i]? = if f then some o.fill else was[i]?) (Q0 : Exit → Act → World → Prop) :
    Code.wp Try.prog loop5c (Exit.then (fun x w'' => I5c n k s Gn Gw o now was at' f w (i + 1) x w'') Q0) (frame5 u) wr := by
  obtain ⟨h3, h5, h6, h10, h12⟩ := hu
  rw [frame5_open, h3, h5, h6, h10, h12, h14, h15, h16]
  clear h3 h5 h6 h10 h12 h14 h15 h16
  have HM : Hid _ := hM
  have HB : Hid _ := hb
  have y := hM.op
  simp only [opV] at y
  have y4 : wr.cell? ⟨s + 1, 4, none⟩ = some (.int .u8 (o.fill.toNat : Int)) := by simp [World.cell?, y]
  have e1 := (hM.nw.cell i (by omega)).1
  have e2 := (hM.ws.cell i (by omega)).1
  rw [List.getElem?_eq_getElem (by omega), List.getElem?_eq_getElem (by omega)] at hf
  generalize now[i]'(by omega) = nv at *
  generalize was[i]'(by omega) = wv at *
  clear hM hb y hnn hwn
  conv => arg 2; whnf
  cases f with
  | true =>
    simp at hf
    subst hf
    go_wp2_with fail
    go_quiet (fail)
    go_wp2_with fail
    exact ⟨_, frame5_lit _ rfl rfl, ⟨rfl, rfl, rfl, rfl, rfl⟩, rfl, rfl, by show Value.int .i64 _ = _; simp, HM.out.below (below_drewN _ _), below_on HB.out (below_drewN _ _)⟩
  | false =>
    simp at hf
    subst hf
    go_wp2_with fail
    go_quiet (fail)
    go_wp2_with fail
    exact ⟨_, frame5_lit _ rfl rfl, ⟨rfl, rfl, rfl, rfl, rfl⟩, rfl, rfl, by show Value.int .i64 _ = _; simp, HM.out.below (below_drewN _ _), below_on HB.out (below_drewN _ _)⟩

set_option maxRecDepth 100000 in
set_option maxHeartbeats 3000000 in
theorem exit5c (n : Nat) (k : Int) (s Gn Gw : Nat) (at' i : Nat) (f : Bool) (u : Nat → Value) (wr : World) (hu : Sm5 n k s Gn Gw u) (h14 : u 14 = .int .i64 (at' : Int)) (h15 : u 15 = .bool f) (h16 : u 16 = .int .i64 (i : Int)) (hia : i = at' + 64) (hat : at' ≤ 4096) (Q0 : Exit → Act → World → Prop) (R : Act → World → Prop)
    (hexit : ∀ u', Sm5 n k s Gn Gw u' → u' 14 = .int .i64 (at' : Int) → Q0 (.exit 4) (frame5 u') wr) :
    Code.wp Try.prog loop5c (Exit.then R Q0) (frame5 u) wr := by
  obtain ⟨h3, h5, h6, h10, h12⟩ := hu
  have HX : Hid _ := hexit
  clear hexit
  rw [frame5_open, h3, h5, h6, h10, h12, h14, h15, h16]
  clear h3 h5 h6 h10 h12 h14 h15 h16
  conv => arg 2; whnf
  subst hia
  go_wp2_with fail
  exact q5 rfl rfl (HX.out _ ⟨rfl, rfl, rfl, rfl, rfl⟩ rfl)

theorem loop5c_wp (n : Nat) (k : Int) (s Gn Gw : Nat) (o : Op) (now was : List UInt8) (at' : Nat) (f : Bool) (u : Nat → Value) (w : World) (hu : Sm5 n k s Gn Gw u) (h14 : u 14 = .int .i64 (at' : Int)) (h15 : u 15 = .bool f) (h16 : u 16 = .int .i64 (at' : Int))
    (hM : Mm5 s Gn Gw o now was w) (hn : n ≤ 4096) (hat : at' + 64 ≤ n) (hnn : now.length = n) (hwn : was.length = n) (hf : ∀ i, at' ≤ i → i < at' + 64 → now[i]? = if f then some o.fill else was[i]?) (Q0 : Exit → Act → World → Prop)
    (hexit : ∀ u' w', Sm5 n k s Gn Gw u' → u' 14 = .int .i64 (at' : Int) → Mm5 s Gn Gw o now was w' → Below w.heap.size w w' → Q0 (.exit 4) (frame5 u') w') :
    Code.wp Try.prog (Code.loop loop5c) Q0 (frame5 u) w := by
  refine wp_loop (fun x w' => ∃ i, at' ≤ i ∧ i ≤ at' + 64 ∧ I5c n k s Gn Gw o now was at' f w i x w') (fun x _ => at' + 64 - (intOf (x.tmps.getD 16 undef)).toNat) ⟨at', Nat.le_refl _, by omega, u, rfl, hu, h14, h15, h16, hM, Below.refl _ _⟩ ?_
  rintro x w' ⟨i, hi1, hi2, u', rfl, hu', g14, g15, g16, hM', hb'⟩
  by_cases hlt : i < at' + 64
  · refine Code.wp_mono ?_ (round5c n k s Gn Gw o now was at' f w i u' w' hu' g14 g15 g16 hM' hb' (by omega) hn hlt (by omega) hnn hwn (hf i hi1 hlt) Q0)
    intro e x w'' h
    cases e <;> first | exact h | skip
    refine ⟨⟨i + 1, by omega, by omega, h⟩, ?_⟩
    obtain ⟨u'', rfl, _, _, _, k16, _⟩ := h
    show at' + 64 - (intOf (u'' 16)).toNat < at' + 64 - (intOf (u' 16)).toNat
    rw [k16, g16]
    simp only [intOf]
    omega
  · exact exit5c n k s Gn Gw at' i f u' w' hu' g14 g15 g16 (by omega) (by omega) Q0 _ (fun u'' h1 h2 => hexit u'' w' h1 h2 hM' hb')

end Go.Proofs.Ytbigclhfgcaccaa
