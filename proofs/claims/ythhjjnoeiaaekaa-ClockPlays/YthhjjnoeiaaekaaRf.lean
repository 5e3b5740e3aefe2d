/-
  The document's Same, of the same rings; the statement's own copy of a ring.
-/
import Derived.Test.YthhjjnoeiaaekaaRe
import Derived.Test.YthhjjnoeiaaekaaCn
import Derived.Deep.RegionLaw
namespace Go.Proofs.Ythhjjnoeiaaekaa
open Go.RowKit

set_option maxRecDepth 20000 in
set_option maxHeartbeats 2000000 in
theorem same_eq (a a' : Option Addr) (c c' : Nat) (r : Rg) (w : World) (h : SlF w a r.fr) (h' : SlF w a' r.fr) (hl : r.fr.length ≤ 1000000) :
    Calls Try.prog 28 #[rgV a c r, rgV a' c' r] w fun e w' => e = .returned (.bool true) ∧ Below w.heap.size w w' := by
  obtain ⟨j0, j1, j2, j3⟩ := al2 w (.cells (rgC a c r) 24) (.cells (rgC a' c' r) 24)
  obtain ⟨l, hd⟩ := r
  simp only [rgV, rgC] at *
  have hs := h.below j3
  have hs' := h'.below j3
  go_enter Try.func28, Try.ntmps28
  go_wp2_with fail
  generalize World.alloc (World.alloc _ _) _ = W at j0 j1 j2 j3 hs hs' ⊢
  have H0 := toHid j0
  have H1 := toHid j1
  have HS := toHid hs
  have HS' := toHid hs'
  clear j0 j1 j2 hs hs' h h'
  go_loopw [5] (fun i wr => ∃ k : Nat, k ≤ l.length ∧ i = .int .i64 k ∧ Below W.heap.size W wr) (fun i _ => l.length - (intOf i).toNat)
  case atStart => exact ⟨0, Nat.zero_le _, rfl, Below.refl _ _⟩
  case round =>
    obtain ⟨k, hk, rfl, hb⟩ := hrel
    obtain ⟨p0, p1, p2, p3, p4⟩ := cell2 (box_in' H0.out hb)
    obtain ⟨q0, q1, q2, q3, q4⟩ := cell2 (box_in' H1.out hb)
    have HD := toHid hb
    by_cases hlt : k < l.length
    · obtain ⟨b, o, rfl, hbl, c0, c1, c2⟩ := (HS.out.below hb).at k hlt
      obtain ⟨b2, o2, rfl, hbl2, d0, d1, d2⟩ := (HS'.out.below hb).at k hlt
      have hE := fun W => eq31 l[k] l[k] W
      simp only [decide_true] at hE
      have hk0 : 0 ≤ (k : Int) := by omega
      have hk1 : (k : Int) < (l.length : Int) := by omega
      clear hb
      go_wp2_with fail
      go_quiet (fail)
      have hd6 := below_on HD.out (Go.Joins.below_draws _ _ _ : Below wr.heap.size wr (wr.drewN nq))
      go_wp2_with fail
      go_roundw
      case rel => exact ⟨k + 1, by omega, by simp, hd6⟩
      case measure => first | omega | (simp only [intOf]; omega)
    · obtain rfl : k = l.length := by omega
      go_wp2_with fail
      go_ret
      exact ⟨rfl, below_on j3 HD.out⟩

theorem step_append_own {P : Program} {ops : Array Oper} {o : Oper} {a : Act} {w : World} {K : Act → World → Prop} {Q : Exit → Act → World → Prop} {E : Prop}
    (hg : o.guard = none) (s x : Operand) (t : TypeId) (hop : o.op = Op.call { callee := Callee.builtin Builtin.append, args := #[s, x], argTypes := #[t, t] })
    (base : Nat) (e : TypeId) (i : TypeInfo) (z : Value) (size bytes : Nat) (h1 : P.underlying t = some (.slice e)) (h2 : P.info? e = some i) (h3 : i.zero = some z) (h4 : i.size = size) (h5 : i.bytes = bytes) (h6 : z.cells.size = size) (h7 : 0 < size)
    (v : Value) (n : Nat) (xs : List Value) (hs : a.eval s = v) (hown : w.ownsRow base e size v n xs)
    (ad : Addr) (m c : Nat) (news : List Value) (hx : a.eval x = .slice (some ad) m c) (hn : news.length = m * size) (hc : ∀ j u, news[j]? = some u → w.cell? (ad.add j) = some u) (h1c : ∀ u ∈ news, u.oneCell' = true)
    (b1 : n + m ≤ maxLen) (b2 : (n + m) * bytes ≤ 140737488355328) (hb : base ≤ w.heap.size)
    (hK : ∀ v' w', w'.ownsRow base e size v' (n + m) (xs ++ news) → w.grownBy w' v.ownBlock → K (a.put o.dst v') w') :
    if Region.wanted o (yielded ops a.tmps) = true then Oper.wp P o a w K Q else E := by
  have hw : Region.wanted o (yielded ops a.tmps) = true := by simp [Region.wanted, hg]
  rw [if_pos hw]
  obtain ⟨v', w', hrun, r1, r2, _⟩ := run_append_own (P := P) w base t o.type e i z size bytes h1 h2 h3 h4 h5 h6 h7 v n xs hown ad m c news hn hc h1c b1 b2 hb
  unfold Oper.wp
  simp [execOp, hop, resolve, invoke, builtin, hs, hx, hrun, Result.andThen]
  exact hK v' w' r1 r2

set_option maxRecDepth 20000 in
set_option maxHeartbeats 2000000 in
theorem copy13 (a : Option Addr) (c : Nat) (r : Rg) (w : World) (h : SlF w a r.fr) (hl : r.fr.length ≤ 1000) :
    Calls Try.prog 13 #[rgV a c r] w fun e w' => ∃ a' c', e = .returned (rgV a' c' r) ∧ SlF w' a' r.fr ∧ Below w.heap.size w w' := by
  obtain ⟨j0, j1, j2, j3⟩ := al2 w (.cells (rgC a c r) 24) (.cells #[.slice none 0 0, .int .i64 0] 24)
  obtain ⟨l, hd⟩ := r
  simp only [rgV, rgC] at *
  have hs := h.below j3
  obtain ⟨i9, hi, hz0, hz1, hz2⟩ := info_parts info31
  go_enter Try.func13, Try.ntmps13
  go_wp2_with fail
  generalize World.alloc (World.alloc _ _) _ = W at j0 j1 j2 j3 hs ⊢
  have H0 := toHid j0
  have H1 := toHid j1
  have H3 := toHid j3
  have HS := toHid hs
  have hW1 : w.heap.size + 1 < W.heap.size := by omega
  obtain ⟨p0, p1, p2, p3, p4⟩ := cell2 j0
  obtain ⟨q0, q1, q2, q3, q4⟩ := cell2 j1
  clear j0 j1 j3 hs h
  cases a with
  | none =>
    have hl0 := HS.out.nonil rfl
    subst hl0
    simp only [List.length_nil] at p0 H0 ⊢
    go_region
    all_goals
      go_wp2
      obtain ⟨r0, r1, -⟩ := cell2 (ring_set (u := .slice none 0 0) (v := .int .i64 hd) H1.out)
      refine bodyPost_ret (v := .agg #[.slice none 0 0, .int .i64 hd]) (by simp [results, Try.results13, go_sem, r0, r1]) rfl ?_
      exact ⟨none, 0, rfl, SlF.nil _, (below_two H3.out (by omega)).drew⟩
  | some ad =>
    obtain ⟨ab, ao, asp⟩ := ad
    by_cases hz : l = []
    · subst hz
      simp only [List.length_nil] at p0 H0 ⊢
      go_region
      all_goals
        go_wp2
        obtain ⟨r0, r1, -⟩ := cell2 (ring_set (u := .slice none 0 0) (v := .int .i64 hd) H1.out)
        refine bodyPost_ret (v := .agg #[.slice none 0 0, .int .i64 hd]) (by simp [results, Try.results13, go_sem, r0, r1]) rfl ?_
        exact ⟨none, 0, rfl, SlF.nil _, (below_two H3.out (by omega)).drew⟩
    · have hl0 : 0 < l.length := List.length_pos_iff.mpr hz
      obtain ⟨b, o, hae, -⟩ := HS.out.at 0 hl0
      simp only [Option.some.injEq, Addr.mk.injEq] at hae
      obtain ⟨rfl, rfl, rfl⟩ := hae
      have hsd := (HS.out.below ((Below.refl _ _).drew : Below W.heap.size W W.drew)).src
      have hfl := frs_length l
      go_region_law (refine step_append_own rfl (.tmp 4) (.tmp 6) 22 rfl (w.heap.size + 2) 31 i9 (.agg #[.int .i64 0, .bool false, .int .i64 0]) 3 24 Try.underlying22 hi hz0 hz1 hz2 rfl (by decide) (.slice none 0 0) 0 [] rfl (World.ownsRow_nil _ _ _ _) ⟨ab, ao, none⟩ l.length c (frs l) rfl hfl hsd (frs_one l) (by unfold maxLen; omega) (by omega) (by simp; omega) ?_; intro v' w' hown' hgr; obtain ⟨-, a', c', hv, hs'⟩ := SlF.ofRow (l := l) hown'; subst hv; have hB' : Below W.heap.size W w' := ⟨hgr.os, hgr.tape, hgr.output, hgr.size, fun k hk => hgr.block k hk (by simp [Value.ownBlock])⟩; obtain ⟨x0, x1, x2, x3, x4⟩ := cell2 (box_in' H0.out hB'); obtain ⟨y0, y1, y2, y3, y4⟩ := cell2 (box_in' H1.out hB'); have HY := toHid (box_in' H1.out hB'); have HS' := toHid hs'; have HB' := toHid (below_on H3.out hB'); clear hown' hgr hB' hs')
      all_goals
        go_wp2
        obtain ⟨r0, r1, -⟩ := cell2 (ring_set (u := .slice a' l.length c') (v := .int .i64 hd) HY.out)
        refine bodyPost_ret (v := .agg #[.slice a' l.length c', .int .i64 hd]) (by simp [results, Try.results13, go_sem, r0, r1]) rfl ?_
        first
          | exact ⟨a', c', rfl, slF_two HS'.out HY.out, below_two HB'.out (by omega)⟩
          | exact ⟨a', c', rfl, (slF_two HS'.out HY.out).below (Below.refl _ _).drew, (below_two HB'.out (by omega)).drew⟩
end Go.Proofs.Ythhjjnoeiaaekaa
