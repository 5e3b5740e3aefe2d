/-
  Edges (16): who waits for whom.
-/
import Derived.Test.YtclppfljengnbaaGreatWf
import Derived.Test.YtclppfljengnbaaGreatAt
namespace Go.Proofs.YtclppfljengnbaaGreat
open Go.RowKit Go.Maps Go.Sort Go.Shelf

theorem info50 : (Tryz.prog.info? 78).map (fun i => (i.zero, i.size, i.bytes)) = some (some (.agg #[.int .i64 0, .int .i64 0]), 2, 16) := by kernel_rfl

def ecells : List (Int × Int) → List Value
  | [] => []
  | e :: l => .int .i64 e.1 :: .int .i64 e.2 :: ecells l
theorem ecells_append (l k : List (Int × Int)) : ecells (l ++ k) = ecells l ++ ecells k := by
  induction l with
  | nil => rfl
  | cons e l ih => simp [ecells, ih]
theorem ecells_len (l : List (Int × Int)) : (ecells l).length = 2 * l.length := by
  induction l with
  | nil => rfl
  | cons e l ih => simp [ecells, ih]; omega

def ltE (x y : Int × Int) : Prop := x.1 < y.1 ∨ x.1 = y.1 ∧ x.2 < y.2

/-- Edges gathered: those of the transactions of ts, and of t those to S. -/
structure EdI (w : World) (σ : Sg) (Q : Name → List Nat) (ts : List Int) (t : Int) (S : List Int) (M : Nat) (va : Option Addr) (c : Nat) (E : List (Int × Int)) (W : World) : Prop where
  row : W.ownsRow w.heap.size 78 2 (.slice va E.length c) E.length (ecells E)
  bel : Below w.heap.size w W
  few : E.length ≤ M
  mem : ∀ a b, (a, b) ∈ E ↔ (a ∈ ts ∧ For σ Q a b) ∨ (a = t ∧ b ∈ S)
  rise : E.Pairwise ltE

section
variable {w : World} {σ : Sg} {Q : Name → List Nat} {ts : List Int} {t : Int} {S : List Int} {M : Nat} {va : Option Addr} {c : Nat} {E : List (Int × Int)} {W : World}

theorem row_at {B c i : Nat} {a : Option Addr} {zs : List Int} (h : W.ownsRow B 3 1 (.slice a zs.length c) zs.length (zs.map (Value.int .i64))) (hi : i < zs.length) : ∃ g, a = some ⟨g, 0, none⟩ ∧ W.cell? ⟨g, i, none⟩ = some (.int .i64 zs[i]) := by
  rcases h.2 with ⟨_, e⟩ | ⟨g, cap, cur, hv, hg, hh, _⟩
  · omega
  · injection hv with e1 e2 e3
    subst e1
    refine ⟨g, rfl, ?_⟩
    have := h.cells (g := g) rfl i (.int .i64 zs[i]) (by simp [hi])
    rw [addr_add] at this
    exact this

theorem row_keep {B : Nat} {v vE : Value} {n m : Nat} {xs ys : List Value} {w7 : World} {o : Obj} (hR : W.ownsRow B 3 1 v n xs) (hE : W.ownsRow B 78 2 vE m ys) (hg : (W.alloc o).grownBy w7 vE.ownBlock) : w7.ownsRow B 3 1 v n xs := by
  have hR1 := hR.alloc o
  have hE1 := hE.alloc o
  refine ownsRow_at hR1 fun g hg' => hg.block g (ownsRow_blk hR1 hg').2 (fun e => ?_)
  rcases hE1.2 with ⟨h4, _⟩ | ⟨g1, cap, cur, h4, _, h5, _⟩
  · rw [h4] at e; cases e
  · rw [h4] at e
    have e : g1 = g := by simpa [Value.ownBlock] using e.symm
    rcases hR1.2 with ⟨h6, _⟩ | ⟨g2, cap2, cur2, h6, _, h7, _⟩
    · rw [h6] at hg'; cases hg'
    · rw [h6] at hg'
      have hg' : g2 = g := by simpa [Value.ownBlock] using hg'
      rw [e] at h5
      rw [hg', h5] at h7
      cases h7

theorem EdI.below (h : EdI w σ Q ts t S M va c E W) {W' : World} (hb : Below W.heap.size W W') : EdI w σ Q ts t S M va c E W' :=
  ⟨ownsRow_at h.row fun g hg => hb.block g (ownsRow_blk h.row hg).2, bnext h.bel hb, h.few, h.mem, h.rise⟩

theorem EdI.app (h : EdI w σ Q ts t S M va c E W) {s : Int} {w7 : World} {va7 : Option Addr} {c7 : Nat} (hts : ∀ a, a ∈ ts → a < t) (hS : ∀ b, b ∈ S → b < s)
    (ho : w7.ownsRow w.heap.size 78 2 (.slice va7 (E.length + 1) c7) (E.length + 1) (ecells E ++ [.int .i64 t, .int .i64 s])) (hg7 : (W.alloc (.cells #[.int .i64 t, .int .i64 s] 78)).grownBy w7 (Value.slice va E.length c).ownBlock) : EdI w σ Q ts t (S ++ [s]) (M + 1) va7 c7 (E ++ [(t, s)]) w7 := by
  have hb6 : Below W.heap.size W (W.alloc (.cells #[.int .i64 t, .int .i64 s] 78)) := (Below.refl _ _).alloc (Nat.le_refl _) _
  have h1a := h.row.alloc (.cells #[.int .i64 t, .int .i64 s] 78)
  refine ⟨by rw [ecells_append]; simpa [ecells] using ho, bel_grown (bnext h.bel hb6) h1a hg7, by have := h.few; simp; omega, fun a b => ?_, ?_⟩
  · rw [List.mem_append, h.mem, List.mem_append, List.mem_singleton, List.mem_singleton, Prod.mk.injEq]
    constructor
    · rintro ((h1 | ⟨h1, h2⟩) | ⟨h1, h2⟩)
      · exact .inl h1
      · exact .inr ⟨h1, .inl h2⟩
      · exact .inr ⟨h1, .inr h2⟩
    · rintro (h1 | ⟨h1, h2 | h2⟩)
      · exact .inl (.inl h1)
      · exact .inl (.inr ⟨h1, h2⟩)
      · exact .inr ⟨h1, h2⟩
  · refine List.pairwise_append.2 ⟨h.rise, List.pairwise_singleton _ _, fun x hx y hy => ?_⟩
    obtain rfl := List.mem_singleton.1 hy
    rcases (h.mem x.1 x.2).1 hx with ⟨h1, _⟩ | ⟨h1, h2⟩
    · exact .inl (hts _ h1)
    · exact .inr ⟨h1, hS _ h2⟩

theorem EdI.close (h : EdI w σ Q ts t S M va c E W) {M' : Nat} (hM : M ≤ M') (hS : ∀ s, s ∈ S ↔ For σ Q t s) (t' : Int) : EdI w σ Q (ts ++ [t]) t' [] M' va c E W :=
  ⟨h.row, h.bel, Nat.le_trans h.few hM, fun a b => by
    rw [h.mem]
    simp only [List.mem_append, List.mem_singleton, List.not_mem_nil, and_false, or_false]
    constructor
    · rintro (⟨h1, h2⟩ | ⟨h1, h2⟩)
      · exact ⟨.inl h1, h2⟩
      · subst h1; exact ⟨.inr rfl, (hS _).1 h2⟩
    · rintro ⟨h1 | h1, h2⟩
      · exact .inl ⟨h1, h2⟩
      · subst h1; exact .inr ⟨rfl, (hS _).2 h2⟩, h.rise⟩
theorem EdI.other (h : EdI w σ Q ts t [] M va c E W) (t' : Int) : EdI w σ Q ts t' [] M va c E W :=
  ⟨h.row, h.bel, h.few, fun a b => by rw [h.mem]; simp, h.rise⟩
end

set_option maxRecDepth 100000 in
set_option maxHeartbeats 4000000 in
theorem edges16 {KT KN : List Lit} {w : World} {σ : Sg} {Q : Name → List Nat} (h : Mem KT KN w σ) (G : Good σ Q (fun _ => False) (fun _ => False)) :
    Calls Tryz.prog 12 #[.pointer (some ⟨σ.T, 0, none⟩)] w fun e w' => ∃ va c E, e = .returned (.slice va (List.length E) c) ∧ w'.ownsRow w.heap.size 78 2 (.slice va (List.length E) c) (List.length E) (ecells E) ∧ Below w.heap.size w w' ∧ E.length ≤ 7000000 ∧ E.Pairwise ltE ∧ ∀ a b, (a, b) ∈ E ↔ σ.pb a ≠ none ∧ For σ Q a b := by
  have htx := txns7 h
  have HWf := toHid (fun W (hW : Below w.heap.size w W) (t : Int) (ht : σ.pb t ≠ none) => show Calls Tryz.prog 33 #[.pointer (some ⟨σ.T, 0, none⟩), .int .i64 t] W fun e w' => ∃ va c S, e = .returned (.slice va (List.length S) c) ∧ w'.ownsRow W.heap.size 3 1 (.slice va (List.length S) c) (List.length S) (S.map (Value.int .i64)) ∧ Below W.heap.size W w' ∧ S.length ≤ 7000 ∧ S.Pairwise (· < ·) ∧ ∀ s, s ∈ S ↔ For σ Q t s from by
    cases hp : σ.pb t with
    | none => exact absurd hp ht
    | some p => exact waitsFor32 (h.below hW) G (G.wf t p hp).1 hp)
  obtain ⟨j0, hj0, hy0, hy1, hy2⟩ := info_parts info50
  clear h G
  go_enter Tryz.func12, Tryz.ntmps12
  go_wp2_with (first
    | (go_at_call 15; refine htx.mono ?_; rintro e w2 ⟨v, ts, rfl, o2, p2, mm2, f2, b2⟩; obtain ⟨a2, c2, rfl⟩ := ownsRow_shape o2; have O2 := toHid o2; have PT := toHid p2; have MM := toHid mm2; have B2 := toHid b2; clear o2 p2 mm2 b2))
  go_loopw [3, 11] (fun v k W => ∃ (i : Nat) (va : Option Addr) (c : Nat) (E : List (Int × Int)), i ≤ ts.length ∧ k = .int .i64 i ∧ v = .slice va E.length c ∧ Hid (EdI w σ Q (ts.take i) 0 [] (i * 7000) va c E W) ∧ Hid (W.ownsRow w.heap.size 3 1 (.slice a2 ts.length c2) ts.length (ts.map (Value.int .i64)))) (fun _ k _ => ts.length - (intOf k).toNat)
  case atStart => exact ⟨0, none, 0, [], Nat.zero_le _, rfl, rfl, toHid ⟨World.ownsRow_nil _ _ _ _, B2.out, by simp, fun a b => by simp, List.Pairwise.nil⟩, O2⟩
  case round =>
    rename World => W1
    obtain ⟨i, va, c, E, hi, rfl, rfl, I, R⟩ := hrel
    have hq0 : 0 ≤ (i : Int) := by omega
    by_cases hlt : i < ts.length
    · have hq1 : (i : Int) < (ts.length : Int) := by omega
      obtain ⟨g2, rfl, hc2⟩ := row_at R.out hlt
      have HTk := toHid (show ts.take (i + 1) = ts.take i ++ [ts[i]] from List.take_succ_eq_append_getElem hlt)
      have HLow := toHid (show ∀ a, a ∈ ts.take i → a < ts[i] from fun a ha => by
        obtain ⟨k, hk, rfl⟩ := List.getElem_of_mem ha
        rw [List.getElem_take]
        simp at hk
        exact List.pairwise_iff_getElem.1 PT.out k i (by omega) hlt (by omega))
      have hcw := HWf.out W1 I.out.bel ts[i] ((MM.out _).1 (List.getElem_mem hlt))
      obtain ⟨ti, hti⟩ : ∃ ti, ts[i] = ti := ⟨_, rfl⟩
      rw [hti] at hc2 HTk HLow hcw
      clear hti
      go_wp2_with (first
        | (go_at_call 33; refine hcw.mono ?_; rintro e w3 ⟨va3, c3, S, rfl, o3, b3, f3, p3, m3⟩; have O3 := toHid (ownsRow_base o3 I.out.bel.size); have B3 := toHid b3; have P3 := toHid p3; have M3 := toHid m3; clear o3 b3 p3 m3))
      have R3 := toHid (show w3.ownsRow w.heap.size 3 1 (.slice (some ⟨g2, 0, none⟩) ts.length c2) ts.length (ts.map (Value.int .i64)) from ownsRow_at R.out fun g hg => B3.out.block g (ownsRow_blk R.out hg).2)
      go_loopw [3, 19] (fun v k W => ∃ (j : Nat) (va' : Option Addr) (c' : Nat) (E' : List (Int × Int)), j ≤ S.length ∧ k = .int .i64 j ∧ v = .slice va' E'.length c' ∧ Hid (EdI w σ Q (ts.take i) ti (S.take j) (i * 7000 + j) va' c' E' W) ∧ Hid (W.ownsRow w.heap.size 3 1 (.slice (some ⟨g2, 0, none⟩) ts.length c2) ts.length (ts.map (Value.int .i64))) ∧ Hid (W.ownsRow w.heap.size 3 1 (.slice va3 S.length c3) S.length (S.map (Value.int .i64)))) (fun _ k _ => S.length - (intOf k).toNat)
      case atStart => exact ⟨0, va, c, E, Nat.zero_le _, rfl, rfl, toHid (by have := (I.out.other ti).below B3.out; simpa using this), R3, O3⟩
      case round =>
        rename World => W5
        obtain ⟨j, va', c', E', hj, rfl, rfl, I5, R5, S5⟩ := hrel
        have hr0 : 0 ≤ (j : Int) := by omega
        by_cases hlt2 : j < S.length
        · have hr1 : (j : Int) < (S.length : Int) := by omega
          obtain ⟨g3, rfl, hc3⟩ := row_at S5.out hlt2
          have HTk2 := toHid (show S.take (j + 1) = S.take j ++ [S[j]] from List.take_succ_eq_append_getElem hlt2)
          have HLow2 := toHid (show ∀ a, a ∈ S.take j → a < S[j] from fun a ha => by
            obtain ⟨k, hk, rfl⟩ := List.getElem_of_mem ha
            rw [List.getElem_take]
            simp at hk
            exact List.pairwise_iff_getElem.1 P3.out k j (by omega) hlt2 (by omega))
          obtain ⟨sj, hsj⟩ : ∃ sj, S[j] = sj := ⟨_, rfl⟩
          rw [hsj] at hc3 HTk2 HLow2
          have hfw := I5.out.few
          have hw5 := I5.out.bel.size
          clear hsj
          go_wp2_with (first
            | (at_builtin; refine wpList_append_own _ rfl _ _ 39 rfl w.heap.size 78 j0 _ 2 16 Tryz.underlying39 hj0 hy0 hy1 hy2 rfl (by decide) _ E'.length _ rfl (I5.out.row.alloc _) ⟨W5.heap.size, 0, none⟩ 1 1 [.int .i64 ti, .int .i64 sj] rfl rfl (cell_two W5 _ _ _) (by intro v hv; simp at hv; rcases hv with rfl | rfl <;> rfl) (by unfold maxLen; omega) (by omega) (by simp; omega) ?_; intro v7 w7 hown7 hgrow7 _; obtain ⟨va7, vc7, rfl⟩ := ownsRow_shape hown7; have HX := toHid (I5.out.app (va7 := va7) (c7 := vc7) HLow.out HLow2.out hown7 hgrow7); have R7 := toHid (row_keep R5.out I5.out.row hgrow7); have S7 := toHid (row_keep S5.out I5.out.row hgrow7); clear hown7 hgrow7)
            | fail)
          go_roundw
          case rel => exact ⟨j + 1, va7, vc7, E' ++ [(ti, sj)], by omega, by simp, by simp, toHid (by rw [HTk2.out]; exact HX.out), R7, S7⟩
          case measure => first | omega | (simp only [intOf]; omega)
        · obtain rfl : j = S.length := by omega
          have HX := toHid (show EdI w σ Q (ts.take (i + 1)) 0 [] ((i + 1) * 7000) va' c' E' W5 from by
            have := I5.out
            rw [List.take_length] at this
            rw [HTk.out]
            exact this.close (by omega) M3.out 0)
          go_wp2_with fail
          go_roundw
          case rel => exact ⟨i + 1, va', c', E', by omega, by simp, rfl, HX, R5⟩
          case measure => first | omega | (simp only [intOf]; omega)
    · obtain rfl : i = ts.length := by omega
      have HX := toHid (show E.length ≤ 7000000 ∧ E.Pairwise ltE ∧ ∀ a b, (a, b) ∈ E ↔ σ.pb a ≠ none ∧ For σ Q a b from ⟨by have := I.out.few; omega, I.out.rise, fun a b => by
        rw [I.out.mem, List.take_length, MM.out]
        simp⟩)
      go_wp2_with fail
      go_ret
      exact ⟨va, c, E, rfl, I.out.row, I.out.bel, HX.out⟩

end Go.Proofs.YtclppfljengnbaaGreat
