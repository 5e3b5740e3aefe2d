/-
  waitsFor (48): for whom somebody waits.
-/
import Derived.Test.YtclppfljengnbaaGreatAh
namespace Go.Proofs.YtclppfljengnbaaGreat
open Go.RowKit Go.Maps Go.Sort Go.Shelf

/-- For whom somebody waits. -/
def For (σ : Sg) (Q : Name → List Nat) (t s : Int) : Prop := ∃ z, σ.pw t = some z ∧ ((s ≠ t ∧ ∃ m, m < 6 ∧ σ.lh (σ.nd z).n m s = true ∧ besB m (joinN (σ.nd z).had (σ.nd z).m) = false) ∨ ∃ pre post u, Q (σ.nd z).n = pre ++ z :: post ∧ u ∈ pre ∧ (σ.nd u).t = s)

theorem neW_same (W : World) (a : Addr) : (binOp .neq 96 (.pointer (some a)) (.pointer (some a))).run Tryz.prog W = .ok (.bool false) W := by
  obtain ⟨j, hj, _⟩ := info76
  have h : ∀ d : Nat, (Op.equalIn (d + 1) 96 (.pointer (some a)) (.pointer (some a))).run Tryz.prog W = .ok true W := fun d => by
    simp [Op.equalIn, run_underlying Tryz.underlying96, sizeOf, typeInfo, hj, run_sameAddr_same]
  simp only [binOp]
  simp [Op.equal, Op.maxDepth, h 9999]
theorem neW_other {W : World} {x y : Nat} {cx cy : Array Value} {tx ty : TypeId} (hne : x ≠ y) (hx : W.heap[x]? = some (.cells cx tx)) (hy : W.heap[y]? = some (.cells cy ty)) :
    (binOp .neq 96 (.pointer (some ⟨x, 0, none⟩)) (.pointer (some ⟨y, 0, none⟩))).run Tryz.prog W = .ok (.bool true) W := by
  obtain ⟨j, hj, hs⟩ := info76
  have h : ∀ d : Nat, (Op.equalIn (d + 1) 96 (.pointer (some ⟨x, 0, none⟩)) (.pointer (some ⟨y, 0, none⟩))).run Tryz.prog W = .ok false W := fun d => by
    simp [Op.equalIn, run_underlying Tryz.underlying96, sizeOf, typeInfo, hj, hs, run_sameAddr_other W (a := ⟨x, 0, none⟩) (b := ⟨y, 0, none⟩) (fun e => hne (by injection e)) hx hy]
  simp only [binOp]
  simp [Op.equal, Op.maxDepth, h 9999]

def slLen : Value → Nat
  | .slice _ n _ => n
  | _ => 0
theorem lastOr_concat (e : Nat) (q : List Nat) (u : Nat) : lastOr e (q ++ [u]) = u := by simp [lastOr, List.getLast_cons]
theorem bel_grown {w W W' : World} {e : TypeId} {size : Nat} {v : Value} {n : Nat} {xs : List Value} (hb : Below w.heap.size w W) (ho : W.ownsRow w.heap.size e size v n xs) (hg : W.grownBy W' v.ownBlock) : Below w.heap.size w W' :=
  hb.trans ⟨hg.os, hg.tape, hg.output, hg.size, fun i hi => hg.block i (by have := hb.size; omega) (fun e => by have := (ownsRow_blk ho e.symm).1; omega)⟩

structure WfI (w : World) (σ : Sg) (pre : List Nat) (ag : List Int) (qa qd : List Nat) (va : Option Addr) (c : Nat) (L : List Int) (W : World) : Prop where
  row : W.ownsRow w.heap.size 3 1 (.slice va L.length c) L.length (L.map (Value.int .i64))
  bel : Below w.heap.size w W
  cut : pre = qa ++ qd
  few : L.length = ag.length + qd.length
  mem : ∀ s, s ∈ L ↔ s ∈ ag ∨ ∃ u, u ∈ qd ∧ (σ.nd u).t = s

theorem WfI.app {w : World} {σ : Sg} {pre : List Nat} {ag : List Int} {qa qd : List Nat} {u : Nat} {va va7 : Option Addr} {c c7 : Nat} {L : List Int} {W w7 : World} (h : WfI w σ pre ag (qa ++ [u]) qd va c L W)
    (ho : w7.ownsRow w.heap.size 3 1 (.slice va7 (L.length + 1) c7) (L.length + 1) (L.map (Value.int .i64) ++ [.int .i64 (σ.nd u).t])) (hg7 : (W.alloc (.cells #[.int .i64 (σ.nd u).t] 3)).grownBy w7 (Value.slice va L.length c).ownBlock) : WfI w σ pre ag qa (u :: qd) va7 c7 (L ++ [(σ.nd u).t]) w7 := by
  have hb6 : Below W.heap.size W (W.alloc (.cells #[.int .i64 (σ.nd u).t] 3)) := (Below.refl _ _).alloc (Nat.le_refl _) _
  have h1a := h.row.alloc (.cells #[.int .i64 (σ.nd u).t] 3)
  refine ⟨by simpa using ho, ?_, by rw [h.cut]; simp, by have := h.few; simp; omega, fun s => ?_⟩
  · refine h.bel.trans ((hb6.mono h.bel.size).trans ⟨hg7.os, hg7.tape, hg7.output, hg7.size, fun i hi => hg7.block i (by have := h.bel.size; have := hb6.size; omega) (fun e => ?_)⟩)
    have := (ownsRow_blk h1a e.symm).1
    omega
  · rw [List.mem_append, h.mem, List.mem_singleton]
    constructor
    · rintro ((h1 | ⟨v, h1, h2⟩) | h1)
      · exact .inl h1
      · exact .inr ⟨v, List.mem_cons_of_mem _ h1, h2⟩
      · exact .inr ⟨u, List.mem_cons_self, h1.symm⟩
    · rintro (h1 | ⟨v, h1, h2⟩)
      · exact .inl (.inl h1)
      · rcases List.mem_cons.1 h1 with rfl | h1
        · exact .inr h2.symm
        · exact .inl (.inr ⟨v, h1, h2⟩)

set_option maxRecDepth 100000 in
set_option maxHeartbeats 4000000 in
theorem waitsFor32 {KT KN : List Lit} {w : World} {σ : Sg} {Q : Name → List Nat} {t : Int} {p : Nat} (h : Mem KT KN w σ) (G : Good σ Q (fun _ => False) (fun _ => False)) (ht : (Lit.int .i64 t).wf = true) (hp : σ.pb t = some p) :
    Calls Tryz.prog 33 #[.pointer (some ⟨σ.T, 0, none⟩), .int .i64 t] w fun e w' => ∃ va c S, e = .returned (.slice va (List.length S) c) ∧ w'.ownsRow w.heap.size 3 1 (.slice va (List.length S) c) (List.length S) (S.map (Value.int .i64)) ∧ Below w.heap.size w w' ∧ S.length ≤ 7000 ∧ S.Pairwise (· < ·) ∧ ∀ s, s ∈ S ↔ For σ Q t s := by
  obtain ⟨hT0, hT1⟩ := h.cellsT
  have hlk := h.hB.look lawI Tryz.underlying65 zero61 (keyI ht)
  rw [show ptF σ.pb (.int .i64 t) = some (ptr (some p)) from by simp [ptF, hp]] at hlk
  simp only [Option.getD_some, ptr_some] at hlk
  have hlk : (Instr.lookup 65 (.map (some σ.B)) (.int .i64 t) false).run Tryz.prog w = .ok (.pointer (some ⟨p, 0, none⟩)) w := hlk
  obtain ⟨_, q1, _⟩ := (h.hP t p hp).cells
  cases hw : σ.pw t with
  | none =>
    rw [hw, ptr_none] at q1
    have HF := toHid (show ∀ s, s ∈ ([] : List Int) ↔ For σ Q t s from fun s => by
      simp only [List.not_mem_nil, false_iff]
      rintro ⟨z, hz, _⟩
      rw [hw] at hz
      cases hz)
    clear h G hp hw
    go_enter Tryz.func33, Tryz.ntmps33
    go_wp2_with fail
    go_ret
    exact ⟨none, 0, [], rfl, World.ownsRow_nil _ _ _ _, Below.refl _ _, by simp, List.Pairwise.nil, HF.out⟩
  | some z =>
    rw [hw, ptr_some] at q1
    obtain ⟨hzQ, hzt⟩ := G.wait t z hw
    have N := G.node _ z hzQ
    have hzW : IsW (σ.own z) := by rw [N.tag]; trivial
    obtain ⟨_, z1, _, _, z4, _⟩ := (h.hW z hzW).cells
    obtain ⟨b, hb⟩ : ∃ b, σ.lb (σ.nd z).n = some b := by
      cases e : σ.lb (σ.nd z).n with
      | some b => exact ⟨b, rfl⟩
      | none => rw [(G.gone _ e).2] at hzQ; cases hzQ
    have hlk2 := h.hA.look lawS Tryz.underlying64 zero83 (keyS (G.nm _ b hb))
    rw [show lkF σ.lb (.string (σ.nd z).n) = some (ptr (some b)) from by simp [lkF, hb]] at hlk2
    simp only [Option.getD_some, ptr_some] at hlk2
    have hlk2 : (Instr.lookup 64 (.map (some σ.A)) (nmV (σ.nd z).n) false).run Tryz.prog w = .ok (.pointer (some ⟨b, 0, none⟩)) w := hlk2
    have HBq := toHid (show Below w.heap.size w w.drew from (Below.refl _ _).drew)
    have HL2 := toHid (show (Instr.lookup 64 (.map (some σ.A)) (nmV (σ.nd z).n) false).run Tryz.prog w.drew = .ok (.pointer (some ⟨b, 0, none⟩)) w.drew from by
      have hlk2 := (h.below (Below.refl _ _).drew).hA.look lawS Tryz.underlying64 zero83 (keyS (G.nm _ b hb))
      rw [show lkF σ.lb (.string (σ.nd z).n) = some (ptr (some b)) from by simp [lkF, hb]] at hlk2
      simp only [Option.getD_some, ptr_some] at hlk2
      exact hlk2)
    have HAg := toHid (fun W (hW : Below w.heap.size w W) => against49 (h.below hW) hb hzW N.m6 (by rw [N.had]; exact G.low _ _))
    obtain ⟨pre, post, hQ⟩ := List.append_of_mem hzQ
    have hring := (G.ring _ b hb).ring
    rw [hQ] at hring
    have hah := hring.at.1
    rw [hah, ptr_some] at z4
    have HU := toHid (show ∀ qa u qd, pre = qa ++ u :: qd → ∀ W, Below w.heap.size w W → W.cell? ⟨u, 0, none⟩ = some (.int .i64 (σ.nd u).t) ∧ W.cell? ⟨u, 4, none⟩ = some (.pointer (some ⟨lastOr (σ.eb (σ.nd z).n) qa, 0, none⟩)) ∧ (binOp .neq 96 (.pointer (some ⟨u, 0, none⟩)) (.pointer (some ⟨σ.eb (σ.nd z).n, 0, none⟩))).run Tryz.prog W = .ok (.bool true) W from fun qa u qd hc W hW => by
      have huQ : u ∈ Q (σ.nd z).n := by rw [hQ, hc]; simp
      have Nu := G.node _ u huQ
      obtain ⟨u0, _, _, _, u4, _⟩ := ((h.below hW).hW u (by rw [Nu.tag]; trivial)).cells
      have hr2 : Ring σ.ah σ.bh (σ.eb (σ.nd z).n) (qa ++ u :: (qd ++ z :: post)) := by
        have := hring
        rw [hc] at this
        simpa using this
      rw [hr2.at.1, ptr_some] at u4
      refine ⟨u0, u4, neW_other (fun e => ?_) ((h.below hW).hW u (by rw [Nu.tag]; trivial)) ((h.below hW).hW (σ.eb (σ.nd z).n) (by rw [(G.ring _ b hb).tagE]; trivial))⟩
      have h1 := Nu.tag
      rw [e, (G.ring _ b hb).tagE] at h1
      cases h1)
    have HE := toHid (show ∀ W, Below w.heap.size w W → W.cell? ⟨b, 7, none⟩ = some (.pointer (some ⟨σ.eb (σ.nd z).n, 0, none⟩)) from fun W hW => by
      obtain ⟨_, _, _, _, _, _, _, e7, _⟩ := ((h.below hW).hL _ b hb).cells
      rw [ptr_some] at e7
      exact e7)
    have HZ4 := toHid (show ∀ W, Below w.heap.size w W → W.cell? ⟨z, 4, none⟩ = some (.pointer (some ⟨lastOr (σ.eb (σ.nd z).n) pre, 0, none⟩)) from fun W hW => by
      rw [← ptr_some, ← hah]
      obtain ⟨_, _, _, _, z4', _⟩ := ((h.below hW).hW z hzW).cells
      exact z4')
    have HPl := toHid (show pre.length ≤ 1000 from by
      have h1 := Good.rowLen h G (σ.nd z).n
      rw [hQ] at h1
      have := h.kt
      simp at h1
      omega)
    have HFor := toHid (show ∀ (ag L : List Int), (∀ s, s ∈ ag ↔ s ≠ (σ.nd z).t ∧ ∃ m, m < 6 ∧ σ.lh (σ.nd z).n m s = true ∧ besB m (joinN (σ.nd z).had (σ.nd z).m) = false) → (∀ s, s ∈ L ↔ s ∈ ag ∨ ∃ u, u ∈ pre ∧ (σ.nd u).t = s) → ∀ s, s ∈ L ↔ For σ Q t s from fun ag L h1 h2 s => by
      rw [h2, h1, hzt]
      constructor
      · rintro (h3 | ⟨u, h3, h4⟩)
        · exact ⟨z, hw, .inl h3⟩
        · exact ⟨z, hw, .inr ⟨pre, post, u, hQ, h3, h4⟩⟩
      · rintro ⟨z', hz', h3⟩
        rw [hw] at hz'
        obtain rfl := Option.some.inj hz'
        rcases h3 with h3 | ⟨pre', post', u, h5, h6, h7⟩
        · exact .inl h3
        · refine .inr ⟨u, ?_, h7⟩
          have hnd := (G.ring _ b hb).nd
          rw [hQ] at h5 hnd
          have : pre = pre' := by
            obtain ⟨d1, d2, d3⟩ := List.nodup_append.1 hnd
            rcases List.append_eq_append_iff.1 h5 with ⟨a', e1, e2⟩ | ⟨c', e1, e2⟩
            · cases a' with
              | nil => simpa using e1.symm
              | cons x a' =>
                simp at e2
                obtain ⟨rfl, e2⟩ := e2
                have : z ∈ post := by rw [e2]; simp
                exact absurd this (List.nodup_cons.1 d2).1
            · cases c' with
              | nil => simpa using e1
              | cons x c' =>
                simp at e2
                obtain ⟨rfl, e2⟩ := e2
                exact absurd rfl (d3 z (by rw [e1]; simp) z (by simp))
          rw [this]
          exact h6)
    obtain ⟨i0, hi0, hz0, hz1, hz2⟩ := info_parts info3
    generalize σ.eb (σ.nd z).n = eb at *
    clear hring hah hQ hzQ hzt h G N hw hp hzW hb z4
    go_enter Tryz.func33, Tryz.ntmps33
    go_wp2_with fail
    refine wp_region_held_drew (S := fun W => W.cell? ⟨σ.T, 0, none⟩ = some (.map (some σ.A)) ∧ W.cell? ⟨z, 1, none⟩ = some (nmV (σ.nd z).n) ∧ (Instr.lookup 64 (.map (some σ.A)) (nmV (σ.nd z).n) false).run Tryz.prog W = .ok (.pointer (some ⟨b, 0, none⟩)) W) (by kernel_rfl) ⟨hT0, z1, HL2.out⟩ (fun hHeld => ?_)
    refine wpAnyH_take (i := 0) (v := ?_) rfl (by kernel_rfl) (by kernel_rfl) (by kernel_rfl) (fun _ _ _ h => h) (Or.inl ⟨by rfl, ?_⟩) (by assumption) ?_
    rotate_left
    · (intro W hSw; (try dsimp only at hSw); go_simp; try with_reducible rfl)
    try simp only [Act.put, List.getElem_toArray, List.getElem_cons_zero, List.setIfInBounds_toArray, List.set_cons_zero, List.set_cons_succ]
    refine wpAnyH_take (i := 1) (v := ?_) rfl (by kernel_rfl) (by kernel_rfl) (by kernel_rfl) (fun _ _ _ h => h) (Or.inl ⟨by rfl, ?_⟩) (by assumption) ?_
    rotate_left
    · (intro W hSw; (try dsimp only at hSw); go_simp; try with_reducible rfl)
    try simp only [Act.put, List.getElem_toArray, List.getElem_cons_zero, List.getElem_cons_succ, List.setIfInBounds_toArray, List.set_cons_zero, List.set_cons_succ]
    refine wpAnyH_take (i := 2) (v := ?_) rfl (by kernel_rfl) (by kernel_rfl) (by kernel_rfl) (fun _ _ _ h => h) (Or.inl ⟨by rfl, ?_⟩) (by assumption) ?_
    rotate_left
    · (intro W hSw; (try dsimp only at hSw); go_simp; try with_reducible rfl)
    try simp only [Act.put, List.getElem_toArray, List.getElem_cons_zero, List.getElem_cons_succ, List.setIfInBounds_toArray, List.set_cons_zero, List.set_cons_succ]
    refine wpAnyH_take (i := 3) (v := ?_) rfl (by kernel_rfl) (by kernel_rfl) (by kernel_rfl) (fun _ _ _ h => h) (Or.inl ⟨by rfl, ?_⟩) (by assumption) ?_
    rotate_left
    · (intro W hSw; (try dsimp only at hSw); go_simp; try with_reducible rfl)
    try simp only [Act.put, List.getElem_toArray, List.getElem_cons_zero, List.getElem_cons_succ, List.setIfInBounds_toArray, List.set_cons_zero, List.set_cons_succ]
    refine wpAnyH_take (i := 4) (v := ?_) rfl (by kernel_rfl) (by kernel_rfl) (by kernel_rfl) (fun _ _ _ h => h) (Or.inl ⟨by rfl, ?_⟩) (by assumption) ?_
    rotate_left
    · (intro W hSw; (try dsimp only at hSw); go_simp; try with_reducible rfl)
    try simp only [Act.put, List.getElem_toArray, List.getElem_cons_zero, List.getElem_cons_succ, List.setIfInBounds_toArray, List.set_cons_zero, List.set_cons_succ]
    refine wpAnyH_take (i := 5) (v := ?_) rfl (by kernel_rfl) (by kernel_rfl) (by kernel_rfl) (fun _ _ _ h => h) (Or.inl ⟨by rfl, ?_⟩) (by assumption) ?_
    rotate_left
    · (intro W hSw; (try dsimp only at hSw); go_simp; try with_reducible rfl)
    try simp only [Act.put, List.getElem_toArray, List.getElem_cons_zero, List.getElem_cons_succ, List.setIfInBounds_toArray, List.set_cons_zero, List.set_cons_succ]
    refine wpAnyH_take (i := 6) (v := ?_) rfl (by kernel_rfl) (by kernel_rfl) (by kernel_rfl) (fun _ _ _ h => h) (Or.inl ⟨by rfl, ?_⟩) (by assumption) ?_
    rotate_left
    · (intro W hSw; (try dsimp only at hSw); go_simp; try with_reducible rfl)
    try simp only [Act.put, List.getElem_toArray, List.getElem_cons_zero, List.getElem_cons_succ, List.setIfInBounds_toArray, List.set_cons_zero, List.set_cons_succ]
    refine wpAnyH_take (i := 7) (v := ?_) rfl (by kernel_rfl) (by kernel_rfl) (by kernel_rfl) (fun _ _ _ h => h) (Or.inl ⟨by rfl, ?_⟩) (by assumption) ?_
    rotate_left
    · (intro W hSw; (try dsimp only at hSw); go_simp; try with_reducible rfl)
    try simp only [Act.put, List.getElem_toArray, List.getElem_cons_zero, List.getElem_cons_succ, List.setIfInBounds_toArray, List.set_cons_zero, List.set_cons_succ]
    refine wpAnyH_take (i := 8) (v := ?_) rfl (by kernel_rfl) (by kernel_rfl) (by kernel_rfl) (fun _ _ _ h => h) (Or.inl ⟨by rfl, ?_⟩) (by assumption) ?_
    rotate_left
    · (intro W hSw; (try dsimp only at hSw); go_simp; try with_reducible rfl)
    try simp only [Act.put, List.getElem_toArray, List.getElem_cons_zero, List.getElem_cons_succ, List.setIfInBounds_toArray, List.set_cons_zero, List.set_cons_succ]
    refine wpAnyH_take (i := 9) (v := ?_) rfl (by kernel_rfl) (by kernel_rfl) (by kernel_rfl) (fun _ _ _ h => h) (Or.inl ⟨by rfl, ?_⟩) (by assumption) ?_
    rotate_left
    · (intro W hSw; (try dsimp only at hSw); go_simp; try with_reducible rfl)
    try simp only [Act.put, List.getElem_toArray, List.getElem_cons_zero, List.getElem_cons_succ, List.setIfInBounds_toArray, List.set_cons_zero, List.set_cons_succ]
    refine wpAnyH_take (i := 10) (v := ?_) rfl (by kernel_rfl) (by kernel_rfl) (by kernel_rfl) (fun _ _ _ h => h) (Or.inl ⟨by rfl, ?_⟩) (by assumption) ?_
    rotate_left
    · (intro W hSw; (try dsimp only at hSw); go_simp; try with_reducible rfl)
    try simp only [Act.put, List.getElem_toArray, List.getElem_cons_zero, List.getElem_cons_succ, List.setIfInBounds_toArray, List.set_cons_zero, List.set_cons_succ]
    refine wpAnyH_done (by kernel_rfl) ?_ _
    clear hHeld
    try simp only [Exit.then]
    go_wp2_with (first
      | (go_at_call 59; refine (HAg.out _ HBq.out).mono ?_; rintro e w1 ⟨va1, c1, L1, rfl, o1, b1, f1, m1⟩; have B1 := toHid (show Below w.heap.size w w1 from HBq.out.trans (b1.mono HBq.out.size)); have I1 := toHid (show WfI w σ pre L1 pre [] va1 c1 L1 w1 from ⟨ownsRow_base o1 HBq.out.size, B1.out, by simp, by simp, fun s => by simp⟩); have F1 := toHid f1; have M1 := toHid m1; have y4 := HZ4.out _ B1.out; clear o1 b1 m1))
    have hpl := HPl.out
    go_loopw [7, 8] (fun v k W => ∃ (qa qd : List Nat) (va : Option Addr) (c : Nat) (L : List Int), k = .pointer (some ⟨lastOr eb qa, 0, none⟩) ∧ v = .slice va L.length c ∧ Hid (WfI w σ pre L1 qa qd va c L W)) (fun v _ _ => (L1.length + pre.length) - slLen v)
    case atStart => exact ⟨pre, [], va1, c1, L1, rfl, rfl, I1⟩
    case round =>
      rename World => W5
      obtain ⟨qa, qd, va, c, L, rfl, rfl, I⟩ := hrel
      have e7 := HE.out _ I.out.bel
      have hfw := I.out.few
      have hcl : pre.length = qa.length + qd.length := by rw [I.out.cut, List.length_append]
      by_cases hqa : qa = []
      · subst hqa
        have hle : lastOr eb [] = eb := rfl
        rw [hle]
        have hsl : (srtI L).length = L.length := by simp [srtI]
        have hst := sortI I.out.row (by omega)
        have HC := toHid (show ∀ w3, w3.ownsRow w.heap.size 3 1 (.slice va L.length c) L.length ((srtI L).map (Value.int .i64)) → Calls Tryz.prog 61 #[.slice va L.length c] w3 fun e' w' => e' = .returned (.slice va (Lib.compact (srtI L)).length c) ∧ w'.ownsRow w.heap.size 3 1 (.slice va (Lib.compact (srtI L)).length c) (Lib.compact (srtI L)).length ((Lib.compact (srtI L)).map (Value.int .i64)) ∧ w3.grownBy w' (Value.slice va L.length c).ownBlock from fun w3 h3 => by
          have := compI (zs := srtI L) (w := w3) (va := va) (c := c) (by rw [hsl]; exact h3) (by rw [hsl]; omega)
          rw [hsl] at this
          exact this)
        have HR := toHid (show (Lib.compact (srtI L)).length ≤ 7000 ∧ (Lib.compact (srtI L)).Pairwise (· < ·) ∧ ∀ s, s ∈ Lib.compact (srtI L) ↔ For σ Q t s from by
          refine ⟨by have := compact_len (srtI L); simp at hcl; omega, cmpI_rise L, HFor.out L1 _ M1.out (fun s => ?_)⟩
          rw [compact_mem, (srtI_perm L).mem_iff, I.out.mem]
          have := I.out.cut
          rw [List.nil_append] at this
          rw [this])
        have hne := neW_same W5 ⟨eb, 0, none⟩
        clear hsl hle hfw hcl
        go_wp2_with (first
          | (go_at_call 60; refine hst.mono ?_; rintro e w3 ⟨rfl, o3, g3⟩; have B3 := toHid (bel_grown I.out.bel I.out.row g3); have O3 := toHid o3; clear o3 g3)
          | (go_at_call 61; refine (HC.out _ O3.out).mono ?_; rintro e w4 ⟨rfl, o4, g4⟩; have B4 := toHid (bel_grown B3.out O3.out g4); have O4 := toHid o4; clear o4 g4))
        go_ret
        exact ⟨va, c, _, rfl, O4.out, B4.out, HR.out⟩
      · obtain ⟨qa', u, rfl⟩ : ∃ qa' u, qa = qa' ++ [u] := ⟨qa.dropLast, qa.getLast hqa, (List.dropLast_concat_getLast hqa).symm⟩
        clear hqa
        rw [lastOr_concat]
        have hc : pre = qa' ++ u :: qd := by rw [I.out.cut]; simp
        obtain ⟨u0, u4, une⟩ := HU.out _ _ _ hc _ I.out.bel
        have HC := toHid hc
        have hw5 := I.out.bel.size
        have hL : L.length < L1.length + pre.length := by simp at hcl; omega
        clear hc hfw hcl u4
        go_wp2_with (first
          | (at_builtin; refine wpList_append_own _ rfl _ _ 44 rfl w.heap.size 3 i0 _ 1 8 Tryz.underlying44 hi0 hz0 hz1 hz2 rfl (by decide) _ L.length _ rfl (I.out.row.alloc _) ⟨W5.heap.size, 0, none⟩ 1 1 [.int .i64 (σ.nd u).t] rfl rfl (cell_one W5 _ _) (by intro v hv; simp at hv; subst hv; rfl) (by unfold maxLen; omega) (by omega) (by simp; omega) ?_; intro v7 w7 hown7 hgrow7 _; obtain ⟨va7, vc7, rfl⟩ := ownsRow_shape hown7; have HX := toHid (I.out.app (va7 := va7) (c7 := vc7) hown7 hgrow7); have u4 := (HU.out _ _ _ HC.out _ HX.out.bel).2.1; clear hown7 hgrow7)
          | fail)
        go_roundw
        case rel => exact ⟨qa', u :: qd, va7, vc7, L ++ [(σ.nd u).t], rfl, by simp, HX⟩
        case measure => simp only [slLen]; omega

end Go.Proofs.YtclppfljengnbaaGreat
