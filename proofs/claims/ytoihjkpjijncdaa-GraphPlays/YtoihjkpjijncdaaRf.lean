/-
  The document's Add, Drop and Gone.
-/
import Derived.Test.YtoihjkpjijncdaaRi
import Derived.Test.YtoihjkpjijncdaaBs
namespace Go.Proofs.Ytoihjkpjijncdaa
open Go.RowKit Go.Maps

set_option maxRecDepth 100000 in
set_option maxHeartbeats 1000000 in
theorem at25x {w : World} {va : Option Addr} {c : Nat} {l : List (Int × Int)} (h : SlE w va l) (hl : l.length ≤ 1000000) (x y : Int) :
    Calls Try.prog 25 #[.slice va l.length c, .agg #[.int .i64 x, .int .i64 y]] w fun e w' => Below w.heap.size w w' ∧ (((x, y) ∉ l ∧ e = .returned (.int .i64 (-1))) ∨ ∃ i : Nat, i < l.length ∧ l[i]? = some (x, y) ∧ e = .returned (.int .i64 i)) := by
  obtain ⟨w0, hw0⟩ : ∃ w0, w0 = w.alloc (.cells #[.int .i64 x, .int .i64 y] 27) := ⟨_, rfl⟩
  have hblk : w0.heap[w.heap.size]? = some (.cells #[.int .i64 x, .int .i64 y] 27) := by rw [hw0]; exact (MapKept.heap_alloc _ _).1
  have hs0 : w0.heap.size = w.heap.size + 1 := by rw [hw0]; simp
  have HB0 : Hid (Below w.heap.size w w0) := by rw [hw0]; exact (Below.refl _ _).alloc (Nat.le_refl _) _
  have HR := toHid (h.below HB0.out)
  have HEB : Hid (∀ W, Below w0.heap.size w0 W → W.cell? ⟨w.heap.size, 0, none⟩ = some (.int .i64 x) ∧ W.cell? ⟨w.heap.size, 1, none⟩ = some (.int .i64 y)) := fun W hW => by
    have h1 : W.heap[w.heap.size]? = some (.cells #[.int .i64 x, .int .i64 y] 27) := (hW.block _ (by omega)).trans hblk
    exact ⟨by simp [World.cell?, h1], by simp [World.cell?, h1]⟩
  have hal := toHid hw0
  have hg27 := Try.guard27
  clear h hblk hw0
  go_enter Try.func25, Try.ntmps25
  go_wp2_with fail
  rw [← hal.out]
  go_loopw [5] (fun k W => ∃ i : Nat, i ≤ l.length ∧ k = .int .i64 i ∧ Hid ((x, y) ∉ l.take i) ∧ Hid (Below w0.heap.size w0 W)) (fun k _ => l.length - (intOf k).toNat)
  case atStart => exact ⟨0, Nat.zero_le _, rfl, toHid (by simp), toHid (Below.refl _ _)⟩
  case round =>
    obtain ⟨i, hi, rfl, HN, HB⟩ := hrel
    have hq2 : 0 ≤ (i : Int) := by omega
    have HLow : Hid (∀ W, Below w0.heap.size w0 W → Below w.heap.size w W) := fun W hW => below_trans HB0.out ⟨hW.os, hW.tape, hW.output, hW.size, fun j hj => hW.block j (by omega)⟩
    by_cases hlt : i < l.length
    · have hq1 : (i : Int) < (l.length : Int) := by omega
      obtain ⟨b, o, rfl, c0, c1⟩ := (HR.out.below HB.out).at_ i hlt
      obtain ⟨d0, d1⟩ := HEB.out _ HB.out
      have HT : Hid (l.take (i + 1) = l.take i ++ [l[i]]) := by show _ = _; rw [List.take_succ_eq_append_getElem hlt]
      have HGi : Hid (l[i]? = some l[i]) := List.getElem?_eq_getElem hlt
      obtain ⟨e, he⟩ : ∃ e, l[i] = e := ⟨_, rfl⟩
      rw [he] at c0 c1 HT HGi
      obtain ⟨u, v⟩ := e
      have HEq := toHid (eql27 u v x y)
      clear he
      by_cases hq : (u, v) = (x, y)
      · have hE : ∀ W, (binOp .eql 27 (.agg #[.int .i64 u, .int .i64 v]) (.agg #[.int .i64 x, .int .i64 y])).run Try.prog W = .ok (.bool true) W := fun W => by rw [HEq.out W, decide_eq_true hq]
        have HQ := toHid hq
        clear hq
        go_wp2_with fail
        go_region
        go_wp2_with fail
        go_ret
        exact ⟨HLow.out _ HB.out.drew, .inr ⟨i, hlt, by rw [HGi.out, HQ.out], rfl⟩⟩
      · have hE : ∀ W, (binOp .eql 27 (.agg #[.int .i64 u, .int .i64 v]) (.agg #[.int .i64 x, .int .i64 y])).run Try.prog W = .ok (.bool false) W := fun W => by rw [HEq.out W, decide_eq_false hq]
        have HQ := toHid hq
        clear hq
        go_wp2_with fail
        go_region
        go_wp2_with fail
        go_roundw
        case rel => exact ⟨i + 1, by omega, by simp, toHid (by rw [HT.out, List.mem_append]; rintro (h | h); exact HN.out h; exact HQ.out (List.mem_singleton.1 h).symm), toHid HB.out.drew⟩
        case measure => first | omega | (simp only [intOf]; omega)
    · obtain rfl : i = l.length := by omega
      have HNo : Hid ((x, y) ∉ l) := by have := HN.out; rw [List.take_length] at this; exact this
      clear HN
      go_wp2_with fail
      go_ret
      exact ⟨HLow.out _ HB.out, .inl ⟨HNo.out, rfl⟩⟩

theorem eC_len (m : List (Int × Int)) : (m.flatMap eC).length = m.length * 2 := by
  induction m with
  | nil => rfl
  | cons a r ih => simp [eC, ih]; omega
theorem eC_one (m : List (Int × Int)) : ∀ u ∈ m.flatMap eC, u.oneCell' = true := by
  intro u hu
  obtain ⟨e, _, h⟩ := List.mem_flatMap.1 hu
  simp [eC] at h
  rcases h with rfl | rfl <;> rfl
theorem seen_below {W W' : World} {B : Nat} {v : Value} {n : Nat} {xs : List Value} (h : W.ownsRow B 27 2 v n xs) (hb : Below W.heap.size W W') : W'.ownsRow B 27 2 v n xs := seen_at h fun i hi => by
  obtain ⟨cur, h1⟩ := seen_kind h hi
  exact hb.block i (Array.getElem?_eq_some_iff.1 h1).1

theorem own_weak {W : World} {B B' e size n : Nat} {v : Value} {xs : List Value} (hb : B' ≤ B) (h : W.ownsRow B e size v n xs) : W.ownsRow B' e size v n xs := by
  refine ⟨h.1, ?_⟩
  rcases h.2 with h1 | ⟨g, cap, cur, rfl, h2, h3⟩
  · exact .inl h1
  · exact .inr ⟨g, cap, cur, rfl, Nat.le_trans hb h2, h3⟩

/-- What Add tells. -/
def addL (m : List (Int × Int)) (e : Int × Int) : List (Int × Int) := if e ∈ m then m else m ++ [e]
theorem addL_map (m : List (Int × Int)) (e : Int × Int) : (addL m e).map leE = addE (m.map leE) (leE e) := by
  have h : leE e ∈ m.map leE ↔ e ∈ m := by
    constructor
    · intro h
      obtain ⟨a, ha, h1⟩ := List.mem_map.1 h
      have h2 : a = e := by
        have a1 := congrArg Prod.fst h1
        have a2 := congrArg Prod.snd h1
        simp [leE] at a1 a2
        exact Prod.ext a1 a2
      exact h2 ▸ ha
    · intro h; exact List.mem_map.2 ⟨e, h, rfl⟩
  unfold addL addE
  by_cases hm : e ∈ m
  · rw [if_pos hm, if_pos (h.2 hm)]
  · rw [if_neg hm, if_neg (fun h1 => hm (h.1 h1)), List.map_append]
    rfl
theorem leE_inj {a b : Int × Int} (h : leE a = leE b) : a = b := by
  have a1 := congrArg Prod.fst h
  have a2 := congrArg Prod.snd h
  simp [leE] at a1 a2
  exact Prod.ext a1 a2

set_option maxRecDepth 100000 in
set_option maxHeartbeats 2000000 in
theorem refAdd {w : World} {B c : Nat} {va : Option Addr} {m : List (Int × Int)} (hR : w.ownsRow B 27 2 (.slice va m.length c) m.length (m.flatMap eC)) (hwf : ∀ e, e ∈ m → (Lit.int .i64 e.1).wf = true ∧ (Lit.int .i64 e.2).wf = true) (hB : B ≤ w.heap.size) (hm : m.length ≤ 1000) (x y : Int) :
    Calls Try.prog 10 #[.slice va m.length c, .agg #[.int .i64 x, .int .i64 y]] w fun e w' => ∃ va' c', e = .returned (.tuple #[.slice va' (addL m (x, y)).length c', .bool (decide ((x, y) ∉ m))]) ∧ w'.ownsRow B 27 2 (.slice va' (addL m (x, y)).length c') (addL m (x, y)).length ((addL m (x, y)).flatMap eC) ∧ Below w.heap.size w w' := by
  obtain ⟨j0, hj0, hy0, hy1, hy2⟩ := info_parts inf27
  obtain ⟨w0, hw0⟩ : ∃ w0, w0 = w.alloc (.cells #[.int .i64 x, .int .i64 y] 27) := ⟨_, rfl⟩
  have hblk : w0.heap[w.heap.size]? = some (.cells #[.int .i64 x, .int .i64 y] 27) := by rw [hw0]; exact (MapKept.heap_alloc _ _).1
  have hs0 : w0.heap.size = w.heap.size + 1 := by rw [hw0]; simp
  have HB0 : Hid (Below w.heap.size w w0) := by rw [hw0]; exact (Below.refl _ _).alloc (Nat.le_refl _) _
  have HR := toHid (seen_below hR HB0.out)
  have HEB : Hid (∀ W, Below w0.heap.size w0 W → W.cell? ⟨w.heap.size, 0, none⟩ = some (.int .i64 x) ∧ W.cell? ⟨w.heap.size, 1, none⟩ = some (.int .i64 y)) := fun W hW => by
    have h1 : W.heap[w.heap.size]? = some (.cells #[.int .i64 x, .int .i64 y] 27) := (hW.block _ (by omega)).trans hblk
    exact ⟨by simp [World.cell?, h1], by simp [World.cell?, h1]⟩
  have hal := toHid hw0
  have HLow : Hid (∀ W, Below w0.heap.size w0 W → Below w.heap.size w W) := fun W hW => below_trans HB0.out ⟨hW.os, hW.tape, hW.output, hW.size, fun j hj => hW.block j (by omega)⟩
  have HSl := toHid (sle_row HR.out hwf)
  have HAt := toHid (at25x (c := c) HSl.out (by omega) x y)
  rw [hw0] at HAt
  obtain ⟨d0, d1⟩ := HEB.out _ (Below.refl _ _)
  rw [hw0] at d0 d1
  clear hR hblk hw0 hwf
  go_enter Try.func10, Try.ntmps10
  go_wp2_with fail
  refine HAt.out.mono ?_
  rw [← hal.out]
  clear d0 d1
  rintro e w1 ⟨hb1, he⟩
  obtain ⟨d0, d1⟩ := HEB.out _ hb1
  have HB1 := toHid hb1
  have HR1 := toHid (seen_below HR.out hb1)
  rcases he with ⟨hno, rfl⟩ | ⟨i, hi, hig, rfl⟩
  · have HNo := toHid hno
    have HAd : Hid (addL m (x, y) = m ++ [(x, y)]) := if_neg hno
    clear hno hb1
    have HDec : Hid (decide ((x, y) ∉ m) = true) := decide_eq_true HNo.out
    have tok1 : True := trivial
    cases va with
    | none =>
      have hm0 : m = [] := by
        rcases HR.out.2 with ⟨_, h⟩ | ⟨g, cap, cur, h, _⟩
        · exact List.eq_nil_of_length_eq_zero h
        · cases h
      have hc0 : c = 0 := by
        rcases HR.out.2 with ⟨h, _⟩ | ⟨g, cap, cur, h, _⟩
        · injection h
        · cases h
      subst hm0 hc0
      go_wp2_with (first
        | (at_builtin; have _t := tok1; refine wpList_append_own_none rfl _ _ 25 rfl w.heap.size 27 j0 2 Try.underlying25 hj0 _ 0 [] rfl (World.ownsRow_nil _ _ _ _) rfl ?_; clear tok1)
        | (at_builtin; refine wpList_append_own _ rfl _ _ 25 rfl w.heap.size 27 j0 _ 2 16 Try.underlying25 hj0 hy0 hy1 hy2 rfl (by decide) _ 0 [] rfl (World.ownsRow_nil _ _ _ _) ⟨w1.heap.size, 0, none⟩ 1 1 [.int .i64 x, .int .i64 y] rfl rfl (cell_two w1 _ _ _) (by intro q hq; simp at hq; rcases hq with rfl | rfl <;> rfl) (by unfold maxLen; omega) (by omega) (by have := HB1.out.size; simp; omega) ?_; intro v7 w7 hown7 hgrow7 _)
        | fail)
      obtain ⟨va7, vc7, hv7⟩ : ∃ a c, v7 = .slice a (0 + 1) c := by
        rcases hown7.2 with ⟨_, h0⟩ | ⟨g, cap, cur, rfl, _⟩
        · cases h0
        · exact ⟨_, _, rfl⟩
      subst hv7
      go_ret2
      refine ⟨va7, vc7, by rw [HAd.out, HDec.out]; rfl, own_weak hB (by rw [HAd.out]; simpa [eC] using hown7), HLow.out _ ?_⟩
      exact ((HB1.out).alloc HB1.out.size _).grown hgrow7 (Nat.le_trans HB1.out.size (by simp)) (fun j hj => by cases hj)
    | some ad =>
      obtain ⟨g, rfl⟩ : ∃ g, ad = ⟨g, 0, none⟩ := by
        rcases HR.out.2 with ⟨h, _⟩ | ⟨g, cap, cur, h, _⟩
        · cases h
        · injection h with h1 _ _; exact ⟨g, Option.some.inj h1⟩
      go_wp2_with (first
        | (at_builtin; have _t := tok1; refine wpList_append_own _ rfl _ _ 25 rfl w.heap.size 27 j0 _ 2 16 Try.underlying25 hj0 hy0 hy1 hy2 rfl (by decide) _ 0 [] rfl (World.ownsRow_nil _ _ _ _) ⟨g, 0, none⟩ m.length c (m.flatMap eC) rfl (eC_len m) (HR1.out.cells (g := g) rfl) (eC_one m) (by unfold maxLen; omega) (by omega) (by have := HB1.out.size; omega) ?_; intro v2 w2 hown2 hgrow2 _; have hbe := HB1.out.grown hgrow2 HB1.out.size (fun j hj => by cases hj); have HB2 := toHid hbe; obtain ⟨e0, e1⟩ := HEB.out _ hbe; have HR2 := toHid (hown2.alloc (.cells #[.int .i64 x, .int .i64 y] 27)); clear hown2 hgrow2 hbe tok1)
        | (at_builtin; refine wpList_append_own _ rfl _ _ 25 rfl w.heap.size 27 j0 _ 2 16 Try.underlying25 hj0 hy0 hy1 hy2 rfl (by decide) _ (0 + m.length) _ rfl HR2.out ⟨w2.heap.size, 0, none⟩ 1 1 [.int .i64 x, .int .i64 y] rfl rfl (cell_two w2 _ _ _) (by intro q hq; simp at hq; rcases hq with rfl | rfl <;> rfl) (by unfold maxLen; omega) (by omega) (by have := HB2.out.size; simp; omega) ?_; intro v7 w7 hown7 hgrow7 _)
        | fail)
      obtain ⟨va7, vc7, hv7⟩ : ∃ a c, v7 = .slice a (0 + m.length + 1) c := by
        rcases hown7.2 with ⟨_, h0⟩ | ⟨g, cap, cur, rfl, _⟩
        · cases h0
        · exact ⟨_, _, rfl⟩
      subst hv7
      go_ret2
      refine ⟨va7, vc7, by rw [HAd.out, HDec.out]; simp, own_weak hB (by rw [HAd.out]; simpa [eC] using hown7), ?_⟩
      have h9 : Below w.heap.size w (w2.alloc (.cells #[.int .i64 x, .int .i64 y] 27)) := (HLow.out _ HB2.out).alloc (Nat.le_trans (by omega) HB2.out.size) _
      exact h9.grown hgrow7 h9.size (fun j hj => (HR2.out.lt j hj).1)
  · have HAd : Hid (addL m (x, y) = m) := if_pos (List.mem_of_getElem? hig)
    have HDec : Hid (decide ((x, y) ∉ m) = false) := decide_eq_false (fun h => h (List.mem_of_getElem? hig))
    have hi2 : 0 ≤ (i : Int) := by omega
    clear hig
    go_wp2_with fail
    go_ret2
    refine ⟨va, c, by rw [HAd.out, HDec.out]; rfl, by rw [HAd.out]; exact HR1.out, HLow.out _ HB1.out⟩

end Go.Proofs.Ytoihjkpjijncdaa
