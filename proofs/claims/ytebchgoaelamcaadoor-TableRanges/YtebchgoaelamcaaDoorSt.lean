/-
  Whether pairs are the same; sorted ones.
-/
import Derived.Test.YtebchgoaelamcaaDoorSs
import Derived.BigQuiet
namespace Go.Proofs.YtebchgoaelamcaaDoor
open Go.RowKit
set_option maxRecDepth 100000

/-- A slice of pairs. -/
structure SlQ (w : World) (a : Option Addr) (l : List Pq) : Prop where
  nonil : a = none → l = []
  cells : ∀ x, a = some x → ∀ i t, l[i]? = some t → x.spot = none ∧ w.cell? ⟨x.block, x.off + i * 2, none⟩ = some (.string (txt t.1)) ∧ w.cell? ⟨x.block, x.off + i * 2 + 1, none⟩ = some (.string (txt t.2))
theorem SlQ.below {w w' : World} {a : Option Addr} {l : List Pq} (h : SlQ w a l) (hb : Below w.heap.size w w') : SlQ w' a l :=
  ⟨h.nonil, fun x hx i t ht => by
    obtain ⟨h1, h2, h3⟩ := h.cells x hx i t ht
    have hlt := World.block_lt_of_cell? _ _ h2
    exact ⟨h1, by rw [hb.cell (p := ⟨x.block, x.off + i * 2, none⟩) hlt]; exact h2, by rw [hb.cell (p := ⟨x.block, x.off + i * 2 + 1, none⟩) hlt]; exact h3⟩⟩
theorem SlQ.at {w : World} {a : Option Addr} {l : List Pq} (h : SlQ w a l) (i : Nat) (hi : i < l.length) : ∃ b o, a = some ⟨b, o, none⟩ ∧ b < w.heap.size ∧
    w.cell? ⟨b, o + i * 2, none⟩ = some (.string (txt l[i].1)) ∧ w.cell? ⟨b, o + i * 2 + 1, none⟩ = some (.string (txt l[i].2)) := by
  cases a with
  | none => have := h.nonil rfl; subst this; simp at hi
  | some x =>
    obtain ⟨h1, h2, h3⟩ := h.cells x rfl i l[i] (List.getElem?_eq_getElem hi)
    obtain ⟨b, o, sp⟩ := x
    simp at h1
    subst h1
    exact ⟨b, o, rfl, World.block_lt_of_cell? _ _ h2, h2, h3⟩
theorem slQ_of_own {w : World} {B : Nat} {a : Option Addr} {n c : Nat} {l : List Pq} (h : w.ownsRow B 74 2 (.slice a n c) l.length (pcells l)) : SlQ w a l := by
  rcases h.2 with ⟨h1, h2⟩ | ⟨g, cap, cur, h1, hB, hh, hc, hm, hs, ht⟩
  · have hl : l = [] := List.eq_nil_of_length_eq_zero h2
    subst hl
    exact ⟨fun _ => rfl, fun x _ i t ht => by simp at ht⟩
  · injection h1 with e1 e2 e3
    refine ⟨fun e => by rw [e] at e1; simp at e1, fun x hx i t hit => ?_⟩
    rw [e1] at hx
    simp at hx
    subst hx
    have hi : i < l.length := (List.getElem?_eq_some_iff.1 hit).1
    have q0 := pcells_at l i t hit 0 (by decide)
    have q1 := pcells_at l i t hit 1 (by decide)
    rw [← ht, List.getElem?_take_of_lt (by omega), Array.getElem?_toList] at q0 q1
    simp [encP] at q0 q1
    exact ⟨rfl, by simp [World.cell?, hh, q0], by simp [World.cell?, hh, q1]⟩

theorem Tryd.held69 : Tryd.prog.stoodInHeld 74 = false := by kernel_rfl
theorem Tryd.struct69 : Tryd.prog.underlying 74 = some (.struct (Tryd.prog.fieldsOf 74)) := by kernel_rfl
theorem Tryd.guard69 : Tryd.prog.eqGuardType Tryd.prog.depth 74 = false := by kernel_rfl
theorem pq_eq (k v k' v' : ByteArray) (w : World) :
    (Op.equalIn 10000 74 (.agg #[.string k, .string v]) (.agg #[.string k', .string v'])).run Tryd.prog w = .ok ((k.toList == k'.toList) && (v.toList == v'.toList)) w := by
  rw [show (10000 : Nat) = 9999 + 1 from rfl, run_equalIn_struct w 9999 74 _ _ Tryd.struct69 Tryd.held69]
  simp [Program.fieldsOf, Tryd.underlying74, Op.eqFields, go_sem]
  repeat' split
  all_goals simp_all
theorem pq_same (t u : Pq) (w : World) :
    (Op.equalIn 10000 74 (.agg #[.string (txt t.1), .string (txt t.2)]) (.agg #[.string (txt u.1), .string (txt u.2)])).run Tryd.prog w = .ok (decide (t = u)) w := by
  rw [pq_eq]
  congr 1
  obtain ⟨b, c⟩ := t
  obtain ⟨b', c'⟩ := u
  simp only [toList_txt]
  rw [Bool.eq_iff_iff]
  simp
theorem take_eq_succ {α : Type} (l m : List α) (k : Nat) (hl : k < l.length) (hm : k < m.length) (h : l.take k = m.take k) (e : l[k] = m[k]) : l.take (k + 1) = m.take (k + 1) := by
  rw [List.take_succ_eq_append_getElem hl, List.take_succ_eq_append_getElem hm, h, e]
theorem below_drewN' {B : Nat} {w W : World} (h : Below B w W) (n : Nat) : Below B w (W.drewN n) := by
  induction n with
  | zero => exact h
  | succ n ih => exact ih.drew

set_option maxRecDepth 20000 in
set_option maxHeartbeats 1000000 in
theorem samepairs_any (a : Option Addr) (c : Nat) (l : List Pq) (a2 : Option Addr) (c2 : Nat) (m : List Pq) (w : World) (h : SlQ w a l) (h2 : SlQ w a2 m) (hl : l.length ≤ 1000000) (hm : m.length ≤ 1000000) :
    Calls Tryd.prog 26 #[.slice a l.length c, .slice a2 m.length c2] w fun e w' => e = .returned (.bool (decide (l = m))) ∧ Below w.heap.size w w' := by
  by_cases hlen : l.length = m.length
  · rw [← hlen]
    go_enter Tryd.func26, Tryd.ntmps26
    go_wp2_with fail
    go_loopw [5] (fun i wr => ∃ k : Nat, k ≤ l.length ∧ i = .int .i64 k ∧ l.take k = m.take k ∧ Below w.heap.size w wr) (fun i _ => l.length - (intOf i).toNat)
    case atStart => exact ⟨0, Nat.zero_le _, rfl, by simp, Below.refl _ _⟩
    case round =>
      obtain ⟨k, hk, rfl, htk, hB⟩ := hrel
      have HTK := (show Hid _ from htk)
      have HB := (show Hid _ from hB)
      have hsl := h.below hB
      have hsm := h2.below hB
      clear htk
      by_cases hlt : k < l.length
      · have hlm : k < m.length := by omega
        obtain ⟨b, o, rfl, hbl, c0, c1⟩ := hsl.at k hlt
        obtain ⟨b2, o2, rfl, hbl2, d0, d1⟩ := hsm.at k hlm
        clear hB
        have hlm' : (k : Int) < (l.length : Int) := by omega
        have hE := pq_same l[k] m[k]
        have hge := Tryd.guard69
        by_cases heq : l[k] = m[k]
        · rw [decide_eq_true heq] at hE
          have HQ := (show Hid _ from take_eq_succ l m k hlt hlm HTK.out heq)
          clear heq
          go_wp2_with fail
          go_quiet (fail)
          go_wp2
          go_roundw
          case rel => exact ⟨k + 1, by omega, by simp, HQ.out, below_drewN' HB.out _⟩
          case measure => first | omega | (simp only [intOf]; omega)
        · rw [decide_eq_false heq] at hE
          have HQ : Hid (decide (l = m) = false) := by
            show _ = _
            exact decide_eq_false (fun e => heq (by subst e; rfl))
          clear heq
          go_wp2_with fail
          go_quiet (fail)
          go_wp2
          go_ret
          exact ⟨by rw [HQ.out]; rfl, below_drewN' HB.out _⟩
      · obtain rfl : k = l.length := by omega
        have : l = m := by
          have := HTK.out
          rw [List.take_length, List.take_of_length_le (by omega)] at this
          exact this
        go_wp2
        go_ret
        exact ⟨by simp [this], hB⟩
  · have hne : ¬ l = m := fun e => hlen (by rw [e])
    have hb : ((l.length : Int) == (m.length : Int)) = false := by simp; omega
    go_enter Tryd.func26, Tryd.ntmps26
    go_wp2
    go_ret
    exact ⟨by simp [hne], Below.refl _ _⟩

/-- Of sorted pairs with keys of their own the order is told. -/
theorem sort_uniq : ∀ (L M : List Pq), L.Perm M → SortP L → SortP M → (∀ x y, x ∈ L → y ∈ L → x.1 = y.1 → x = y) → L = M
  | [], M, hp, _, _, _ => by have := hp.length_eq; exact (List.eq_nil_of_length_eq_zero (by simpa using this.symm)).symm
  | x :: L, [], hp, _, _, _ => by have := hp.length_eq; simp at this
  | x :: L, y :: M, hp, h1, h2, hu => by
    have hle : ∀ z ∈ L, ¬ z.1 < x.1 := fun z hz => by
      obtain ⟨i, hi, rfl⟩ := List.getElem_of_mem hz
      exact h1 0 (i + 1) (by simp) (by simpa using hi) (by omega)
    have hle2 : ∀ z ∈ M, ¬ z.1 < y.1 := fun z hz => by
      obtain ⟨i, hi, rfl⟩ := List.getElem_of_mem hz
      exact h2 0 (i + 1) (by simp) (by simpa using hi) (by omega)
    have hxy : x = y := by
      have hx : x ∈ y :: M := hp.mem_iff.1 (List.mem_cons_self ..)
      have hy : y ∈ x :: L := hp.mem_iff.2 (List.mem_cons_self ..)
      rcases List.mem_cons.1 hx with e | hxm
      · exact e
      rcases List.mem_cons.1 hy with e | hym
      · exact e.symm
      have a1 : ¬ x.1 < y.1 := hle2 x hxm
      have a2 : ¬ y.1 < x.1 := hle y hym
      exact hu x y (List.mem_cons_self ..) hy (List.le_antisymm (List.not_lt.1 a2) (List.not_lt.1 a1))
    subst hxy
    have hp' : L.Perm M := (List.perm_cons x).1 hp
    have := sort_uniq L M hp' (fun i j hi hj hij => h1 (i + 1) (j + 1) (by simpa using hi) (by simpa using hj) (by omega)) (fun i j hi hj hij => h2 (i + 1) (j + 1) (by simpa using hi) (by simpa using hj) (by omega)) (fun a b ha hb => hu a b (List.mem_cons_of_mem _ ha) (List.mem_cons_of_mem _ hb))
    rw [this]
/-- Two pages' pairs, sorted, are the same just if their pairs are. -/
theorem sorted_same {l m : List Cl} (h : GoodL l) {L M : List Pq} (h1 : L.Perm (prsL l)) (h2 : M.Perm (prsL m)) (s1 : SortP L) (s2 : SortP M) : L = M ↔ (prsL l).Perm (prsL m) :=
  ⟨fun e => h1.symm.trans (e ▸ h2), fun hp => sort_uniq L M (h1.trans (hp.trans h2.symm)) s1 s2 (fun x y hx hy => prs_uniq h x y (h1.mem_iff.1 hx) (h1.mem_iff.1 hy))⟩

end Go.Proofs.YtebchgoaelamcaaDoor
