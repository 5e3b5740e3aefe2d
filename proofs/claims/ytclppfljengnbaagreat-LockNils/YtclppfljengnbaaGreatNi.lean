/-
  What a nil table answers; rows that are held against each other.
-/
import Derived.Test.YtclppfljengnbaaGreatEd
namespace Go.Proofs.YtclppfljengnbaaGreat
open Go.RowKit

theorem party_nil0 (t : Int) (w : World) : Calls Tryz.prog 43 #[.pointer none, .int .i64 t] w fun e w' => e = .returned (.pointer none) ∧ w' = w := by
  go_enter Tryz.func43, Tryz.ntmps43
  go_wp2
  go_ret
  exact ⟨rfl, rfl⟩
theorem free_nil (t : Int) (w : World) : Calls Tryz.prog 18 #[.pointer none, .int .i64 t] w fun e w' => e = .returned (.slice none 0 0) ∧ w' = w := by
  have HP := toHid (party_nil0 t w)
  go_enter Tryz.func18, Tryz.ntmps18
  go_wp2_with fail
  refine Calls.mono HP.out ?_
  rintro e w1 ⟨rfl, hw⟩
  obtain rfl := hw.symm
  go_wp2
  go_ret
  exact ⟨rfl, rfl⟩
theorem cancel_nil (t : Int) (w : World) : Calls Tryz.prog 22 #[.pointer none, .int .i64 t] w fun e w' => e = .returned (.slice none 0 0) ∧ w' = w := by
  have HP := toHid (party_nil0 t w)
  go_enter Tryz.func22, Tryz.ntmps22
  go_wp2_with fail
  refine Calls.mono HP.out ?_
  rintro e w1 ⟨rfl, hw⟩
  obtain rfl := hw.symm
  go_wp2
  go_ret
  exact ⟨rfl, rfl⟩
theorem held_nil (t : Int) (w : World) : Calls Tryz.prog 23 #[.pointer none, .int .i64 t] w fun e w' => e = .returned (.slice none 0 0) ∧ w' = w := by
  have HP := toHid (party_nil0 t w)
  go_enter Tryz.func23, Tryz.ntmps23
  go_wp2_with fail
  refine Calls.mono HP.out ?_
  rintro e w1 ⟨rfl, hw⟩
  obtain rfl := hw.symm
  go_wp2
  go_ret
  exact ⟨rfl, rfl⟩
theorem txns_nil (w : World) : Calls Tryz.prog 15 #[.pointer none] w fun e w' => e = .returned (.slice none 0 0) ∧ w' = w := by
  go_enter Tryz.func15, Tryz.ntmps15
  go_wp2
  go_ret
  exact ⟨rfl, rfl⟩
theorem edges_nil (w : World) : Calls Tryz.prog 12 #[.pointer none] w fun e w' => e = .returned (.slice none 0 0) ∧ w' = w := by
  have HP := toHid (txns_nil w)
  go_enter Tryz.func12, Tryz.ntmps12
  go_wp2_with fail
  refine Calls.mono HP.out ?_
  rintro e w1 ⟨rfl, hw⟩
  obtain rfl := hw.symm
  go_wp2_with fail
  go_loopw [11, 3] (fun i l wr => i = .int .i64 0 ∧ l = .slice none 0 0 ∧ wr = w) (fun _ _ _ => 0)
  case atStart => exact ⟨rfl, rfl, rfl⟩
  case round =>
    obtain ⟨rfl, rfl, rfl⟩ := hrel
    go_wp2
    go_ret
    exact ⟨rfl, rfl⟩
theorem waits_nil (t : Int) (w : World) : Calls Tryz.prog 17 #[.pointer none, .int .i64 t] w fun e w' => (∃ a b, e = .returned (.tuple #[.agg #[.string a, .int .i64 b], .bool false])) ∧ Below w.heap.size w w' := by
  have HP := toHid (party_nil0 t)
  have HB := toHid ((Below.refl w.heap.size w).alloc (Nat.le_refl _) (.cells #[nmV [], .int .i64 0] 31))
  have fin : ∀ tmps, Array.getD tmps 4 undef = .pointer (some ⟨w.heap.size, 0, none⟩) → (results Tryz.f17 tmps).run Tryz.prog (w.alloc (.cells #[nmV [], .int .i64 0] 31)) = .ok (.tuple #[.agg #[nmV [], .int .i64 0], tmps.getD 5 undef]) (w.alloc (.cells #[nmV [], .int .i64 0] 31)) := fun tmps hp =>
    res_cell_tmp rfl tmps _ w.heap.size 31 #[nmV [], .int .i64 0] (0, 0) _ hp (heap_alloc_new w _) Tryz.underlying31 rfl (by kernel_rfl)
  go_enter Tryz.func17, Tryz.ntmps17
  go_wp2_with fail
  refine Calls.mono (HP.out _) ?_
  rintro e w1 ⟨rfl, hw⟩
  obtain rfl := hw.symm
  go_wp2
  exact bodyPost_ret (fin _ rfl) rfl ⟨⟨_, _, rfl⟩, HB.out⟩

/-- A cell of a row. -/
theorem row_cell {w : World} {B e k c n : Nat} {a : Option Addr} {xs : List Value} (h : w.ownsRow B e k (.slice a n c) n xs) (hn : 0 < n) : ∃ g, a = some ⟨g, 0, none⟩ ∧ g < w.heap.size ∧ ∀ i v, xs[i]? = some v → w.cell? ⟨g, i, none⟩ = some v := by
  rcases h.2 with ⟨e1, e2⟩ | ⟨g, cap, cur, e1, hb, hg, _⟩
  · omega
  · simp at e1
    obtain ⟨rfl, rfl⟩ := e1
    refine ⟨g, rfl, (Array.getElem?_eq_some_iff.mp hg).1, fun i v hv => ?_⟩
    have := h.cells (g := g) rfl i v hv
    rwa [addr_add] at this

/-- Rows of numbers that are the same. -/
theorem same_ints (va vb : Option Addr) (ca cb B B' : Nat) (l : List Int) (w : World) (ha : w.ownsRow B 3 1 (.slice va l.length ca) l.length (l.map (Value.int .i64))) (hb : w.ownsRow B' 3 1 (.slice vb l.length cb) l.length (l.map (Value.int .i64))) (hl : l.length ≤ 10000000) :
    Calls Tryz.prog 24 #[.slice va l.length ca, .slice vb l.length cb] w fun e w' => e = .returned (.bool true) ∧ Below w.heap.size w w' := by
  have HA := toHid ha
  have HB := toHid hb
  clear ha hb
  go_enter Tryz.func24, Tryz.ntmps24
  go_wp2_with fail
  go_loopw [5] (fun v wr => ∃ i : Nat, v = .int .i64 (i : Int) ∧ i ≤ l.length ∧ ∃ q, wr = w.drewN q) (fun v _ => l.length - (intOf v).toNat)
  case atStart => exact ⟨0, rfl, Nat.zero_le _, 0, rfl⟩
  case round =>
    obtain ⟨i, rfl, hi, q, rfl⟩ := hrel
    by_cases hlt : i < l.length
    · have kd : decide ((i : Int) < (l.length : Int)) = true := by simp; omega
      obtain ⟨g, rfl, hg, hc⟩ := row_cell HA.out (by omega)
      obtain ⟨g', rfl, hg', hc'⟩ := row_cell HB.out (by omega)
      have c0 : w.cell? ⟨g, i, none⟩ = some (.int .i64 l[i]) := hc i _ (by simp [hlt])
      have c1 : w.cell? ⟨g', i, none⟩ = some (.int .i64 l[i]) := hc' i _ (by simp [hlt])
      clear hc hc'
      generalize l[i] = x at c0 c1
      go_wp2_with fail
      go_quiet (fail)
      go_wp2_with fail
      go_roundw
      case rel => first | exact ⟨i + 1, by simp, by omega, _, rfl⟩ | exact ⟨i + 1, by simp, by omega, _, World.drewN_drewN _ _ _⟩
      case measure => first | omega | (simp only [intOf]; omega)
    · have kd : decide ((i : Int) < (l.length : Int)) = false := by simp; omega
      go_wp2
      go_ret
      exact ⟨rfl, (Below.refl _ _).trans ⟨rfl, rfl, rfl, Nat.le_refl _, fun _ _ => rfl⟩⟩

theorem Tryz.held106 : Tryz.prog.stoodInHeld 106 = false := by kernel_rfl
theorem Tryz.struct106 : Tryz.prog.underlying 106 = some (.struct (Tryz.prog.fieldsOf 106)) := by kernel_rfl
theorem neq78 (a b : Int) (w : World) : (binOp .neq 78 (.agg #[.int .i64 a, .int .i64 b]) (.agg #[.int .i64 a, .int .i64 b])).run Tryz.prog w = .ok (.bool false) w := by
  have h : (Op.equalIn 10000 78 (.agg #[.int .i64 a, .int .i64 b]) (.agg #[.int .i64 a, .int .i64 b])).run Tryz.prog w = .ok true w := by
    rw [show (10000 : Nat) = 9999 + 1 from rfl, run_equalIn_struct w 9999 78 _ _ Tryz.struct50 Tryz.held50]
    simp [Program.fieldsOf, Tryz.underlying78, Op.eqFields, go_sem, Tryz.underlying3]
  rw [run_neq_struct, h]
  simp [Result.andThen]
theorem neq106 (s : ByteArray) (b : Int) (w : World) : (binOp .neq 106 (.agg #[.string s, .int .i64 b]) (.agg #[.string s, .int .i64 b])).run Tryz.prog w = .ok (.bool false) w := by
  have h : (Op.equalIn 10000 106 (.agg #[.string s, .int .i64 b]) (.agg #[.string s, .int .i64 b])).run Tryz.prog w = .ok true w := by
    rw [show (10000 : Nat) = 9999 + 1 from rfl, run_equalIn_struct w 9999 106 _ _ Tryz.struct106 Tryz.held106]
    simp [Program.fieldsOf, Tryz.underlying106, Op.eqFields, go_sem, Tryz.underlying9, Tryz.underlying29]
  rw [run_neq_struct, h]
  simp [Result.andThen]
theorem ecells_at0 : ∀ (l : List (Int × Int)) (i : Nat) (hi : i < l.length), (ecells l)[i * 2]? = some (.int .i64 l[i].1) ∧ (ecells l)[i * 2 + 1]? = some (.int .i64 l[i].2)
  | [], i, hi => by simp at hi
  | e :: l, 0, _ => by simp [ecells]
  | e :: l, i + 1, hi => by
    have := ecells_at0 l i (by simpa using hi)
    rw [show (i + 1) * 2 = i * 2 + 2 by omega]
    simpa [ecells] using this
theorem hcells_at0 (f : Name → Nat) : ∀ (l : List Name) (i : Nat) (hi : i < l.length), (hcells l f)[i * 2]? = some (nmV l[i]) ∧ (hcells l f)[i * 2 + 1]? = some (.int .i64 ((f l[i] : Nat) : Int))
  | [], i, hi => by simp at hi
  | e :: l, 0, _ => by simp [hcells]
  | e :: l, i + 1, hi => by
    have := hcells_at0 f l i (by simpa using hi)
    rw [show (i + 1) * 2 = i * 2 + 2 by omega]
    have e : hcells (e :: l) f = [nmV e, .int .i64 ((f e : Nat) : Int)] ++ hcells l f := rfl
    rw [e]
    simpa using this
/-- Rows of edges that are the same. -/
theorem same_edges (va vb : Option Addr) (ca cb B B' : Nat) (l : List (Int × Int)) (w : World) (ha : w.ownsRow B 78 2 (.slice va l.length ca) l.length (ecells l)) (hb : w.ownsRow B' 78 2 (.slice vb l.length cb) l.length (ecells l)) (hl : l.length ≤ 10000000) :
    Calls Tryz.prog 11 #[.slice va l.length ca, .slice vb l.length cb] w fun e w' => e = .returned (.bool true) ∧ Below w.heap.size w w' := by
  have HA := toHid ha
  have HB := toHid hb
  clear ha hb
  have hq := neq78
  go_enter Tryz.func11, Tryz.ntmps11
  go_wp2_with fail
  go_loopw [5] (fun v wr => ∃ i : Nat, v = .int .i64 (i : Int) ∧ i ≤ l.length ∧ ∃ q, wr = w.drewN q) (fun v _ => l.length - (intOf v).toNat)
  case atStart => exact ⟨0, rfl, Nat.zero_le _, 0, rfl⟩
  case round =>
    obtain ⟨i, rfl, hi, q, rfl⟩ := hrel
    by_cases hlt : i < l.length
    · have kd : decide ((i : Int) < (l.length : Int)) = true := by simp; omega
      obtain ⟨g, rfl, hg, hc⟩ := row_cell HA.out (by omega)
      obtain ⟨g', rfl, hg', hc'⟩ := row_cell HB.out (by omega)
      obtain ⟨k0, k1⟩ := ecells_at0 l i hlt
      have c0 := hc _ _ k0
      have c1 := hc _ _ k1
      have d0 := hc' _ _ k0
      have d1 := hc' _ _ k1
      clear hc hc' k0 k1
      generalize l[i].1 = x at c0 d0
      generalize l[i].2 = y at c1 d1
      go_wp2_with fail
      go_quiet (fail)
      go_wp2_with fail
      go_roundw
      case rel => first | exact ⟨i + 1, by simp, by omega, _, rfl⟩ | exact ⟨i + 1, by simp, by omega, _, World.drewN_drewN _ _ _⟩
      case measure => first | omega | (simp only [intOf]; omega)
    · have kd : decide ((i : Int) < (l.length : Int)) = false := by simp; omega
      go_wp2
      go_ret
      exact ⟨rfl, (Below.refl _ _).trans ⟨rfl, rfl, rfl, Nat.le_refl _, fun _ _ => rfl⟩⟩
/-- Rows of what somebody has that are the same. -/
theorem same_held (va vb : Option Addr) (ca cb B B' : Nat) (l : List Name) (f : Name → Nat) (w : World) (ha : w.ownsRow B 106 2 (.slice va l.length ca) l.length (hcells l f)) (hb : w.ownsRow B' 106 2 (.slice vb l.length cb) l.length (hcells l f)) (hl : l.length ≤ 10000000) :
    Calls Tryz.prog 25 #[.slice va l.length ca, .slice vb l.length cb] w fun e w' => e = .returned (.bool true) ∧ Below w.heap.size w w' := by
  have HA := toHid ha
  have HB := toHid hb
  clear ha hb
  have hq := neq106
  go_enter Tryz.func25, Tryz.ntmps25
  go_wp2_with fail
  go_loopw [5] (fun v wr => ∃ i : Nat, v = .int .i64 (i : Int) ∧ i ≤ l.length ∧ ∃ q, wr = w.drewN q) (fun v _ => l.length - (intOf v).toNat)
  case atStart => exact ⟨0, rfl, Nat.zero_le _, 0, rfl⟩
  case round =>
    obtain ⟨i, rfl, hi, q, rfl⟩ := hrel
    by_cases hlt : i < l.length
    · have kd : decide ((i : Int) < (l.length : Int)) = true := by simp; omega
      obtain ⟨g, rfl, hg, hc⟩ := row_cell HA.out (by omega)
      obtain ⟨g', rfl, hg', hc'⟩ := row_cell HB.out (by omega)
      obtain ⟨k0, k1⟩ := hcells_at0 f l i hlt
      have c0 := hc _ _ k0
      have c1 := hc _ _ k1
      have d0 := hc' _ _ k0
      have d1 := hc' _ _ k1
      clear hc hc' k0 k1
      generalize ((f l[i] : Nat) : Int) = y at c1 d1
      generalize l[i] = x at c0 d0
      go_wp2_with fail
      go_quiet (fail)
      go_wp2_with fail
      go_roundw
      case rel => first | exact ⟨i + 1, by simp, by omega, _, rfl⟩ | exact ⟨i + 1, by simp, by omega, _, World.drewN_drewN _ _ _⟩
      case measure => first | omega | (simp only [intOf]; omega)
    · have kd : decide ((i : Int) < (l.length : Int)) = false := by simp; omega
      go_wp2
      go_ret
      exact ⟨rfl, (Below.refl _ _).trans ⟨rfl, rfl, rfl, Nat.le_refl _, fun _ _ => rfl⟩⟩

/-- Two rows that rise and have the same things are the same. -/
theorem pw_uniq {α : Type} {r : α → α → Prop} (irr : ∀ a, ¬ r a a) (asy : ∀ a b, r a b → ¬ r b a) : ∀ {l m : List α}, l.Pairwise r → m.Pairwise r → (∀ x, x ∈ l ↔ x ∈ m) → l = m
  | [], m, _, _, h => by
    cases m with
    | nil => rfl
    | cons b m => exact absurd ((h b).2 (by simp)) (by simp)
  | a :: l, [], _, _, h => absurd ((h a).1 (by simp)) (by simp)
  | a :: l, b :: m, hl, hm, h => by
    rw [List.pairwise_cons] at hl hm
    have e : a = b := by
      rcases List.mem_cons.1 ((h a).1 (by simp)) with e | e
      · exact e
      · rcases List.mem_cons.1 ((h b).2 (by simp)) with e' | e'
        · exact e'.symm
        · exact absurd (hm.1 a e) (asy _ _ (hl.1 b e'))
    subst e
    rw [pw_uniq irr asy hl.2 hm.2 fun x => ?_]
    constructor
    · intro hx
      rcases List.mem_cons.1 ((h x).1 (List.mem_cons_of_mem _ hx)) with e | e
      · subst e; exact absurd (hl.1 x hx) (irr x)
      · exact e
    · intro hx
      rcases List.mem_cons.1 ((h x).2 (List.mem_cons_of_mem _ hx)) with e | e
      · subst e; exact absurd (hm.1 x hx) (irr x)
      · exact e
end Go.Proofs.YtclppfljengnbaaGreat
