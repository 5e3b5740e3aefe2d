/-
  Slices of numbers and of bools; the least of numbers; one taken out; a nil heap of texts; what leaves a heap of numbers as it was.
-/
import Derived.Test.YtnejcjebepidcaaMh
import Derived.Test.YtnejcjebepidcaaHIf
namespace Go.Proofs.Ytnejcjebepidcaa
open Go.RowKit

/-- The slice a holds the values xs, a cell each. -/
structure SlV (w : World) (a : Option Addr) (xs : List Value) : Prop where
  nonil : a = none → xs = []
  cells : ∀ x, a = some x → ∀ j u, xs[j]? = some u → w.cell? (x.add j) = some u

theorem SlV.empty {w : World} {a : Option Addr} : SlV w a [] := ⟨fun _ => rfl, fun x _ j u hu => by simp at hu⟩

theorem SlV.below {w w' : World} {a : Option Addr} {xs : List Value} (h : SlV w a xs) (hb : Below w.heap.size w w') : SlV w' a xs :=
  ⟨h.nonil, fun x hx j u hu => by have := h.cells x hx j u hu; rw [hb.cell (World.block_lt_of_cell? _ _ this)]; exact this⟩

theorem SlV.at {w : World} {a : Option Addr} {xs : List Value} (h : SlV w a xs) (j : Nat) (u : Value) (hu : xs[j]? = some u) : ∃ g o, a = some ⟨g, o, none⟩ ∧ w.cell? ⟨g, o + j, none⟩ = some u ∧ g < w.heap.size := by
  cases a with
  | none => have := h.nonil rfl; subst this; simp at hu
  | some x =>
    obtain ⟨g, o, sp⟩ := x
    have hj := (List.getElem?_eq_some_iff.1 hu).1
    have h0 := h.cells _ rfl 0 (xs[0]'(by omega)) (List.getElem?_eq_getElem (by omega))
    have hs := World.cell?_spot h0
    obtain rfl : sp = none := by simpa [Addr.add] using hs
    have hc := h.cells _ rfl j u hu
    have e : (⟨g, o, none⟩ : Addr).add j = ⟨g, o + j, none⟩ := by unfold Addr.add; split <;> simp_all
    rw [e] at hc
    exact ⟨g, o, rfl, hc, World.block_lt_of_cell? _ _ hc⟩

/-- Numbers as cells. -/
def i64s (l : List Int) : List Value := l.map fun n => Value.int .i64 n

theorem i64s_length (l : List Int) : (i64s l).length = l.length := by simp [i64s]
theorem i64s_append (l m : List Int) : i64s (l ++ m) = i64s l ++ i64s m := by simp [i64s]
theorem i64s_at (l : List Int) (j : Nat) (hj : j < l.length) : (i64s l)[j]? = some (.int .i64 (l[j]'hj)) := by simp [i64s, List.getElem?_eq_getElem hj]


def boolsV (l : List Bool) : List Value := l.map fun b => Value.bool b
theorem boolsV_at (l : List Bool) (j : Nat) (hj : j < l.length) : (boolsV l)[j]? = some (.bool (l[j]'hj)) := by simp [boolsV, List.getElem?_eq_getElem hj]
theorem i64s_one (l : List Int) : ∀ u ∈ i64s l, u.oneCell' = true := by
  intro u hu
  simp [i64s] at hu
  obtain ⟨a, _, rfl⟩ := hu
  rfl

theorem HeapI.kind {B h : Nat} {th : Nat → Value} {key : Nat → Int} {live : List Nat} {N : Nd} {tv : Value} {tops : List Nat} {w : World} (H : HeapI B h th key live N tv tops w) {k : Nat} (hk : Foot h live N tv k) : ∃ (c : Array Value) (t : Nat), w.heap[k]? = some (Obj.cells c t) ∧ (t = 82 ∨ t = 85 ∨ t = 83) := by
  rcases hk with rfl | hk | ⟨b, hb, hk⟩ | hk
  · exact ⟨_, _, H.blk, .inl rfl⟩
  · exact ⟨_, _, H.nodes.blk k hk, .inr (.inl rfl)⟩
  · rcases (H.nodes.own b hb).2 with ⟨e, _⟩ | ⟨g, cap, cur, e, _, hg, _⟩
    · rw [e] at hk; simp [Value.ownBlock] at hk
    · rw [e] at hk
      simp [Value.ownBlock] at hk
      subst hk
      exact ⟨_, _, hg, .inr (.inr rfl)⟩
  · rcases H.row.2 with ⟨e, _⟩ | ⟨g, cap, cur, e, _, hg, _⟩
    · rw [e] at hk; simp [Value.ownBlock] at hk
    · rw [e] at hk
      simp [Value.ownBlock] at hk
      subst hk
      exact ⟨_, _, hg, .inr (.inr rfl)⟩

theorem HeapI.stay {B h : Nat} {th : Nat → Value} {key : Nat → Int} {live : List Nat} {N : Nd} {tv : Value} {tops : List Nat} {w w' : World} (H : HeapI B h th key live N tv tops w)
    (hk : ∀ (k : Nat) (c : Array Value) (t : Nat), (t = 82 ∨ t = 85 ∨ t = 83) → w.heap[k]? = some (Obj.cells c t) → w'.heap[k]? = w.heap[k]?) (hb : Below B w w') : HeapI B h th key live N tv tops w' :=
  ⟨(hk h _ _ (.inl rfl) H.blk).trans H.blk, own_stay H.row (fun k c _ hc => hk k c _ (.inr (.inr rfl)) hc), H.apart,
   ⟨fun b hbl => (hk b _ _ (.inr (.inl rfl)) (H.nodes.blk b hbl)).trans (H.nodes.blk b hbl), fun b hbl => own_stay (H.nodes.own b hbl) (fun k c _ hc => hk k c _ (.inr (.inr rfl)) hc), H.nodes.apart, H.nodes.base⟩,
   H.nodup, H.perm, H.ord, fun x hx => (H.keys x hx).low hb, H.few, Nat.le_trans H.base hb.size, H.high⟩


theorem pushNilS (x : ByteArray) (w : World) : Calls Try.prog 29 #[.pointer none, .string x] w fun e w' => e = .returned (.tuple #[]) ∧ w' = w := by
  go_enter Try.func29, Try.ntmps29
  go_wp2
  first | go_end0 | refine bodyPost_ret (results_none rfl _ _ _) rfl ?_
  exact ⟨rfl, rfl⟩
theorem popNilS (w : World) : Calls Try.prog 30 #[.pointer none] w fun e w' => e = .returned (.tuple #[.string ⟨#[]⟩, .bool false]) ∧ w' = w := by
  go_enter Try.func30, Try.ntmps30
  go_wp2
  go_ret2
  exact ⟨rfl, rfl⟩
theorem lenNilS (w : World) : Calls Try.prog 31 #[.pointer none] w fun e w' => e = .returned (.int .i64 0) ∧ w' = w := by
  go_enter Try.func31, Try.ntmps31
  go_wp2
  go_ret
  exact ⟨rfl, rfl⟩

theorem Try.info3 : (Try.prog.info? 3).map (fun i => (i.zero, i.size, i.bytes)) = some (some (.int .i64 0), 1, 8) := by kernel_rfl

theorem int_cell {w : World} {B g n c : Nat} {l : List Int} (h : w.ownsRow B 3 1 (.slice (some ⟨g, 0, none⟩) n c) n (i64s l)) (j : Nat) (hj : j < l.length) : w.cell? ⟨g, j, none⟩ = some (.int .i64 l[j]) := own_cell h (i64s_at l j hj)

set_option maxHeartbeats 1000000 in
theorem least27 (B g c : Nat) (l : List Int) (w : World) (h : w.ownsRow B 3 1 (.slice (some ⟨g, 0, none⟩) l.length c) l.length (i64s l)) (hl : l.length ≤ 1000000) (hp : 0 < l.length) :
    Calls Try.prog 27 #[.slice (some ⟨g, 0, none⟩) l.length c] w fun e w' => ∃ (k : Nat) (hk : k < l.length), e = .returned (.int .i64 k) ∧ (∀ j, (hj : j < l.length) → l[k] ≤ l[j]) ∧ ∃ n, w' = w.drewN n := by
  have HS := toHid h
  clear h
  go_enter Try.func27, Try.ntmps27
  go_wp2_with fail
  go_loopw [3, 4] (fun q k W => ∃ (m i : Nat) (hm : m < l.length), i ≤ l.length ∧ 1 ≤ i ∧ q = .int .i64 m ∧ k = .int .i64 i ∧ (∀ j, (hj : j < l.length) → j < i → l[m] ≤ l[j]) ∧ ∃ n, W = w.drewN n) (fun _ k _ => l.length - (intOf k).toNat)
  case atStart =>
    refine ⟨0, 1, hp, hp, Nat.le_refl _, rfl, rfl, fun j hj h1 => ?_, 0, rfl⟩
    obtain rfl : j = 0 := by omega
    exact Int.le_refl _
  case round =>
    obtain ⟨m, i, hm, hi, hi1, rfl, rfl, hok, n, rfl⟩ := hrel
    have HOK := toHid hok
    clear hok
    by_cases hlt : i < l.length
    · have c0 := int_cell HS.out i hlt
      have c1 := int_cell HS.out m hm
      have e1 : (i : Int) < (l.length : Int) := by omega
      have e2 : (m : Int) < (l.length : Int) := by omega
      by_cases hle : l[i] < l[m]
      · have HL := toHid hle
        have q1 : decide (l[i] < l[m]) = true := by simp [hle]
        go_wp2_with fail
        go_quiet (fail)
        go_wp2
        go_roundw
        case rel => exact ⟨i, i + 1, hlt, by omega, by omega, rfl, by go_num, fun j hj hji => by
          by_cases e : j = i
          · subst e; exact Int.le_refl _
          · have := HOK.out j hj (by omega); have := HL.out; omega, _, rfl⟩
        case measure => simp [intOf]; omega
      · have HL := toHid hle
        have q1 : decide (l[i] < l[m]) = false := by simp; omega
        go_wp2_with fail
        go_quiet (fail)
        go_wp2
        go_roundw
        case rel => exact ⟨m, i + 1, hm, by omega, by omega, rfl, by go_num, fun j hj hji => by
          by_cases e : j = i
          · subst e; have := HL.out; omega
          · exact HOK.out j hj (by omega), _, rfl⟩
        case measure => simp [intOf]; omega
    · obtain rfl : i = l.length := by omega
      go_wp2
      go_ret
      exact ⟨m, hm, rfl, fun j hj => HOK.out j hj hj, n, rfl⟩

theorem int_take {w : World} {B g n c k : Nat} {l : List Int} (h : w.ownsRow B 3 1 (.slice (some ⟨g, 0, none⟩) n c) n (i64s l)) (hn : n = l.length) (hk : k ≤ n) : w.ownsRow B 3 1 (.slice (some ⟨g, 0, none⟩) k c) k (i64s (l.take k)) := by
  rcases h.2 with ⟨h1, h2⟩ | ⟨g', cap, cur, h1, hB, hh, hc, hm, hs, ht⟩
  · simp at h1
  · injection h1 with e1 e2 e3
    simp at e1
    subst e1 e3
    refine ⟨by simp [i64s]; omega, .inr ⟨g, c, cur, rfl, hB, hh, by omega, hm, hs, ?_⟩⟩
    have e : i64s (l.take k) = (i64s l).take k := by simp [i64s, List.map_take]
    rw [e, ← ht, List.take_take, Nat.min_eq_left (by omega)]
    simp

/-- One taken out of a row of numbers. -/
theorem run_erase (W : World) (B g c : Nat) (l : List Int) (k : Nat) (src : Addr) (sc : Nat) (hr : W.ownsRow B 3 1 (.slice (some ⟨g, 0, none⟩) l.length c) l.length (i64s l)) (hk : k < l.length) (hf : l.length ≤ 1000000) (hB : B ≤ W.heap.size) (hsrc : l.length - (k + 1) = 0 ∨ src = ⟨g, k + 1, none⟩) :
    ∃ a' c' y, (Builtin.append_ #[48, 48] 48 #[.slice (some ⟨g, 0, none⟩) k c, .slice (some src) (l.length - (k + 1)) sc]).run Try.prog W = .ok (.slice a' (l.length - 1) c') y ∧ y.ownsRow B 3 1 (.slice a' (l.length - 1) c') (l.length - 1) (i64s (l.eraseIdx k)) ∧ W.grownBy y (some g) := by
  obtain ⟨i0, hi0, hz0, hz1, hz2⟩ := info_parts Try.info3
  have hlen : (i64s (l.drop (k + 1))).length = (l.length - (k + 1)) * 1 := by simp [i64s]
  obtain ⟨v', y, h1, h2, h3, _⟩ := run_append_own (P := Try.prog) W B 48 48 3 i0 (.int .i64 0) 1 8 Try.underlying48 hi0 hz0 hz1 hz2 rfl (by decide) (.slice (some ⟨g, 0, none⟩) k c) k (i64s (l.take k)) (int_take hr rfl (by omega)) src (l.length - (k + 1)) sc (i64s (l.drop (k + 1))) hlen (fun j u hj => by
    rcases hsrc with e | rfl
    · have := (List.getElem?_eq_some_iff.1 hj).1
      simp [i64s] at this
      omega
    · rw [add_plain]
      have hj2 : (i64s l)[k + 1 + j]? = some u := by simpa [i64s, List.getElem?_drop] using hj
      exact own_cell hr hj2) (i64s_one _) (by unfold maxLen; omega) (by omega) hB
  obtain ⟨a', c', rfl⟩ := ownsRow_shape h2
  rw [show k + (l.length - (k + 1)) = l.length - 1 by omega] at h1 h2
  refine ⟨a', c', y, h1, ?_, h3⟩
  rw [List.eraseIdx_eq_take_drop_succ, i64s_append]
  exact h2

theorem operwp_append (o : Oper) (a : Act) (w : World) (K : Act → World → Prop) (Q : Exit → Act → World → Prop) (s x : Operand) (t : TypeId) (ho : o.op = .call { callee := .builtin .append, args := #[s, x], argTypes := #[t, t] }) (v xv : Value) (hs : a.eval s = v) (hx : a.eval x = xv) (v' : Value) (w' : World)
    (hr : (Builtin.append_ #[t, t] o.type #[v, xv]).run Try.prog w = .ok v' w') (hK : K (a.put o.dst v') w') : Oper.wp Try.prog o a w K Q := by
  unfold Oper.wp execOp
  simp only [ho, resolve, invoke, builtin, Sem.run_bind, Sem.run_pure, Result.andThen_ok, List.map_toArray, List.map_cons, List.map_nil, hs, hx, hr]
  exact hK

end Go.Proofs.Ytnejcjebepidcaa
