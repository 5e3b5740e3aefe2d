/-
  append to a row whose room is cut off: what was there stays, what is told lies in new memory, or is what was there.
-/
import Derived.Test.YtdlanenbbmnbhaaBa
namespace Go.Proofs.Ytdlanenbbmnbhaa
open Go.RowKit

theorem run_full {P : Program} (w : World) (t ty e : TypeId) (i : TypeInfo) (z : Value) (size bytes : Nat) (h1 : P.underlying t = some (.slice e)) (h2 : P.info? e = some i) (h3 : i.zero = some z) (h4 : i.size = size) (h5 : i.bytes = bytes) (h6 : z.cells.size = size) (h7 : 0 < size)
    (ao : Option Addr) (n : Nat) (olds : List Value) (hnone : ao = none → n = 0) (hlo : olds.length = n * size) (holds : ∀ b, ao = some b → ∀ j u, olds[j]? = some u → w.cell? (b.add j) = some u)
    (so : Option Addr) (m c : Nat) (news : List Value) (hso : so = none → m = 0) (hn : news.length = m * size) (hc : ∀ b, so = some b → ∀ j u, news[j]? = some u → w.cell? (b.add j) = some u) (h1c : ∀ u ∈ news, u.oneCell' = true)
    (b1 : n + m ≤ maxLen) (b2 : (n + m) * bytes ≤ 140737488355328) :
    ∃ v' w', (Builtin.append_ #[t, t] ty #[.slice ao n n, .slice so m c]).run P w = .ok v' w' ∧ Below w.heap.size w w' ∧ ((m = 0 ∧ v' = .slice ao n n ∧ w' = w) ∨ (0 < m ∧ w'.ownsRow w.heap.size e size v' (n + m) (olds ++ news))) := by
  by_cases hm : m = 0
  · subst hm
    have hx : news = [] := List.eq_nil_of_length_eq_zero (by simpa using hn)
    subst hx
    cases so with
    | none =>
      cases ao with
      | none =>
        obtain rfl := hnone rfl
        exact ⟨_, _, by simp [Builtin.append_, run_underlying h1, sizeOf, typeInfo, h2, Builtin.lenOf, Builtin.firstCells], Below.refl _ _, .inl ⟨rfl, rfl, rfl⟩⟩
      | some b => exact ⟨_, _, by simp [Builtin.append_, run_underlying h1, sizeOf, typeInfo, h2, Builtin.lenOf, Builtin.firstCells, storeCells], Below.refl _ _, .inl ⟨rfl, rfl, rfl⟩⟩
    | some y =>
      refine ⟨_, _, run_append_nothing w t t ty e i h1 h2 ao n n (Nat.le_refl _) _ ?_, Below.refl _ _, .inl ⟨rfl, rfl, rfl⟩⟩
      exact Src.ofSlice w h1 y 0 c [] (by simp) (by simp) (by simp)
  · cases so with
    | none => exact absurd (hso rfl) hm
    | some y =>
      cases ao with
      | none =>
        obtain rfl := hnone rfl
        have ho : olds = [] := List.eq_nil_of_length_eq_zero (by simpa using hlo)
        subst ho
        obtain ⟨v', w', hr, r1, r2, -⟩ := run_append_own (P := P) w w.heap.size t ty e i z size bytes h1 h2 h3 h4 h5 h6 h7 (.slice none 0 0) 0 [] ⟨by simp, .inl ⟨rfl, rfl⟩⟩ y m c news hn (hc y rfl) h1c b1 b2 (Nat.le_refl _)
        exact ⟨v', w', hr, (Below.refl _ _).grown r2 (Nat.le_refl _) (fun k e => by simp [Value.ownBlock] at e), .inr ⟨by omega, r1⟩⟩
      | some b =>
        obtain ⟨v', w', hr, r1, r2⟩ := run_append_arg_grows (P := P) w t ty e i z size bytes h1 h2 h3 h4 h5 h6 h7 b n n olds hlo (holds b rfl) y m c news hn (hc y rfl) (by omega) b1 b2
        exact ⟨v', w', hr, (Below.refl _ _).grown r2 (Nat.le_refl _) (fun k e => by simp at e), .inr ⟨by omega, r1⟩⟩

theorem own_int {w : World} {B n : Nat} {v : Value} {l : List Int} (h : w.ownsRow B 3 1 v n (inVs l)) (hn : n = l.length) (h0 : 0 < n) : ∃ g d, v = .slice (some ⟨g, 0, none⟩) n d ∧ SlI w (some ⟨g, 0, none⟩) l ∧ n ≤ d ∧ B ≤ g := by
  rcases h.2 with ⟨hv, h2⟩ | ⟨g, cap, cur, hv, h2, h3, h4, h5, h6, h7⟩
  · omega
  · subst hv
    exact ⟨g, cap, rfl, SlI.own h hn, h4, h2⟩
theorem own_od {w : World} {B n : Nat} {v : Value} {l : List Od} (h : w.ownsRow B 51 5 v n (odVs l)) (hn : n = l.length) (h0 : 0 < n) : ∃ g d, v = .slice (some ⟨g, 0, none⟩) n d ∧ SlD w (some ⟨g, 0, none⟩) l ∧ n ≤ d ∧ B ≤ g := by
  rcases h.2 with ⟨hv, h2⟩ | ⟨g, cap, cur, hv, h2, h3, h4, h5, h6, h7⟩
  · omega
  · subst hv
    exact ⟨g, cap, rfl, SlD.own h hn, h4, h2⟩

/-- What is told: it lies in new memory, or it is what was there, and nothing was put behind it. -/
def NewOr (w : World) (ao a' : Option Addr) (m : Nat) : Prop := (m = 0 ∧ a' = ao) ∨ ∃ g, a' = some ⟨g, 0, none⟩ ∧ w.heap.size ≤ g
theorem sl_cells {w : World} {a : Option Addr} {l : List Int} (h : SlI w a l) : ∀ b, a = some b → ∀ j u, (inVs l)[j]? = some u → w.cell? (b.add j) = some u := by
  intro b hb j u hj
  subst hb
  have hil := (List.getElem?_eq_some_iff.1 hj).1
  obtain ⟨b', o', e, -, -⟩ := h.at j (by simpa [inVs] using hil)
  cases e
  have := h.sl 0 j u (by simpa using hj)
  simpa using this
theorem sd_cells {w : World} {a : Option Addr} {l : List Od} (h : SlD w a l) : ∀ b, a = some b → ∀ j u, (odVs l)[j]? = some u → w.cell? (b.add j) = some u := by
  intro b hb j u hj
  subst hb
  have hil := (List.getElem?_eq_some_iff.1 hj).1
  rw [odVs_len] at hil
  obtain ⟨b', o', e, -, -⟩ := h.at 0 (by omega)
  cases e
  exact h.news j u hj
theorem one_inVs (l : List Int) : ∀ u ∈ inVs l, u.oneCell' = true := by
  intro u hu
  simp only [inVs, List.mem_map] at hu
  obtain ⟨x, -, rfl⟩ := hu
  rfl
theorem one_odVs (l : List Od) : ∀ u ∈ odVs l, u.oneCell' = true := by
  intro u hu
  simp only [odVs, List.mem_flatMap, odC, List.mem_cons, List.not_mem_nil, or_false] at hu
  obtain ⟨x, -, rfl | rfl | rfl | rfl | rfl⟩ := hu <;> rfl
theorem inVs_append (l m : List Int) : inVs (l ++ m) = inVs l ++ inVs m := by simp [inVs]

/-- Of numbers (slices of type t). -/
theorem run_full_int (w : World) (t ty : TypeId) (i : TypeInfo) (z : Value) (h1 : Try.prog.underlying t = some (.slice 3)) (h2 : Try.prog.info? 3 = some i) (h3 : i.zero = some z) (h4 : i.size = 1) (h5 : i.bytes = 8) (h6 : z.cells.size = 1)
    (ao : Option Addr) (l : List Int) (hl : SlI w ao l) (so : Option Addr) (c : Nat) (k : List Int) (hk : SlI w so k) (b1 : l.length + k.length ≤ 1000000) :
    ∃ a' d w', (Builtin.append_ #[t, t] ty #[.slice ao l.length l.length, .slice so k.length c]).run Try.prog w = .ok (.slice a' (l ++ k).length d) w' ∧ Below w.heap.size w w' ∧ SlI w' a' (l ++ k) ∧ (l ++ k).length ≤ d ∧ NewOr w ao a' k.length ∧ (k = [] → d = l.length) := by
  obtain ⟨v', w', hr, hb, hv⟩ := run_full (P := Try.prog) w t ty 3 i z 1 8 h1 h2 h3 h4 h5 h6 (by omega) ao l.length (inVs l) (fun e => by simp [hl.nonil e]) (by simp [inVs]) (sl_cells hl) so k.length c (inVs k) (fun e => by simp [hk.nonil e]) (by simp [inVs]) (sl_cells hk) (one_inVs k) (by unfold maxLen; omega) (by omega)
  rcases hv with ⟨h0, rfl, rfl⟩ | ⟨h0, hown⟩
  · have : k = [] := List.eq_nil_of_length_eq_zero h0
    subst this
    exact ⟨ao, l.length, _, by simpa using hr, hb, by simpa using hl, by simp, .inl ⟨rfl, rfl⟩, fun _ => rfl⟩
  · rw [← inVs_append] at hown
    obtain ⟨g, d, rfl, e1, e2, e3⟩ := own_int hown (by simp) (by omega)
    exact ⟨_, d, w', by rw [hr]; simp, hb, e1, by simpa using e2, .inr ⟨g, rfl, e3⟩, fun e => by subst e; simp at h0⟩
/-- Of orders. -/
theorem run_full_od (w : World) (t ty : TypeId) (i : TypeInfo) (z : Value) (h1 : Try.prog.underlying t = some (.slice 51)) (h2 : Try.prog.info? 51 = some i) (h3 : i.zero = some z) (h4 : i.size = 5) (h5 : i.bytes = 40) (h6 : z.cells.size = 5)
    (ao : Option Addr) (l : List Od) (hl : SlD w ao l) (so : Option Addr) (c : Nat) (k : List Od) (hk : SlD w so k) (b1 : l.length + k.length ≤ 1000000) :
    ∃ a' d w', (Builtin.append_ #[t, t] ty #[.slice ao l.length l.length, .slice so k.length c]).run Try.prog w = .ok (.slice a' (l ++ k).length d) w' ∧ Below w.heap.size w w' ∧ SlD w' a' (l ++ k) ∧ (l ++ k).length ≤ d ∧ NewOr w ao a' k.length ∧ (k = [] → d = l.length) := by
  obtain ⟨v', w', hr, hb, hv⟩ := run_full (P := Try.prog) w t ty 51 i z 5 40 h1 h2 h3 h4 h5 h6 (by omega) ao l.length (odVs l) (fun e => by simp [hl.nonil e]) (odVs_len l) (sd_cells hl) so k.length c (odVs k) (fun e => by simp [hk.nonil e]) (odVs_len k) (sd_cells hk) (one_odVs k) (by unfold maxLen; omega) (by omega)
  rcases hv with ⟨h0, rfl, rfl⟩ | ⟨h0, hown⟩
  · have : k = [] := List.eq_nil_of_length_eq_zero h0
    subst this
    exact ⟨ao, l.length, _, by simpa using hr, hb, by simpa using hl, by simp, .inl ⟨rfl, rfl⟩, fun _ => rfl⟩
  · rw [← odVs_append] at hown
    obtain ⟨g, d, rfl, e1, e2, e3⟩ := own_od hown (by simp) (by omega)
    exact ⟨_, d, w', by rw [hr]; simp, hb, e1, by simpa using e2, .inr ⟨g, rfl, e3⟩, fun e => by subst e; simp at h0⟩

theorem info3 : ∃ i z, Try.prog.info? 3 = some i ∧ i.zero = some z ∧ i.size = 1 ∧ i.bytes = 8 ∧ z.cells.size = 1 := ⟨_, _, rfl, rfl, rfl, rfl, rfl⟩
theorem info51 : ∃ i z, Try.prog.info? 51 = some i ∧ i.zero = some z ∧ i.size = 5 ∧ i.bytes = 40 ∧ z.cells.size = 5 := ⟨_, _, rfl, rfl, rfl, rfl, rfl⟩
section
variable {ops : Array Oper} {rest : List Oper} {o : Oper} {a : Act} {w : World} {Q : Exit → Act → World → Prop} {K : Act → World → Prop} {E : Prop}
theorem wpList_of_run (hg : o.guard = none) (s x : Operand) (t : TypeId) (hop : o.op = Op.call { callee := Callee.builtin Builtin.append, args := #[s, x], argTypes := #[t, t] }) {vs vx v' : Value} {w' : World} (hs : a.eval s = vs) (hx : a.eval x = vx)
    (hr : (Builtin.append_ #[t, t] o.type #[vs, vx]).run Try.prog w = .ok v' w') (hK : wpList Try.prog ops Q rest (a.put o.dst v') w') : wpList Try.prog ops Q (o :: rest) a w := by
  refine wpList_plain hg fun K hK' => ?_
  unfold Oper.wp
  simp [execOp, hop, resolve, invoke, builtin, hs, hx, hr, Result.andThen]
  exact hK' _ _ hK
theorem step_of_run (hg : o.guard = none) (s x : Operand) (t : TypeId) (hop : o.op = Op.call { callee := Callee.builtin Builtin.append, args := #[s, x], argTypes := #[t, t] }) {vs vx v' : Value} {w' : World} (hs : a.eval s = vs) (hx : a.eval x = vx)
    (hr : (Builtin.append_ #[t, t] o.type #[vs, vx]).run Try.prog w = .ok v' w') (hK : K (a.put o.dst v') w') : if Region.wanted o (yielded ops a.tmps) = true then Oper.wp Try.prog o a w K Q else E := by
  have hw : Region.wanted o (yielded ops a.tmps) = true := by simp [Region.wanted, hg]
  rw [if_pos hw]
  unfold Oper.wp
  simp [execOp, hop, resolve, invoke, builtin, hs, hx, hr, Result.andThen]
  exact hK
theorem wpList_fullI (hg : o.guard = none) (s x : Operand) (t : TypeId) (hop : o.op = Op.call { callee := Callee.builtin Builtin.append, args := #[s, x], argTypes := #[t, t] }) (h1 : Try.prog.underlying t = some (.slice 3))
    (ao : Option Addr) (l : List Int) (n n' m : Nat) (hs : a.eval s = .slice ao n n') (hn : n = l.length) (hn' : n' = l.length) (hl : SlI w ao l) (so : Option Addr) (c : Nat) (k : List Int) (hx : a.eval x = .slice so m c) (hm : m = k.length) (hk : SlI w so k) (b1 : l.length + k.length ≤ 1000000)
    (hK : ∀ a' d w', Below w.heap.size w w' → SlI w' a' (l ++ k) → (l ++ k).length ≤ d → NewOr w ao a' k.length → (k = [] → d = l.length) → wpList Try.prog ops Q rest (a.put o.dst (.slice a' (l ++ k).length d)) w') : wpList Try.prog ops Q (o :: rest) a w := by
  rw [hn, hn'] at hs
  rw [hm] at hx
  obtain ⟨i, z, h2, h3, h4, h5, h6⟩ := info3
  obtain ⟨a', d, w', hr, e1, e2, e3, e4, e5⟩ := run_full_int w t o.type i z h1 h2 h3 h4 h5 h6 ao l hl so c k hk b1
  exact wpList_of_run hg s x t hop hs hx hr (hK a' d w' e1 e2 e3 e4 e5)
theorem step_fullI (hg : o.guard = none) (s x : Operand) (t : TypeId) (hop : o.op = Op.call { callee := Callee.builtin Builtin.append, args := #[s, x], argTypes := #[t, t] }) (h1 : Try.prog.underlying t = some (.slice 3))
    (ao : Option Addr) (l : List Int) (n n' m : Nat) (hs : a.eval s = .slice ao n n') (hn : n = l.length) (hn' : n' = l.length) (hl : SlI w ao l) (so : Option Addr) (c : Nat) (k : List Int) (hx : a.eval x = .slice so m c) (hm : m = k.length) (hk : SlI w so k) (b1 : l.length + k.length ≤ 1000000)
    (hK : ∀ a' d w', Below w.heap.size w w' → SlI w' a' (l ++ k) → (l ++ k).length ≤ d → NewOr w ao a' k.length → (k = [] → d = l.length) → K (a.put o.dst (.slice a' (l ++ k).length d)) w') : if Region.wanted o (yielded ops a.tmps) = true then Oper.wp Try.prog o a w K Q else E := by
  rw [hn, hn'] at hs
  rw [hm] at hx
  obtain ⟨i, z, h2, h3, h4, h5, h6⟩ := info3
  obtain ⟨a', d, w', hr, e1, e2, e3, e4, e5⟩ := run_full_int w t o.type i z h1 h2 h3 h4 h5 h6 ao l hl so c k hk b1
  exact step_of_run hg s x t hop hs hx hr (hK a' d w' e1 e2 e3 e4 e5)
theorem wpList_fullD (hg : o.guard = none) (s x : Operand) (t : TypeId) (hop : o.op = Op.call { callee := Callee.builtin Builtin.append, args := #[s, x], argTypes := #[t, t] }) (h1 : Try.prog.underlying t = some (.slice 51))
    (ao : Option Addr) (l : List Od) (n n' m : Nat) (hs : a.eval s = .slice ao n n') (hn : n = l.length) (hn' : n' = l.length) (hl : SlD w ao l) (so : Option Addr) (c : Nat) (k : List Od) (hx : a.eval x = .slice so m c) (hm : m = k.length) (hk : SlD w so k) (b1 : l.length + k.length ≤ 1000000)
    (hK : ∀ a' d w', Below w.heap.size w w' → SlD w' a' (l ++ k) → (l ++ k).length ≤ d → NewOr w ao a' k.length → (k = [] → d = l.length) → wpList Try.prog ops Q rest (a.put o.dst (.slice a' (l ++ k).length d)) w') : wpList Try.prog ops Q (o :: rest) a w := by
  rw [hn, hn'] at hs
  rw [hm] at hx
  obtain ⟨i, z, h2, h3, h4, h5, h6⟩ := info51
  obtain ⟨a', d, w', hr, e1, e2, e3, e4, e5⟩ := run_full_od w t o.type i z h1 h2 h3 h4 h5 h6 ao l hl so c k hk b1
  exact wpList_of_run hg s x t hop hs hx hr (hK a' d w' e1 e2 e3 e4 e5)
end
end Go.Proofs.Ytdlanenbbmnbhaa
