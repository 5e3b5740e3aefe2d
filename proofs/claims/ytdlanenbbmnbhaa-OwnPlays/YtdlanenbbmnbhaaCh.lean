/-
  Has: an instance's pages.
-/
import Derived.Test.YtdlanenbbmnbhaaCb
import Derived.Laws.AppendOwnNone
namespace Go.Proofs.Ytdlanenbbmnbhaa
open Go.RowKit

theorem own_any {w : World} {B n : Nat} {v : Value} {l : List Int} (h : w.ownsRow B 3 1 v n (inVs l)) (hn : n = l.length) : ∃ a c, v = .slice a l.length c ∧ SlI w a l ∧ ∀ x, a = some x → B ≤ x.block := by
  rcases h.2 with ⟨hv, h2⟩ | ⟨g, cap, cur, hv, h2, h3, h4, h5, h6, h7⟩
  · subst hv
    have : l = [] := List.eq_nil_of_length_eq_zero (by omega)
    subst this
    exact ⟨none, 0, rfl, SlI.nil _ _, fun x e => by simp at e⟩
  · subst hv
    exact ⟨_, cap, by rw [hn], SlI.own h hn, fun x hx => by cases hx; exact h2⟩
theorem hasN_len (l : List Lf) (k : Int) : ∀ n, (hasN l k n).length ≤ n
  | 0 => Nat.le_refl _
  | n + 1 => by
    have := hasN_len l k n
    simp only [hasN, List.length_append]
    split <;> simp <;> omega
theorem hasN_at {l : List Lf} {k : Int} {n : Nat} (hn : n < l.length) : hasN l k (n + 1) = if l[n].owner = k then hasN l k n ++ [(n : Int)] else hasN l k n := by
  simp only [hasN]
  rw [List.getD_eq_getElem?_getD, List.getElem?_eq_getElem hn, Option.getD_some]
  split <;> simp
theorem ownsRow_nilI (w : World) (B : Nat) : w.ownsRow B 3 1 (.slice none 0 0) 0 (inVs []) := ⟨by simp [inVs], .inl ⟨rfl, rfl⟩⟩
theorem cell_new1 (w : World) (v : Value) (t : TypeId) : ∀ j u, [v][j]? = some u → (w.alloc (.cells #[v] t)).cell? ((⟨w.heap.size, 0, none⟩ : Addr).add j) = some u := by
  intro j u hj
  obtain rfl : j = 0 := by have := (List.getElem?_eq_some_iff.1 hj).1; simpa using this
  simp at hj
  subst hj
  have h1 : (w.alloc (.cells #[v] t)).heap[w.heap.size]? = some (.cells #[v] t) := heap_alloc_new w _
  rw [add_cell]
  unfold World.cell?
  rw [h1]
  simp

theorem own_blk {w : World} {B e size n : Nat} {v : Value} {xs : List Value} (h : w.ownsRow B e size v n xs) : ∀ k, v.ownBlock = some k → B ≤ k := by
  rcases h.2 with ⟨hv, -⟩ | ⟨g, cap, cur, hv, h2, -⟩
  · subst hv; intro k hk; simp [Value.ownBlock] at hk
  · subst hv; intro k hk; simp [Value.ownBlock] at hk; omega
section
variable {ops : Array Oper} {rest : List Oper} {o : Oper} {a : Act} {w : World} {Q : Exit → Act → World → Prop}
theorem wpList_ownI (hg : o.guard = none) (s x : Operand) (t : TypeId) (hop : o.op = Op.call { callee := Callee.builtin Builtin.append, args := #[s, x], argTypes := #[t, t] }) (h1 : Try.prog.underlying t = some (.slice 3))
    (B : Nat) (v : Value) (n : Nat) (l : List Int) (hs : a.eval s = v) (hown : w.ownsRow B 3 1 v n (inVs l)) (ad : Addr) (c : Nat) (k : Int) (hx : a.eval x = .slice (some ad) 1 c) (hc : ∀ j u, [Value.int .i64 k][j]? = some u → w.cell? (ad.add j) = some u) (b : n ≤ 1000000) (hB : B ≤ w.heap.size)
    (hK : ∀ v' w', w'.ownsRow B 3 1 v' (n + 1) (inVs (l ++ [k])) → Below B w w' → wpList Try.prog ops Q rest (a.put o.dst v') w') : wpList Try.prog ops Q (o :: rest) a w := by
  obtain ⟨i, z, h2, h3, h4, h5, h6⟩ := info3
  obtain ⟨v', w', hr, r1, r2, -⟩ := run_append_own (P := Try.prog) w B t o.type 3 i z 1 8 h1 h2 h3 h4 h5 h6 (by omega) v n (inVs l) hown ad 1 c [.int .i64 k] rfl hc (by intro u hu; simp at hu; subst hu; rfl) (by unfold maxLen; omega) (by omega) hB
  refine wpList_of_run hg s x t hop hs hx hr (hK v' w' (by rw [inVs_append]; exact r1) ((Below.refl B w).grown r2 hB (own_blk hown)))
end

set_option maxHeartbeats 2000000 in
theorem has_any (p q : Nat) (l : List Lf) (k : Int) (w : World) (h : Bk w p q l) :
    Calls Try.prog 22 #[.pointer (some ⟨p, 0, none⟩), .int .i64 k] w fun e w' => (∃ a c, e = .returned (.slice a (hasL l k).length c) ∧ SlI w' a (hasL l k) ∧ ∀ x, a = some x → w.heap.size ≤ x.block) ∧ Below w.heap.size w w' := by
  have HI := toHid (inst_any k w)
  cases hk : instB k
  · have e : hasL l k = [] := by unfold hasL; rw [hk]; simp
    rw [e]
    rw [hk] at HI
    clear h hk e
    go_enter Try.func22, Try.ntmps22
    go_wp2_with fail
    refine Calls.mono HI.out ?_
    rintro e w1 ⟨rfl, hw⟩
    obtain rfl := hw.symm
    clear HI
    go_wp2
    go_ret
    exact ⟨⟨none, 0, rfl, SlI.nil _ _, fun x e => by simp at e⟩, Below.refl _ _⟩
  · have e : hasL l k = hasN l k l.length := by unfold hasL; rw [hk]; simp
    rw [e]
    rw [hk] at HI
    obtain ⟨c0, hc0⟩ := h.at
    have hm := h.most
    have HH := toHid h
    clear h hk e
    go_enter Try.func22, Try.ntmps22
    go_wp2_with fail
    refine Calls.mono HI.out ?_
    rintro e w1 ⟨rfl, hw⟩
    obtain rfl := hw.symm
    clear HI
    go_wp2_with fail
    go_loopw [20, 5] (fun i s wr => ∃ n : Nat, n ≤ l.length ∧ i = .int .i64 n ∧ wr.ownsRow w.heap.size 3 1 s (hasN l k n).length (inVs (hasN l k n)) ∧ Below w.heap.size w wr) (fun i _ _ => l.length - (intOf i).toNat)
    case atStart => exact ⟨0, Nat.zero_le _, rfl, ownsRow_nilI _ _, Below.refl _ _⟩
    case round =>
      obtain ⟨n, hn, rfl, hown, hB⟩ := hrel
      have HOw := toHid hown
      have HB := toHid hB
      clear hown
      by_cases hlt : n < l.length
      · obtain ⟨a, c, p0, p1, p2, p3, p4, p5, -, -, -, -⟩ := (HH.out.below hB).page n hlt
        have hsz := hB.size
        clear hB
        have e := hasN_at (k := k) hlt
        by_cases ho : l[n].owner = k
        · rw [if_pos ho] at e
          rw [ho] at p2
          have hl := hasN_len l k n
          have HN := toHid e
          have HW := toHid ((HOw.out.alloc (.cells #[.int .i64 n, .bool l[n].fast, .int .i64 k, .bool l[n].lost, .bool l[n].called, .slice a l[n].ws.length c] 63)).alloc (.cells #[.int .i64 n] 3))
          have HBW := toHid ((HB.out.alloc hsz (.cells #[.int .i64 n, .bool l[n].fast, .int .i64 k, .bool l[n].lost, .bool l[n].called, .slice a l[n].ws.length c] 63)).alloc (by simp; omega) (.cells #[.int .i64 n] 3))
          have HCN := toHid (cell_new1 (wr.alloc (.cells #[.int .i64 n, .bool l[n].fast, .int .i64 k, .bool l[n].lost, .bool l[n].called, .slice a l[n].ws.length c] 63)) (.int .i64 (n : Int)) 3)
          rw [show (wr.alloc (.cells #[.int .i64 n, .bool l[n].fast, .int .i64 k, .bool l[n].lost, .bool l[n].called, .slice a l[n].ws.length c] 63)).heap.size = wr.heap.size + 1 from by simp] at HCN
          clear e ho
          go_wp2_with (at_builtin; refine wpList_ownI rfl (.tmp 28) (.tmp 31) 42 rfl Try.underlying42 w.heap.size _ _ _ rfl HW.out _ 1 (n : Int) rfl HCN.out (by omega) HBW.out.size ?_; intro v' w' ho2 hb2)
          go_roundw
          case rel => exact ⟨n + 1, by omega, by simp, by rw [HN.out]; simpa using ho2, HBW.out.trans hb2⟩
          case measure => first | omega | (simp only [intOf]; omega)
        · rw [if_neg ho] at e
          have hob : (l[n].owner == k) = false := by simpa using ho
          have HN := toHid e
          have HW := toHid (HOw.out.alloc (.cells #[.int .i64 n, .bool l[n].fast, .int .i64 l[n].owner, .bool l[n].lost, .bool l[n].called, .slice a l[n].ws.length c] 63))
          have HBW := toHid (HB.out.alloc hsz (.cells #[.int .i64 n, .bool l[n].fast, .int .i64 l[n].owner, .bool l[n].lost, .bool l[n].called, .slice a l[n].ws.length c] 63))
          clear e ho
          go_wp2_with fail
          go_roundw
          case rel => exact ⟨n + 1, by omega, by simp, by rw [HN.out]; exact HW.out, HBW.out⟩
          case measure => first | omega | (simp only [intOf]; omega)
      · obtain rfl : n = l.length := by omega
        go_wp2
        go_ret
        obtain ⟨a, c, rfl, h1, h2⟩ := own_any HOw.out rfl
        exact ⟨⟨a, c, rfl, h1, h2⟩, HB.out⟩
end Go.Proofs.Ytdlanenbbmnbhaa
