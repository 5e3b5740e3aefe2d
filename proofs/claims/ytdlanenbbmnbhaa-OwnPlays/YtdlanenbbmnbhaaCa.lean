/-
  at, isInst, Index, Contains, with, rest, without, order, leave.
-/
import Derived.Test.YtdlanenbbmnbhaaBb
namespace Go.Proofs.Ytdlanenbbmnbhaa
open Go.RowKit

theorem at_nil (k : Int) (w : World) : Calls Try.prog 31 #[.pointer none, .int .i64 k] w fun e w' => e = .returned (.pointer none) ∧ w' = w := by
  go_enter Try.func31, Try.ntmps31
  go_wp2
  go_ret
  exact ⟨rfl, rfl⟩
theorem at_yes (p q : Nat) (l : List Lf) (i : Nat) (w : World) (h : Bk w p q l) (hi : i < l.length) :
    Calls Try.prog 31 #[.pointer (some ⟨p, 0, none⟩), .int .i64 (i : Int)] w fun e w' => e = .returned (.pointer (some ⟨q, i * 6, none⟩)) ∧ w' = w := by
  obtain ⟨c, hc⟩ := h.at
  have hm := h.most
  clear h
  go_enter Try.func31, Try.ntmps31
  go_wp2
  go_ret
  exact ⟨by simp, rfl⟩
theorem at_no (p q : Nat) (l : List Lf) (k : Int) (w : World) (h : Bk w p q l) (hk : ¬ (0 ≤ k ∧ k < l.length)) :
    Calls Try.prog 31 #[.pointer (some ⟨p, 0, none⟩), .int .i64 k] w fun e w' => e = .returned (.pointer none) ∧ w' = w := by
  obtain ⟨c, hc⟩ := h.at
  have hm := h.most
  clear h
  by_cases h0 : k < 0
  · go_enter Try.func31, Try.ntmps31
    go_wp2
    go_ret
    exact ⟨rfl, rfl⟩
  · have h1 : ¬ k < (l.length : Int) := fun e => hk ⟨by omega, e⟩
    clear hk
    go_enter Try.func31, Try.ntmps31
    go_wp2
    go_ret
    exact ⟨rfl, rfl⟩
theorem inst_any (k : Int) (w : World) : Calls Try.prog 32 #[.int .i64 k] w fun e w' => e = .returned (.bool (instB k)) ∧ w' = w := by
  by_cases h : 1 ≤ k
  · go_enter Try.func32, Try.ntmps32
    go_wp2
    go_ret
    exact ⟨by simp [instB, h], rfl⟩
  · go_enter Try.func32, Try.ntmps32
    go_wp2
    go_ret
    exact ⟨by simp [instB]; omega, rfl⟩

/-- Where a number is first. -/
def IdxR (l : List Int) (k v : Int) : Prop := (v = -1 ∧ k ∉ l) ∨ ∃ i : Nat, v = (i : Int) ∧ ∃ hi : i < l.length, l[i] = k ∧ ∀ j (hj : j < l.length), j < i → l[j] ≠ k
theorem index_any (a : Option Addr) (c : Nat) (l : List Int) (k : Int) (w : World) (h : SlI w a l) (hl : l.length ≤ 1000000) :
    Calls Try.prog 41 #[.slice a l.length c, .int .i64 k] w fun e w' => (∃ v, e = .returned (.int .i64 v) ∧ IdxR l k v) ∧ w' = w := by
  have HS := toHid h
  clear h
  go_enter Try.func41, Try.ntmps41
  go_wp2_with fail
  go_loopw [8] (fun i wr => ∃ n : Nat, n ≤ l.length ∧ i = .int .i64 n ∧ (∀ j (hj : j < l.length), j < n → l[j] ≠ k) ∧ wr = w) (fun i _ => l.length - (intOf i).toNat)
  case atStart => exact ⟨0, Nat.zero_le _, rfl, fun j _ hj => absurd hj (by omega), rfl⟩
  case round =>
    obtain ⟨n, hn, rfl, hup, rfl⟩ := hrel
    have HU := toHid hup
    clear hup
    by_cases hlt : n < l.length
    · obtain ⟨b, o, rfl, hbl, c0⟩ := HS.out.at n hlt
      by_cases hp : l[n] = k
      · have HP := toHid hp
        rw [hp] at c0
        clear hp
        go_wp2
        go_ret
        exact ⟨⟨_, rfl, .inr ⟨n, rfl, hlt, HP.out, HU.out⟩⟩, rfl⟩
      · have hp' : k ≠ l[n] := fun e => hp e.symm
        go_wp2_with fail
        go_roundw
        case rel =>
          refine ⟨n + 1, by omega, by simp, fun j hj hjn => ?_, by first | rfl | trivial⟩
          by_cases e : j = n
          · subst e; exact hp
          · exact HU.out j hj (by omega)
        case measure => first | omega | (simp only [intOf]; omega)
    · obtain rfl : n = l.length := by omega
      go_wp2
      go_ret
      refine ⟨⟨-1, rfl, .inl ⟨rfl, fun e => ?_⟩⟩, rfl⟩
      obtain ⟨j, hj, rfl⟩ := List.getElem_of_mem e
      exact HU.out j hj hj rfl
theorem contains_any (a : Option Addr) (c : Nat) (l : List Int) (k : Int) (w : World) (h : SlI w a l) (hl : l.length ≤ 1000000) :
    Calls Try.prog 33 #[.slice a l.length c, .int .i64 k] w fun e w' => e = .returned (.bool (decide (k ∈ l))) ∧ w' = w := by
  have HI := toHid (index_any a c l k w h hl)
  clear h
  go_enter Try.func33, Try.ntmps33
  go_wp2_with fail
  refine Calls.mono HI.out ?_
  rintro e w1 ⟨⟨v, rfl, hv⟩, hw⟩
  obtain rfl := hw.symm
  clear HI
  rcases hv with ⟨rfl, hn⟩ | ⟨i, rfl, hi, e1, -⟩
  · have HN := toHid hn
    clear hn
    go_wp2
    go_ret
    exact ⟨by simp [HN.out], rfl⟩
  · have HN : Hid (k ∈ l) := by rw [← e1]; exact List.getElem_mem hi
    clear e1
    go_wp2
    go_ret
    exact ⟨by simp [HN.out], rfl⟩

theorem sl_one (w : World) (k : Int) : SlI (w.alloc (.cells #[.int .i64 k] 3)) (some ⟨w.heap.size, 0, none⟩) [k] :=
  ⟨fun e => by simp at e, fun x hx i u hu => by
    obtain rfl : _ = x := by simpa using hx
    obtain rfl : i = 0 := by have := (List.getElem?_eq_some_iff.1 hu).1; simpa using this
    simp at hu
    subst hu
    have hb : (w.alloc (.cells #[.int .i64 k] 3)).heap[w.heap.size]? = some (.cells #[.int .i64 k] 3) := heap_alloc_new w _
    exact ⟨rfl, by unfold World.cell?; rw [hb]; simp⟩, fun x hx _ => by
    obtain rfl : _ = x := by simpa using hx
    exact ⟨_, heap_alloc_new w _⟩⟩
theorem with_any (a : Option Addr) (c : Nat) (l : List Int) (k : Int) (w : World) (h : SlI w a l) (hl : l.length ≤ 1000) (hc : l.length ≤ c) :
    Calls Try.prog 34 #[.slice a l.length c, .int .i64 k] w fun e w' => (∃ g d, e = .returned (.slice (some ⟨g, 0, none⟩) (l ++ [k]).length d) ∧ SlI w' (some ⟨g, 0, none⟩) (l ++ [k]) ∧ (l ++ [k]).length ≤ d ∧ w.heap.size ≤ g) ∧ Below w.heap.size w w' := by
  have HS := toHid (h.below ((Below.refl w.heap.size w).alloc (Nat.le_refl _) (.cells #[.int .i64 k] 3)))
  have HO := toHid (sl_one w k)
  have HB := toHid ((Below.refl w.heap.size w).alloc (Nat.le_refl _) (.cells #[.int .i64 k] 3))
  have HN := toHid h.nonil
  have hsz : (w.alloc (.cells #[.int .i64 k] 3)).heap.size = w.heap.size + 1 := by simp
  have HZ := toHid hsz
  clear h hsz
  cases a with
  | none =>
    obtain rfl : l = [] := HN.out rfl
    clear HN
    go_enter Try.func34, Try.ntmps34
    go_wp2_with (at_builtin; refine wpList_fullI rfl (.tmp 10) (.tmp 12) 61 rfl Try.underlying61 none [] _ _ _ rfl rfl rfl HS.out _ 1 [k] rfl rfl HO.out (by simp) ?_; intro a' d w' hb hsl hle hnw _)
    go_ret
    rcases hnw with ⟨h0, -⟩ | ⟨g, rfl, hg⟩
    · simp at h0
    · rw [HZ.out] at hg
      exact ⟨⟨g, d, rfl, hsl, hle, by omega⟩, HB.out.trans (hb.mono (by rw [HZ.out]; omega))⟩
  | some b =>
    clear HN
    go_enter Try.func34, Try.ntmps34
    go_wp2_with (at_builtin; refine wpList_fullI rfl (.tmp 10) (.tmp 12) 61 rfl Try.underlying61 (some b) l _ _ _ rfl rfl rfl HS.out _ 1 [k] rfl rfl HO.out (by simp; omega) ?_; intro a' d w' hb hsl hle hnw _)
    go_ret
    rcases hnw with ⟨h0, -⟩ | ⟨g, rfl, hg⟩
    · simp at h0
    · rw [HZ.out] at hg
      exact ⟨⟨g, d, by simp, hsl, hle, by omega⟩, HB.out.trans (hb.mono (by rw [HZ.out]; omega))⟩

theorem SlI.tail {w : World} {b o : Nat} {k : Int} {r : List Int} (h : SlI w (some ⟨b, o, none⟩) (k :: r)) : SlI w (some ⟨b, o + 1, none⟩) r :=
  ⟨fun e => by simp at e, fun x hx i t ht => by
    obtain rfl : _ = x := by simpa using hx
    have := (h.cells _ rfl (i + 1) t (by simpa using ht)).2
    exact ⟨rfl, by simpa [Nat.add_assoc, Nat.add_comm 1 i] using this⟩, fun x hx _ => by
    obtain rfl : _ = x := by simpa using hx
    exact h.typ ⟨b, o, none⟩ rfl (by simp)⟩
theorem rest_any (a : Option Addr) (c : Nat) (k : Int) (r : List Int) (w : World) (h : SlI w a (k :: r)) (hl : r.length ≤ 1000) (hc : (k :: r).length ≤ c) :
    Calls Try.prog 45 #[.slice a (k :: r).length c] w fun e w' => (∃ a', e = .returned (.slice a' r.length r.length) ∧ SlI w a' r ∧ ∀ x, a' = some x → ∃ y, a = some y ∧ x.block = y.block) ∧ w' = w := by
  obtain ⟨b, o, rfl, -, -⟩ := h.at 0 (by simp)
  have HT := toHid h.tail
  clear h
  cases r with
  | nil =>
    simp only [List.length_cons, List.length_nil] at hc ⊢
    go_enter Try.func45, Try.ntmps45
    go_wp2
    go_ret
    exact ⟨⟨_, rfl, SlI.nil _ _, fun x hx => ⟨_, rfl, by cases hx; rfl⟩⟩, rfl⟩
  | cons k2 r2 =>
    simp only [List.length_cons] at hc hl ⊢
    go_enter Try.func45, Try.ntmps45
    go_wp2
    go_ret
    refine ⟨⟨_, ?_, HT.out, fun x hx => ⟨_, rfl, by cases hx; rfl⟩⟩, rfl⟩
    simp
end Go.Proofs.Ytdlanenbbmnbhaa
