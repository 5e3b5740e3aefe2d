/-
  serve: give, and then call.
-/
import Derived.Test.YtdlanenbbmnbhaaCc
import Derived.Test.YtdlanenbbmnbhaaCd
namespace Go.Proofs.Ytdlanenbbmnbhaa
open Go.RowKit

theorem give_any (p q : Nat) (l : List Lf) (i : Nat) (w : World) (h : Bk w p q l) (hi : i < l.length) (hl : l[i].ws.length ≤ 100) :
    Calls Try.prog 42 #[.pointer (some ⟨q, i * 6, none⟩)] w fun e w' => (∃ v, e = .returned v ∧ OrdN w w' v (giveF (i : Int) l[i]).2) ∧ Bk w' p q (l.set i (giveF (i : Int) l[i]).1) ∧ One q w w' := by
  by_cases hc : l[i].lost = true ∨ l[i].owner ≠ 0
  · have hg : giveF (i : Int) l[i] = (l[i], []) := by unfold giveF; rw [if_pos hc]
    exact (give_no p q l i w h hi hg (hc.elim .inl (fun e => .inr (.inl e)))).mono fun e w' ⟨h1, h2, h3⟩ => ⟨h1, h2, by rw [h3]; exact One.refl q w⟩
  · have h1 : l[i].lost = false := by cases e : l[i].lost <;> simp_all
    have h2 : l[i].owner = 0 := by simp_all
    cases hw : l[i].ws with
    | nil =>
      have hg : giveF (i : Int) l[i] = (l[i], []) := by unfold giveF; rw [if_neg hc, hw]
      exact (give_no p q l i w h hi hg (.inr (.inr hw))).mono fun e w' ⟨h1, h2, h3⟩ => ⟨h1, h2, by rw [h3]; exact One.refl q w⟩
    | cons k r =>
      have hg : giveF (i : Int) l[i] = (⟨l[i].fast, k, false, l[i].called, r⟩, [⟨1, (i : Int), 0, k, l[i].fast⟩]) := by unfold giveF; rw [if_neg hc, hw, h1]
      rw [hg]
      exact give_yes p q l i k r w h hi h1 h2 hw (by rw [hw] at hl; simp only [List.length_cons] at hl; omega)
theorem call_any (p q : Nat) (l : List Lf) (i : Nat) (w : World) (h : Bk w p q l) (hi : i < l.length) (hl : l[i].ws.length ≤ 100) :
    Calls Try.prog 43 #[.pointer (some ⟨q, i * 6, none⟩)] w fun e w' => (∃ v, e = .returned v ∧ OrdN w w' v (callF (i : Int) l[i]).2) ∧ Bk w' p q (l.set i (callF (i : Int) l[i]).1) ∧ One q w w' := by
  by_cases hc : l[i].owner = 0 ∨ l[i].called = true
  · have hg : callF (i : Int) l[i] = (l[i], []) := by unfold callF; rw [if_pos hc]
    rw [hg]
    exact (call_no p q l i w h hi (hc.elim .inl (fun e => .inr (.inl e)))).mono fun e w' ⟨h1, h2⟩ => ⟨⟨_, h1, OrdN.nil _ _⟩, by rw [h2]; exact h.row hi rfl, by rw [h2]; exact One.refl q w⟩
  · have h1 : l[i].called = false := by cases e : l[i].called <;> simp_all
    have h2 : l[i].owner ≠ 0 := fun e => hc (.inl e)
    cases hw : l[i].ws with
    | nil =>
      have hg : callF (i : Int) l[i] = (l[i], []) := by unfold callF; rw [if_neg hc, hw]
      rw [hg]
      exact (call_no p q l i w h hi (.inr (.inr hw))).mono fun e w' ⟨h1, h2⟩ => ⟨⟨_, h1, OrdN.nil _ _⟩, by rw [h2]; exact h.row hi rfl, by rw [h2]; exact One.refl q w⟩
    | cons k r =>
      have hg : callF (i : Int) l[i] = (⟨l[i].fast, l[i].owner, l[i].lost, true, k :: r⟩, [⟨2, (i : Int), l[i].owner, k, l[i].fast⟩]) := by unfold callF; rw [if_neg hc, hw]
      rw [hg]
      exact (call_yes p q l i k r w h hi h2 h1 hw (by rw [hw] at hl; simp only [List.length_cons] at hl; omega)).mono fun e w' ⟨⟨g, e1, e2, e3⟩, e4, e5⟩ => ⟨⟨_, e1, _, rfl, e2, fun x hx => by cases hx; exact e3⟩, e4, e5⟩

/-- A row of orders is told that lies in new memory. -/
def OrdR (w w' : World) (v : Value) (os : List Od) : Prop := ∃ a c, v = .slice a os.length c ∧ SlD w' a os ∧ ∀ x, a = some x → w.heap.size ≤ x.block
theorem give_ws (i : Int) (x : Lf) : (giveF i x).1.ws.length ≤ x.ws.length := by
  unfold giveF
  split
  · exact Nat.le_refl _
  · split
    · exact Nat.le_refl _
    · rename_i a r e; rw [e]; simp
theorem give_few (i : Int) (x : Lf) : (giveF i x).2.length ≤ 1 := by
  unfold giveF
  split
  · simp
  · split <;> simp
theorem call_few (i : Int) (x : Lf) : (callF i x).2.length ≤ 1 := by
  unfold callF
  split
  · simp
  · split <;> simp

theorem serve_any (p q : Nat) (l : List Lf) (i : Nat) (w : World) (h : Bk w p q l) (hi : i < l.length) (hl : l[i].ws.length ≤ 100) :
    Calls Try.prog 35 #[.pointer (some ⟨q, i * 6, none⟩)] w fun e w' => (∃ v, e = .returned v ∧ OrdR w w' v (serveF (i : Int) l[i]).2) ∧ Bk w' p q (l.set i (serveF (i : Int) l[i]).1) ∧ One q w w' := by
  have HG := toHid (give_any p q l i w h hi hl)
  have hlt := h.lt.2.1
  have HC : Hid (∀ w1, Bk w1 p q (l.set i (giveF (i : Int) l[i]).1) → Calls Try.prog 43 #[.pointer (some ⟨q, i * 6, none⟩)] w1 fun e w' => (∃ v, e = .returned v ∧ OrdN w1 w' v (callF (i : Int) (giveF (i : Int) l[i]).1).2) ∧ Bk w' p q (l.set i (callF (i : Int) (giveF (i : Int) l[i]).1).1) ∧ One q w1 w') := toHid fun w1 h1 => by
    have := call_any p q _ i w1 h1 (by simpa using hi) (by simp only [List.getElem_set_self]; have := give_ws (i : Int) l[i]; omega)
    simpa only [List.getElem_set_self, List.set_set] using this
  have n1 := give_few (i : Int) l[i]
  have n2 := call_few (i : Int) (giveF (i : Int) l[i]).1
  have es : serveF (i : Int) l[i] = ((callF (i : Int) (giveF (i : Int) l[i]).1).1, (giveF (i : Int) l[i]).2 ++ (callF (i : Int) (giveF (i : Int) l[i]).1).2) := rfl
  rw [es]
  clear es h
  generalize (giveF (i : Int) l[i]).2 = o1 at *
  generalize (callF (i : Int) (giveF (i : Int) l[i]).1).2 = o2 at *
  generalize (callF (i : Int) (giveF (i : Int) l[i]).1).1 = y at *
  have N1 := toHid n1
  have N2 := toHid n2
  clear n1 n2
  go_enter Try.func35, Try.ntmps35
  go_wp2_with fail
  refine Calls.mono HG.out ?_
  rintro e w1 ⟨⟨v, rfl, a1, rfl, hd1, hn1⟩, hb1, ho1⟩
  have HC1 := toHid (HC.out w1 hb1)
  have HD1 := toHid hd1
  have HN1 := toHid hn1
  have HO1 := toHid ho1
  clear HG HC hd1 hn1 ho1 hb1
  go_wp2_with fail
  refine Calls.mono HC1.out ?_
  rintro e w2 ⟨⟨v, rfl, a2, rfl, hd2, hn2⟩, hb2, ho2⟩
  have HD2 := toHid hd2
  have HN2 := toHid hn2
  have HO2 := toHid ho2
  have HB2 := toHid hb2
  have HD1' := toHid (HD1.out.one HO2.out (fun x hx => by have := HN1.out x hx; omega))
  clear HC1 hd2 hn2 ho2 hb2 HD1
  go_wp2_with (at_builtin; refine wpList_fullD rfl (.tmp 4) (.tmp 6) 39 rfl Try.underlying39 a1 o1 _ _ _ rfl rfl rfl HD1'.out a2 _ o2 rfl rfl HD2.out (by have := N1.out; have := N2.out; omega) ?_; intro a3 d w3 hb3 hsl hle hnw _)
  go_ret
  have HO := HO1.out.trans HO2.out
  refine ⟨⟨_, rfl, a3, d, by simp, hsl, fun x hx => ?_⟩, HB2.out.below hb3, HO.trans (One.of hb3)⟩
  rcases hnw with ⟨-, rfl⟩ | ⟨g, rfl, hg⟩
  · exact HN1.out x hx
  · cases hx
    have := HO.size
    simp only
    omega
end Go.Proofs.Ytdlanenbbmnbhaa
