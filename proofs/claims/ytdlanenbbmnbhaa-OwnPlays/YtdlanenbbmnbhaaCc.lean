/-
  give, call, serve.
-/
import Derived.Test.YtdlanenbbmnbhaaCb
import Derived.Deep.RegionHeld3
namespace Go.Proofs.Ytdlanenbbmnbhaa
open Go.RowKit

/-- A row of orders is told that lies in new memory, without room. -/
def OrdN (w w' : World) (v : Value) (os : List Od) : Prop := ∃ a, v = .slice a os.length os.length ∧ SlD w' a os ∧ ∀ x, a = some x → w.heap.size ≤ x.block
theorem OrdN.nil (w w' : World) : OrdN w w' (.slice none 0 0) [] := ⟨none, rfl, SlD.nil _ _, fun x e => by simp at e⟩
theorem Bk.row {w : World} {p q : Nat} {l : List Lf} (h : Bk w p q l) {i : Nat} (hi : i < l.length) {x : Lf} (e : l[i] = x) : Bk w p q (l.set i x) := by
  subst e
  rw [List.set_getElem_self]
  exact h

theorem give_no (p q : Nat) (l : List Lf) (i : Nat) (w : World) (h : Bk w p q l) (hi : i < l.length) (hn : giveF (i : Int) l[i] = (l[i], [])) (hc : l[i].lost = true ∨ l[i].owner ≠ 0 ∨ l[i].ws = []) :
    Calls Try.prog 42 #[.pointer (some ⟨q, i * 6, none⟩)] w fun e w' => (∃ v, e = .returned v ∧ OrdN w w' v (giveF (i : Int) l[i]).2) ∧ Bk w' p q (l.set i (giveF (i : Int) l[i]).1) ∧ w' = w := by
  obtain ⟨a, c, -, -, c2, c3, -, c5, -, -, -, -⟩ := h.page i hi
  rw [hn]
  have HB := toHid (h.row hi rfl)
  have HN := toHid (OrdN.nil w w)
  clear h hn
  by_cases h1 : l[i].lost = true
  · rw [h1] at c3
    clear hc h1
    go_enter Try.func42, Try.ntmps42
    go_wp2
    go_ret
    exact ⟨⟨_, rfl, HN.out⟩, HB.out, rfl⟩
  · have h1' : l[i].lost = false := by simpa using h1
    rw [h1'] at c3
    by_cases h2 : l[i].owner = 0
    · have h3 : l[i].ws = [] := by
        rcases hc with e | e | e
        · exact absurd e h1
        · exact absurd h2 e
        · exact e
      rw [h2] at c2
      rw [h3] at c5
      simp only [List.length_nil] at c5
      clear hc h1 h1' h2 h3
      go_enter Try.func42, Try.ntmps42
      go_wp2
      go_ret
      exact ⟨⟨_, rfl, HN.out⟩, HB.out, rfl⟩
    · clear hc h1 h1'
      go_enter Try.func42, Try.ntmps42
      go_wp2
      go_ret
      exact ⟨⟨_, rfl, HN.out⟩, HB.out, rfl⟩

set_option maxHeartbeats 4000000 in
theorem give_yes (p q : Nat) (l : List Lf) (i : Nat) (k : Int) (r : List Int) (w : World) (h : Bk w p q l) (hi : i < l.length) (h1 : l[i].lost = false) (h2 : l[i].owner = 0) (h3 : l[i].ws = k :: r) (hr : r.length ≤ 100) :
    Calls Try.prog 42 #[.pointer (some ⟨q, i * 6, none⟩)] w fun e w' => (∃ v, e = .returned v ∧ OrdN w w' v [⟨1, (i : Int), 0, k, l[i].fast⟩]) ∧ Bk w' p q (l.set i ⟨l[i].fast, k, false, l[i].called, r⟩) ∧ One q w w' := by
  obtain ⟨a, c, -, -, c2, c3, -, c5, hs, ho, hc, hf⟩ := h.page i hi
  have hlt := h.lt
  rw [h1] at c3
  rw [h2] at c2
  rw [h3] at c5 hs hc
  have d2 := hf (i * 6 + 2)
  have d5 := hf (i * 6 + 5)
  obtain ⟨b, o, rfl, hb, e0⟩ := hs.at 0 (by simp)
  simp only [List.getElem_cons_zero, Nat.add_zero] at e0
  have HR := toHid (rest_any (some ⟨b, o, none⟩) c k r w.drew (hs.below (Below.refl _ _).drew) (by omega) hc)
  have hbq : b ≠ q := ho _ rfl
  have HH := toHid h
  simp only [List.length_cons] at c5 HR hc
  clear h hs h2 h3 ho hlt
  go_enter Try.func42, Try.ntmps42
  go_wp2_with fail
  go_region_with (first
    | (go_at_call 45; refine Calls.mono HR.out ?_; rintro e w2 ⟨⟨a', rfl, hs', ha'⟩, hw2⟩; subst hw2))
  all_goals
    generalize hW : World.drew (World.setCell _ _ _) = W
    have HX : Hid (Bk W p q (l.set i ⟨l[i].fast, k, false, l[i].called, r⟩) ∧ One q w W) := by
      rw [← hW]
      have q1 := HH.out.setOwner i hi k
      have hsw : SlI w a' r := ⟨hs'.nonil, hs'.cells, hs'.typ⟩
      have hoq : ∀ y, a' = some y → y.block ≠ q := fun y hy => by
        obtain ⟨z, hz, e⟩ := ha' y hy
        cases hz
        rw [e]
        exact hbq
      have q2 := q1.setWaits i (by simpa using hi) r a' r.length (hsw.one ((One.refl q w).set (i * 6 + 2) (.int .i64 k)) hoq) hoq (Nat.le_refl _)
      simp only [List.getElem_set_self, List.set_set] at q2
      rw [h1] at q2
      exact ⟨q2.drew, (((One.refl q w).set _ _).set _ _).drew⟩
    have hi' : i < (l.set i ⟨l[i].fast, k, false, l[i].called, r⟩).length := by simpa using hi
    have hp := HX.out.1.page i hi'
    have HO := order_any p q _ i 1 0 k W HX.out.1 hi'
    simp only [List.getElem_set_self] at hp HO
    have HO := toHid HO
    obtain ⟨aa, cc, -, -, g2, -⟩ := hp
    clear hW hs' ha' c2 c3 c5 e0 d2 d5 hf HR HH hbq
    go_wp2_with fail
    refine Calls.mono HO.out ?_
    rintro e w3 ⟨⟨g, rfl, hd, hg⟩, hb3⟩
    have HD := toHid hd
    have HB := toHid hb3
    clear HO hd hb3 g2
    go_wp2
    go_ret
    exact ⟨⟨_, rfl, some ⟨g, 0, none⟩, rfl, HD.out, fun x hx => by cases hx; have := HX.out.2.size; simp only; omega⟩, HX.out.1.below HB.out, HX.out.2.trans (One.of HB.out)⟩
end Go.Proofs.Ytdlanenbbmnbhaa
