/-
  call: the owner is called.
-/
import Derived.Test.YtdlanenbbmnbhaaCb
import Derived.Deep.RegionHeld3
namespace Go.Proofs.Ytdlanenbbmnbhaa
open Go.RowKit

theorem call_no (p q : Nat) (l : List Lf) (i : Nat) (w : World) (h : Bk w p q l) (hi : i < l.length) (hc : l[i].owner = 0 ∨ l[i].called = true ∨ l[i].ws = []) :
    Calls Try.prog 43 #[.pointer (some ⟨q, i * 6, none⟩)] w fun e w' => e = .returned (.slice none 0 0) ∧ w' = w := by
  obtain ⟨a, c, -, -, c2, -, c4, c5, -, -, -, -⟩ := h.page i hi
  clear h
  by_cases h1 : l[i].owner = 0
  · rw [h1] at c2
    clear hc h1
    go_enter Try.func43, Try.ntmps43
    go_wp2
    go_ret
    exact ⟨rfl, rfl⟩
  · by_cases h2 : l[i].called = true
    · rw [h2] at c4
      clear hc h2
      go_enter Try.func43, Try.ntmps43
      go_wp2
      go_ret
      exact ⟨rfl, rfl⟩
    · have h2' : l[i].called = false := by simpa using h2
      have h3 : l[i].ws = [] := by
        rcases hc with e | e | e
        · exact absurd e h1
        · exact absurd e h2
        · exact e
      rw [h2'] at c4
      rw [h3] at c5
      simp only [List.length_nil] at c5
      clear hc h2 h2' h3
      go_enter Try.func43, Try.ntmps43
      go_wp2
      go_ret
      exact ⟨rfl, rfl⟩

set_option maxHeartbeats 2000000 in
theorem call_yes (p q : Nat) (l : List Lf) (i : Nat) (k : Int) (r : List Int) (w : World) (h : Bk w p q l) (hi : i < l.length) (h1 : l[i].owner ≠ 0) (h2 : l[i].called = false) (h3 : l[i].ws = k :: r) (hr : r.length ≤ 100) :
    Calls Try.prog 43 #[.pointer (some ⟨q, i * 6, none⟩)] w fun e w' => (∃ g, e = .returned (.slice (some ⟨g, 0, none⟩) 1 1) ∧ SlD w' (some ⟨g, 0, none⟩) [⟨2, (i : Int), l[i].owner, k, l[i].fast⟩] ∧ w.heap.size ≤ g) ∧ Bk w' p q (l.set i ⟨l[i].fast, l[i].owner, l[i].lost, true, k :: r⟩) ∧ One q w w' := by
  obtain ⟨a, c, -, -, c2, -, c4, c5, hs, ho, hc, hf⟩ := h.page i hi
  rw [h2] at c4
  rw [h3] at c5 hs
  have d4 := hf (i * 6 + 4)
  obtain ⟨b, o, rfl, hb, e0⟩ := hs.at 0 (by simp)
  simp only [List.getElem_cons_zero, Nat.add_zero] at e0
  have hbq : b ≠ q := ho _ rfl
  have HX := h.setCalled i hi true
  rw [h3] at HX
  have HX := toHid HX
  have HO1 := toHid ((One.refl q w).set (i * 6 + 4) (.bool true))
  have hob : (l[i].owner == 0) = false := by simpa using h1
  have hrb : (((r.length : Int)) + 1 == 0) = false := by simp; omega
  simp only [List.length_cons] at c5
  clear h hs h2 h3 ho hf
  go_enter Try.func43, Try.ntmps43
  go_wp2_with fail
  obtain ⟨W, hW⟩ : ∃ W, Hid (W = w.setCell ⟨q, i * 6 + 4, none⟩ (.bool true)) := ⟨_, toHid rfl⟩
  rw [← hW.out] at HX HO1 ⊢
  have hi' : i < (l.set i ⟨l[i].fast, l[i].owner, l[i].lost, true, k :: r⟩).length := by simpa using hi
  have hp := HX.out.page i hi'
  have HO := order_any p q _ i 2 l[i].owner k W.drew HX.out.drew hi'
  simp only [List.getElem_set_self] at hp HO
  have HO := toHid HO
  obtain ⟨aa, cc, -, -, g2, -, -, g5, hs, -, -, -⟩ := hp
  obtain ⟨b2, o2, rfl, -, e2⟩ := hs.at 0 (by simp)
  simp only [List.getElem_cons_zero, Nat.add_zero] at e2
  simp only [List.length_cons] at g5
  clear hs c2 c4 c5 e0 d4
  go_region_with (first
    | (go_at_call 46; refine Calls.mono HO.out ?_; rintro e w3 ⟨⟨g, rfl, hd, hg⟩, hb3⟩; have HD := toHid hd; have HB := toHid hb3; clear hd hb3))
  all_goals
    have HBB := toHid ((Below.refl W.heap.size W).drew.trans HB.out)
    go_wp2
    go_ret
    exact ⟨⟨g, rfl, HD.out, by have h5 : W.heap.size ≤ g := hg; have := HO1.out.size; omega⟩, HX.out.below HBB.out, HO1.out.trans (One.of HBB.out)⟩
end Go.Proofs.Ytdlanenbbmnbhaa
