/-
  without, order, leave.
-/
import Derived.Test.YtdlanenbbmnbhaaCa
namespace Go.Proofs.Ytdlanenbbmnbhaa
open Go.RowKit

theorem erase_first : ∀ (l : List Int) (i : Nat) (k : Int) (hi : i < l.length), l[i] = k → (∀ j (hj : j < l.length), j < i → l[j] ≠ k) → l.erase k = l.take i ++ l.drop (i + 1)
  | a :: r, 0, k, _, h, _ => by
    simp at h
    simp [h]
  | a :: r, i + 1, k, hi, h, hu => by
    have h0 := hu 0 (by simp) (by omega)
    simp at h0
    have ih := erase_first r i k (by simpa using hi) (by simpa using h) (fun j hj hji => by have := hu (j + 1) (by simpa using hj) (by omega); simpa using this)
    rw [List.erase_cons_tail (by simpa using h0), ih]
    simp
theorem sl_take {w : World} {a : Option Addr} {l : List Int} (h : SlI w a l) (i : Nat) : SlI w a (l.take i) :=
  ⟨fun e => by rw [h.nonil e]; simp, fun x hx j t ht => h.cells x hx j t (by
    rw [List.getElem?_take] at ht
    split at ht
    · exact ht
    · simp at ht), fun x hx hne => h.typ x hx (fun e => hne (by rw [e]; simp))⟩
theorem sl_drop {w : World} {b o : Nat} {l : List Int} (h : SlI w (some ⟨b, o, none⟩) l) (i : Nat) : SlI w (some ⟨b, o + i, none⟩) (l.drop i) :=
  ⟨fun e => by simp at e, fun x hx j t ht => by
    obtain rfl : _ = x := by simpa using hx
    rw [List.getElem?_drop] at ht
    have := (h.cells _ rfl (i + j) t ht).2
    exact ⟨rfl, by simpa [Nat.add_assoc] using this⟩, fun x hx hne => by
    obtain rfl : _ = x := by simpa using hx
    exact h.typ ⟨b, o, none⟩ rfl (fun e => hne (by rw [e]; simp))⟩

/-- What is told: it lies in new memory, or where it lay. -/
def Where (w : World) (a a' : Option Addr) : Prop := ∀ x, a' = some x → w.heap.size ≤ x.block ∨ ∃ y, a = some y ∧ x.block = y.block
theorem Where.of {w : World} {a a' : Option Addr} {m : Nat} (h : NewOr w a a' m) : Where w a a' := fun x hx => by
  rcases h with ⟨-, rfl⟩ | ⟨g, rfl, hg⟩
  · exact .inr ⟨x, hx, rfl⟩
  · cases hx; exact .inl hg

set_option maxHeartbeats 400000 in
theorem without_any (a : Option Addr) (c : Nat) (l : List Int) (k : Int) (w : World) (h : SlI w a l) (hl : l.length ≤ 1000) (hc : l.length ≤ c) :
    Calls Try.prog 44 #[.slice a l.length c, .int .i64 k] w fun e w' => (∃ a' d, e = .returned (.slice a' (l.erase k).length d) ∧ SlI w' a' (l.erase k) ∧ (l.erase k).length ≤ d ∧ Where w a a') ∧ Below w.heap.size w w' := by
  have HI := toHid (index_any a c l k w h (by omega))
  have HS := toHid h
  clear h
  go_enter Try.func44, Try.ntmps44
  go_wp2_with fail
  refine Calls.mono HI.out ?_
  rintro e w1 ⟨⟨v, rfl, hv⟩, hw⟩
  obtain rfl := hw.symm
  clear HI
  rcases hv with ⟨rfl, hn⟩ | ⟨i, rfl, hi, e1, hu⟩
  · have HE : Hid (l.erase k = l) := toHid (List.erase_of_not_mem hn)
    clear hn
    go_wp2
    go_ret
    rw [HE.out]
    exact ⟨⟨a, c, rfl, HS.out, hc, fun x hx => .inr ⟨x, hx, rfl⟩⟩, Below.refl _ _⟩
  · have HE := toHid (erase_first l i k hi e1 hu)
    obtain ⟨b, o, rfl, -, -⟩ := HS.out.at i hi
    have HT := toHid (sl_take HS.out i)
    have HD := toHid (sl_drop HS.out (i + 1))
    have hlt : (l.take i).length = i := by simp; omega
    have hld : (l.drop (i + 1)).length = l.length - (i + 1) := by simp
    have HL := toHid hlt
    have HL2 := toHid hld
    clear e1 hu hlt hld
    have hc1 : (i : Int) ≤ (c : Int) := by omega
    have HTd := toHid (HT.out.below (Below.refl _ _).drew)
    have HBd := toHid (Below.refl w.heap.size w).drew
    obtain ⟨Q, hQ⟩ : ∃ Q : Nat, Hid (Q = i + 1) := ⟨i + 1, toHid rfl⟩
    have hwr : IntKind.i64.wrap ((i : Int) + 1) = (Q : Int) := by have := hQ.out; rw [IntKind.wrap_i64]; omega
    have hb1 : (Q : Int) ≤ (l.length : Int) := by have := hQ.out; omega
    have hb2 : (i : Int) ≤ (Q : Int) := by have := hQ.out; omega
    have hil : i < 9223372036854775807 := by omega
    rw [← hQ.out] at HE HD HL2
    have HDd := toHid (HD.out.below (Below.refl _ _).drew)
    by_cases hq : c = Q
    · have HD0 : Hid (l.drop Q = []) := toHid (List.drop_eq_nil_of_le (by omega))
      subst hq
      go_wp2_with fail
      go_region
      go_wp2
      go_ret
      rw [HE.out, HD0.out, List.append_nil]
      exact ⟨⟨some ⟨b, o, none⟩, i, by rw [HL.out]; rfl, HTd.out, by rw [HL.out]; omega, fun x hx => .inr ⟨x, hx, rfl⟩⟩, HBd.out⟩
    · go_wp2_with fail
      go_region_law (refine step_fullI rfl (.tmp 15) (.tmp 19) 61 rfl Try.underlying61 (some ⟨b, o, none⟩) (l.take i) i i (l.length - Q) (by simp only [Act.put, List.getElem_toArray, List.getElem_cons_zero, List.getElem_cons_succ, List.setIfInBounds_toArray, List.set_cons_zero, List.set_cons_succ]; rfl) HL.out.symm HL.out.symm HTd.out (some ⟨b, o + Q, none⟩) (c - Q) (l.drop Q) (by simp only [Act.put, List.getElem_toArray, List.getElem_cons_zero, List.getElem_cons_succ, List.setIfInBounds_toArray, List.set_cons_zero, List.set_cons_succ]; rfl) (HL2.out.symm) HDd.out (by simp; omega) ?_; intro a' d w2 hb hsl hle hnw _)
      go_wp2
      go_ret
      rw [HE.out]
      exact ⟨⟨a', d, by simp [Act.put], hsl, hle, Where.of hnw⟩, HBd.out.trans (hb.mono (Nat.le_refl _))⟩

theorem cell_odC {w : World} (o : Od) : SlD (w.alloc (.cells (odC o) 51)) (some ⟨w.heap.size, 0, none⟩) [o] :=
  ⟨fun e => by simp at e, fun x hx i u hu => by
    obtain rfl : _ = x := by simpa using hx
    obtain rfl : i = 0 := by have := (List.getElem?_eq_some_iff.1 hu).1; simpa using this
    simp at hu
    subst hu
    have hb : (w.alloc (.cells (odC o) 51)).heap[w.heap.size]? = some (.cells (odC o) 51) := heap_alloc_new w _
    refine ⟨rfl, ?_, ?_, ?_, ?_, ?_⟩ <;> · unfold World.cell?; rw [hb]; simp [odC]⟩
/-- One order is told. -/
theorem order_any (p q : Nat) (l : List Lf) (i : Nat) (k f t : Int) (w : World) (h : Bk w p q l) (hi : i < l.length) :
    Calls Try.prog 46 #[.pointer (some ⟨q, i * 6, none⟩), .int .i64 k, .int .i64 f, .int .i64 t] w fun e w' => (∃ g, e = .returned (.slice (some ⟨g, 0, none⟩) 1 1) ∧ SlD w' (some ⟨g, 0, none⟩) [⟨k, (i : Int), f, t, l[i].fast⟩] ∧ w.heap.size ≤ g) ∧ Below w.heap.size w w' := by
  obtain ⟨a, c, c0, c1, -⟩ := h.page i hi
  have HD := toHid (cell_odC (w := w) ⟨k, (i : Int), f, t, l[i].fast⟩)
  have HB := toHid ((Below.refl w.heap.size w).alloc (Nat.le_refl _) (.cells (odC ⟨k, (i : Int), f, t, l[i].fast⟩) 51))
  simp only [odC] at HD HB
  clear h
  go_enter Try.func46, Try.ntmps46
  go_wp2_with fail
  go_region
  go_wp2
  go_ret
  exact ⟨⟨_, rfl, HD.out.below (Below.refl _ _).drew, Nat.le_refl _⟩, HB.out.drew⟩

theorem leave_any (p q : Nat) (l : List Lf) (i : Nat) (t : Bool) (w : World) (h : Bk w p q l) (hi : i < l.length) :
    Calls Try.prog 36 #[.pointer (some ⟨q, i * 6, none⟩), .bool t] w fun e w' => e = .returned (.tuple #[]) ∧ Bk w' p q (l.set i (leaveF t l[i])) ∧ One q w w' := by
  obtain ⟨a, c, c0, c1, c2, c3, c4, c5, -, -, -, hf⟩ := h.page i hi
  have f2 := hf (i * 6 + 2)
  have f3 := hf (i * 6 + 3)
  have f4 := hf (i * 6 + 4)
  have HB := h.setOwner i hi 0
  have HB2 := HB.setLost i (by simpa using hi) t
  have HB3 := HB2.setCalled i (by simpa using hi) false
  simp only [List.getElem_set_self, List.set_set] at HB3
  have HX := toHid HB3
  have HO := toHid ((((One.refl q w).set (i * 6 + 2) (.int .i64 0)).set (i * 6 + 3) (.bool t)).set (i * 6 + 4) (.bool false))
  clear h HB HB2 HB3 hf
  go_enter Try.func36, Try.ntmps36
  go_wp2
  go_end0
  exact ⟨rfl, HX.out, HO.out⟩
end Go.Proofs.Ytdlanenbbmnbhaa
