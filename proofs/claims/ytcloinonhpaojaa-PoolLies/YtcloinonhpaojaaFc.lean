/-
  Check: whether a ring may be.
-/
import Derived.Test.YtcloinonhpaojaaFa
namespace Go.Proofs.Ytcloinonhpaojaa.Ck
open Go.RowKit

theorem box_in {w W : World} {o : Obj} (h : Below (w.alloc o).heap.size (w.alloc o) W) : W.heap[w.heap.size]? = some o := by
  rw [h.block _ (by simp)]
  exact heap_alloc_new w o
theorem box_in' {W W' : World} {g : Nat} {o : Obj} (h : W.heap[g]? = some o) (hb : Below W.heap.size W W') : W'.heap[g]? = some o := by
  rw [hb.block _ (by have := Array.getElem?_eq_some_iff.mp h; exact this.1)]
  exact h
theorem cell3 {w : World} {g : Nat} {a b c : Value} {t : TypeId} (h : w.heap[g]? = some (.cells #[a, b, c] t)) :
    w.cell? ⟨g, 0, none⟩ = some a ∧ w.cell? ⟨g, 1, none⟩ = some b ∧ w.cell? ⟨g, 2, none⟩ = some c ∧ w.frozen? ⟨g, 0, none⟩ = false ∧ w.frozen? ⟨g, 1, none⟩ = false ∧ w.frozen? ⟨g, 2, none⟩ = false ∧ g < w.heap.size := by
  have hg := (Array.getElem?_eq_some_iff.mp h).1
  refine ⟨?_, ?_, ?_, ?_, ?_, ?_, hg⟩ <;> simp [World.cell?, World.frozen?, h]
theorem cell2 {w : World} {g : Nat} {a b : Value} {t : TypeId} (h : w.heap[g]? = some (.cells #[a, b] t)) :
    w.cell? ⟨g, 0, none⟩ = some a ∧ w.cell? ⟨g, 1, none⟩ = some b ∧ w.frozen? ⟨g, 0, none⟩ = false ∧ w.frozen? ⟨g, 1, none⟩ = false ∧ g < w.heap.size := by
  have hg := (Array.getElem?_eq_some_iff.mp h).1
  refine ⟨?_, ?_, ?_, ?_, hg⟩ <;> simp [World.cell?, World.frozen?, h]

/-- A block of sixteen bools. -/
structure Come (w : World) (g : Nat) (cm : Nat → Bool) : Prop where
  lt : g < w.heap.size
  at_ : ∀ p, p < 16 → w.cell? ⟨g, p, none⟩ = some (.bool (cm p)) ∧ w.frozen? ⟨g, p, none⟩ = false
theorem Come.below {w w' : World} {g : Nat} {cm : Nat → Bool} (h : Come w g cm) (hb : Below w.heap.size w w') : Come w' g cm :=
  ⟨Nat.lt_of_lt_of_le h.lt hb.size, fun p hp => ⟨(hb.cell (p := ⟨g, p, none⟩) h.lt).trans (h.at_ p hp).1, (hb.frozen (p := ⟨g, p, none⟩) h.lt).trans (h.at_ p hp).2⟩⟩
theorem Come.set {w : World} {g : Nat} {cm : Nat → Bool} (h : Come w g cm) (p : Nat) (hp : p < 16) : Come (w.setCell ⟨g, p, none⟩ (.bool true)) g (fun q => decide (q = p) || cm q) := by
  refine ⟨by simpa using h.lt, fun q hq => ⟨?_, ?_⟩⟩
  · by_cases e : q = p
    · subst e
      rw [World.cell?_setCell_same _ _ _ (h.at_ q hq).1]
      simp
    · rw [World.cell?_setCell_other (h := by simp; try omega), (h.at_ q hq).1]
      simp [e]
  · rw [World.frozen?_setCell]
    exact (h.at_ q hq).2
theorem come_new {w : World} {g : Nat} (h : w.heap[g]? = some (.cells (Array.replicate 16 (.bool false)) 44)) : Come w g (fun _ => false) := by
  refine ⟨(Array.getElem?_eq_some_iff.mp h).1, fun p hp => ⟨?_, ?_⟩⟩
  · simp [World.cell?, h, hp]
  · simp [World.frozen?, h]

/-- What Check answers. -/
noncomputable def chkI (r : Rg) : Int := if mayB r = true then 0 else 1
theorem chkI_yes {r : Rg} (h : MayR r) : chkI r = 0 := by simp [chkI, mayB_true.2 h]
theorem chkI_no {r : Rg} (h : ¬ MayR r) : chkI r = 1 := by simp [chkI, mayB_false.2 h]

set_option maxHeartbeats 2000000 in
theorem check_any (a : Option Addr) (c : Nat) (r : Rg) (w : World) (h : SlF w a r.fr) (hl : r.fr.length ≤ maxLen) :
    Calls Try.prog 58 #[rgV a c r] w fun e w' => e = .returned (.int .i64 (chkI r)) ∧ Below w.heap.size w w' := by
  unfold maxLen at hl
  obtain ⟨l, hd⟩ := r
  simp only [rgV, rgC] at h hl ⊢
  have hB0 := (Below.refl w.heap.size w).alloc (Nat.le_refl _) (.cells #[.slice a l.length c, .int .i64 hd] 36)
  by_cases h1 : l.length ≤ 16
  · by_cases h2 : 0 ≤ hd
    · by_cases h3 : hd < (l.length : Int)
      · have hB1 := hB0.alloc (o := .cells (Array.replicate 16 (.bool false)) 44) (by simp)
        have hC := come_new (heap_alloc_new (w.alloc (.cells #[.slice a l.length c, .int .i64 hd] 36)) (.cells (Array.replicate 16 (.bool false)) 44))
        have HB1 := toHid hB1
        have HC := toHid hC
        clear hB0 hB1 hC
        go_enter Try.func58, Try.ntmps58
        go_wp2_with fail
        go_loopw [26] (fun i wr => ∃ k : Nat, ∃ cm : Nat → Bool, k ≤ l.length ∧ i = .int .i64 k ∧ Up l k ∧ (∀ p : Nat, cm p = true ↔ ∃ j, ∃ hj : j < l.length, j < k ∧ l[j].page = (p : Int)) ∧ Come wr (w.heap.size + 1) cm ∧ Below w.heap.size w wr) (fun i _ => l.length - (intOf i).toNat)
        case atStart => exact ⟨0, fun _ => false, Nat.zero_le _, rfl, Up.zero l, fun p => by simp, cast (by simp; rfl) HC.out, HB1.out⟩
        case round =>
          obtain ⟨k, cm, hk, rfl, hup, hcm, hcome, hB⟩ := hrel
          have HU := toHid hup
          have HM := toHid hcm
          have hsl := h.below hB
          have HG := toHid hcome
          clear hup hcm HC HB1 hcome
          by_cases hlt : k < l.length
          · obtain ⟨b, o, rfl, hbl, c0, c1, c2⟩ := hsl.at k hlt
            have HB := toHid (hB.alloc hB.size (.cells #[.int .i64 l[k].page, .bool l[k].used, .int .i64 l[k].pins] 123))
            have HG1 := toHid (HG.out.below ((Below.refl wr.heap.size wr).alloc (Nat.le_refl _) (.cells #[.int .i64 l[k].page, .bool l[k].used, .int .i64 l[k].pins] 123)))
            clear hB HG
            go_wp2_with fail
            refine Calls.mono (may_any l[k] _) ?_
            rintro e w1 ⟨rfl, hb1⟩
            have hk1 := box_in hb1
            have HG2 := toHid (HG1.out.below hb1)
            have HB2 := toHid (HB.out.trans (hb1.mono (by have := HB.out.size; omega)))
            clear HB HG1 hb1
            obtain ⟨q0, q1, q2, f0, f1, f2, hz⟩ := cell3 hk1
            clear hk1
            cases hm : mayF l[k]
            · go_wp2
              go_ret
              refine ⟨?_, HB2.out⟩
              have : chkI ⟨l, hd⟩ = 1 := chkI_no fun M => by have := M.up.may k hlt hlt; simp [hm] at this
              rw [this]
              rfl
            · by_cases hp : l[k].page = -1
              · have HP := toHid hp
                rw [hp] at q0
                clear hp
                go_wp2_with fail
                go_roundw
                case rel =>
                  refine ⟨k + 1, cm, by omega, by simp, HU.out.succ hlt hm (.inl HP.out), fun p => (HM.out p).trans ?_, HG2.out, HB2.out⟩
                  constructor
                  · rintro ⟨j, hj, h1, h2⟩
                    exact ⟨j, hj, by omega, h2⟩
                  · rintro ⟨j, hj, h1, h2⟩
                    refine ⟨j, hj, ?_, h2⟩
                    by_cases e : j = k
                    · subst e
                      have := HP.out
                      omega
                    · omega
                case measure => first | omega | (simp only [intOf]; omega)
              · obtain ⟨hp0, hp1, _, _⟩ := mayF_some hm hp
                obtain ⟨p, HP, hpl⟩ : ∃ p : Nat, Hid (l[k].page = (p : Int)) ∧ p < 16 := ⟨l[k].page.toNat, toHid (by omega), by omega⟩
                rw [HP.out] at q0
                clear hp0 hp1 hp
                obtain ⟨g0, g1⟩ := HG2.out.at_ p hpl
                have g2 := HG2.out.lt
                cases hc : cm p
                · rw [hc] at g0
                  have HX := toHid (HG2.out.set p hpl)
                  have HB3 := toHid (HB2.out.setCell (p := ⟨w.heap.size + 1, p, none⟩) (by simp) (.bool true))
                  clear HG2 HB2
                  go_wp2_with fail
                  go_roundw
                  case rel =>
                    refine ⟨k + 1, _, by omega, by simp, HU.out.succ (by omega) hm (.inr fun i hi hik e => ?_), fun q => ?_, HX.out, HB3.out⟩
                    · have := (HM.out p).2 ⟨i, hi, hik, by rw [e, HP.out]⟩
                      simp [hc] at this
                    · have hq := HM.out q
                      by_cases e : q = p
                      · subst e
                        exact ⟨fun _ => ⟨k, hlt, by omega, HP.out⟩, fun _ => by simp⟩
                      · simp only [e, decide_false, Bool.false_or]
                        rw [hq]
                        constructor
                        · rintro ⟨j, hj, h1, h2⟩
                          exact ⟨j, hj, by omega, h2⟩
                        · rintro ⟨j, hj, h1, h2⟩
                          refine ⟨j, hj, ?_, h2⟩
                          by_cases e' : j = k
                          · subst e'
                            have := HP.out
                            omega
                          · omega
                  case measure => first | omega | (simp only [intOf]; omega)
                · rw [hc] at g0
                  go_wp2
                  go_ret
                  refine ⟨?_, HB2.out⟩
                  have : chkI ⟨l, hd⟩ = 1 := chkI_no fun M => by
                    obtain ⟨j, hj, hjk, hjp⟩ := (HM.out p).1 hc
                    exact M.up.apart j k hj hlt hjk hlt (by have := HP.out; simp only; omega) (by simp only; rw [hjp, HP.out])
                  rw [this]
                  rfl
          · obtain rfl : k = l.length := by omega
            go_wp2
            go_ret
            have : chkI ⟨l, hd⟩ = 0 := chkI_yes ⟨by simp only; omega, by simp only; omega, by simp only; omega, by simp only; omega, HU.out⟩
            rw [this]
            exact ⟨rfl, hB⟩
      · go_enter Try.func58, Try.ntmps58
        go_wp2
        go_ret
        have : chkI ⟨l, hd⟩ = 1 := chkI_no fun M => by have := M.h1; simp only at this; omega
        rw [this]
        exact ⟨rfl, hB0⟩
    · go_enter Try.func58, Try.ntmps58
      go_wp2
      go_ret
      have : chkI ⟨l, hd⟩ = 1 := chkI_no fun M => by have := M.h0; simp only at this; omega
      rw [this]
      exact ⟨rfl, hB0⟩
  · go_enter Try.func58, Try.ntmps58
    go_wp2
    go_ret
    have : chkI ⟨l, hd⟩ = 1 := chkI_no fun M => by have := M.most; simp only at this; omega
    rw [this]
    exact ⟨rfl, hB0⟩
end Go.Proofs.Ytcloinonhpaojaa.Ck

/-
  At: where a page is; place: where one is that must be there.
-/
namespace Go.Proofs.Ytcloinonhpaojaa.Ck
open Go.RowKit

theorem check_yes (a : Option Addr) (c : Nat) (r : Rg) (w : World) (h : SlF w a r.fr) (hM : MayR r) :
    Calls Try.prog 58 #[rgV a c r] w fun e w' => e = .returned (.int .i64 0) ∧ Below w.heap.size w w' :=
  (check_any a c r w h (by have := hM.most; unfold maxLen; omega)).mono (by rintro e w' ⟨rfl, hb⟩; exact ⟨by rw [chkI_yes hM], hb⟩)
theorem check_no (a : Option Addr) (c : Nat) (r : Rg) (w : World) (h : SlF w a r.fr) (hl : r.fr.length ≤ maxLen) (hM : ¬ MayR r) :
    Calls Try.prog 58 #[rgV a c r] w fun e w' => e = .returned (.int .i64 1) ∧ Below w.heap.size w w' :=
  (check_any a c r w h hl).mono (by rintro e w' ⟨rfl, hb⟩; exact ⟨by rw [chkI_no hM], hb⟩)
theorem known_yes (p : Int) (w : World) (h : knownB p = true) : Calls Try.prog 59 #[.int .i64 p] w fun e w' => e = .returned (.bool true) ∧ w' = w :=
  (known_any p w).mono (by rintro e w' ⟨rfl, hb⟩; exact ⟨by rw [h], hb⟩)
theorem known_no (p : Int) (w : World) (h : knownB p = false) : Calls Try.prog 59 #[.int .i64 p] w fun e w' => e = .returned (.bool false) ∧ w' = w :=
  (known_any p w).mono (by rintro e w' ⟨rfl, hb⟩; exact ⟨by rw [h], hb⟩)

theorem atR_no {r : Rg} {p : Int} (h : ¬ MayR r) : atR r p = -1 := by simp [atR, mayB_false.2 h]
theorem atR_un {r : Rg} {p : Int} (h : knownB p = false) : atR r p = -1 := by simp [atR, h]
theorem atR_yes {r : Rg} {p : Int} (h : MayR r) (hk : knownB p = true) : atR r p = firI r.fr p := by simp [atR, hk, mayB_true.2 h]

set_option maxHeartbeats 1000000 in
theorem at_any (a : Option Addr) (c : Nat) (r : Rg) (p : Int) (w : World) (h : SlF w a r.fr) (hl : r.fr.length ≤ maxLen) :
    Calls Try.prog 54 #[rgV a c r, .int .i64 p] w fun e w' => e = .returned (.int .i64 (atR r p)) ∧ Below w.heap.size w w' := by
  have hB0 := (Below.refl w.heap.size w).alloc (Nat.le_refl _) (.cells #[.slice a r.fr.length c, .int .i64 r.hand] 36)
  have hs0 := h.below hB0
  by_cases hM : MayR r
  · have hM16 := hM.most
    go_enter Try.func54, Try.ntmps54
    go_wp2_with fail
    refine Calls.mono (check_yes a c r _ hs0 hM) ?_
    rintro e w1 ⟨rfl, hb1⟩
    have hk1 := box_in hb1
    have hB1 := below_on hB0 hb1
    have hs1 := hs0.below hb1
    clear hB0 hs0 hb1
    cases hk : knownB p
    · go_wp2_with fail
      refine Calls.mono (known_no p _ hk) ?_
      rintro e w' ⟨rfl, hw⟩
      obtain rfl := hw.symm
      go_wp2
      go_ret
      exact ⟨by rw [atR_un hk]; rfl, hB1⟩
    · go_wp2_with fail
      refine Calls.mono (known_yes p _ hk) ?_
      rintro e w' ⟨rfl, hw⟩
      obtain rfl := hw.symm
      obtain ⟨q0, q1, f0, f1, hz⟩ := cell2 hk1
      clear hk1
      go_wp2_with fail
      refine Calls.mono (first_any a c r.fr p _ hs1 (by omega)) ?_
      rintro e w2 ⟨rfl, hb2⟩
      have hB2 := below_on hB1 hb2
      clear hB1 hs1 hb2
      go_wp2
      go_ret
      exact ⟨by rw [atR_yes hM hk]; rfl, hB2⟩
  · go_enter Try.func54, Try.ntmps54
    go_wp2_with fail
    refine Calls.mono (check_no a c r _ hs0 hl hM) ?_
    rintro e w1 ⟨rfl, hb1⟩
    have hB1 := below_on hB0 hb1
    clear hB0 hs0 hb1
    go_wp2
    go_ret
    exact ⟨by rw [atR_no hM]; rfl, hB1⟩

theorem placeR_no {r : Rg} {p : Int} (h : ¬ MayR r) : placeR r p = (0, 1) := by simp [placeR, mayB_false.2 h]
theorem placeR_none {r : Rg} {p : Int} (h : MayR r) (hk : atR r p = -1) : placeR r p = (0, 8) := by simp [placeR, mayB_true.2 h, hk]
theorem placeR_yes {r : Rg} {p : Int} (h : MayR r) (hk : atR r p ≠ -1) : placeR r p = (atR r p, 0) := by simp [placeR, mayB_true.2 h, hk]

set_option maxHeartbeats 1000000 in
theorem place_any (a : Option Addr) (c : Nat) (r : Rg) (p : Int) (w : World) (h : SlF w a r.fr) (hl : r.fr.length ≤ maxLen) :
    Calls Try.prog 63 #[rgV a c r, .int .i64 p] w fun e w' => e = .returned (.tuple #[.int .i64 (placeR r p).1, .int .i64 (placeR r p).2]) ∧ Below w.heap.size w w' := by
  have hB0 := (Below.refl w.heap.size w).alloc (Nat.le_refl _) (.cells #[.slice a r.fr.length c, .int .i64 r.hand] 36)
  have hs0 := h.below hB0
  by_cases hM : MayR r
  · go_enter Try.func63, Try.ntmps63
    go_wp2_with fail
    refine Calls.mono (check_yes a c r _ hs0 hM) ?_
    rintro e w1 ⟨rfl, hb1⟩
    have hk1 := box_in hb1
    have hB1 := below_on hB0 hb1
    have hs1 := hs0.below hb1
    clear hB0 hs0 hb1
    obtain ⟨q0, q1, f0, f1, hz⟩ := cell2 hk1
    clear hk1
    go_wp2_with fail
    refine Calls.mono (at_any a c r p _ hs1 hl) ?_
    rintro e w2 ⟨rfl, hb2⟩
    have hB2 := below_on hB1 hb2
    clear hB1 hs1 hb2
    by_cases hp : atR r p = -1
    · have HP := toHid hp
      rw [hp]
      clear hp
      go_wp2
      go_ret2
      exact ⟨by rw [placeR_none hM HP.out]; rfl, hB2⟩
    · have HE := toHid (placeR_yes hM hp)
      obtain ⟨x, hx⟩ : ∃ x, Hid (x = atR r p) := ⟨_, toHid rfl⟩
      rw [← hx.out] at hp HE ⊢
      go_wp2
      go_ret2
      exact ⟨by rw [HE.out]; rfl, hB2⟩
  · go_enter Try.func63, Try.ntmps63
    go_wp2_with fail
    refine Calls.mono (check_no a c r _ hs0 hl hM) ?_
    rintro e w1 ⟨rfl, hb1⟩
    have hB1 := below_on hB0 hb1
    clear hB0 hs0 hb1
    go_wp2
    go_ret2
    exact ⟨by rw [placeR_no hM]; rfl, hB1⟩
end Go.Proofs.Ytcloinonhpaojaa.Ck
