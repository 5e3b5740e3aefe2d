/-
  The document's May: whether a ring may be.
-/
import Derived.Test.YthhjjnoeiaaekaaMb
import Derived.BigQuiet
import Derived.Deep.QuietTactic
import Derived.Lib.SmallJoins
namespace Go.Proofs.Ythhjjnoeiaaekaa
open Go.RowKit

/-- What the document asks of one frame alone. -/
theorem mayF_ref (f : Fr) : mayF f = (!(decide (f.page < -1) || decide (15 < f.page) || decide (f.pins < 0) || decide (1048576 < f.pins)) && !(decide (f.page = -1) && (f.used || !decide (f.pins = 0)))) := by
  obtain ⟨pg, u, pn⟩ := f
  simp only [mayF, knownB]
  by_cases h : pg = -1
  · subst h
    cases u <;> by_cases h0 : pn = 0 <;> simp [h0]
  · rw [if_neg h, Bool.eq_iff_iff]
    simp [h]
    omega

set_option maxRecDepth 20000 in
set_option maxHeartbeats 4000000 in
theorem refmay_any (a : Option Addr) (c : Nat) (r : Rg) (w : World) (h : SlF w a r.fr) (hl : r.fr.length ≤ maxLen) :
    Calls Try.prog 14 #[rgV a c r] w fun e w' => e = .returned (.bool (mayB r)) ∧ Below w.heap.size w w' := by
  unfold maxLen at hl
  obtain ⟨l, hd⟩ := r
  simp only [rgV, rgC] at h hl ⊢
  obtain ⟨i0, i1, i2⟩ := al1 w (.cells #[.slice a l.length c, .int .i64 hd] 24)
  by_cases h0 : 1 ≤ l.length
  · by_cases h1 : l.length ≤ 16
    · by_cases h2 : 0 ≤ hd
      · by_cases h3 : hd < (l.length : Int)
        · have hs := h.below i2
          obtain ⟨n, hn⟩ : ∃ n, Hid (l.length = n) := ⟨_, toHid rfl⟩
          rw [hn.out] at i0 i1 i2 hs h0 h1 h3 ⊢
          go_enter Try.func14, Try.ntmps14
          go_wp2_with fail
          generalize World.alloc _ _ = W at i0 i1 i2 hs ⊢
          have HI := toHid i0
          clear i0 i1 h hl
          go_loopw [4] (fun i wr => ∃ k : Nat, k ≤ n ∧ i = .int .i64 k ∧ Up l k ∧ Below W.heap.size W wr) (fun i _ => n - (intOf i).toNat)
          case atStart => exact ⟨0, Nat.zero_le _, rfl, Up.zero l, Below.refl _ _⟩
          case round =>
            obtain ⟨k, hk, rfl, hup, hB⟩ := hrel
            have HU := toHid hup
            have HB := toHid hB
            have hsl := hs.below hB
            obtain ⟨p0, p1, p2, p3, p4⟩ := cell2 (box_in' HI.out hB)
            clear hup
            by_cases hlt : k < n
            · have hkl : k < l.length := by have := hn.out; omega
              obtain ⟨b, o, rfl, hbl, c0, c1, c2⟩ := hsl.at k hkl
              obtain ⟨m0, m1, m2⟩ := al1 wr (.cells #[.int .i64 l[k].page, .bool l[k].used, .int .i64 l[k].pins] 31)
              have HB1 := toHid (below_on HB.out m2)
              have HW1 := toHid (below_on i2 (below_on HB.out m2))
              have HF1 := toHid m0
              have HS1 := toHid (hsl.below m2)
              have HI1 := toHid (box_in' (box_in' HI.out hB) m2)
              have hNo : ¬ mayF l[k] = true → chkI ⟨l, hd⟩ = 1 := fun hm => chkI_no fun M => hm (M.up.may k hkl hkl)
              have HNo := toHid (show ¬ mayF l[k] = true → mayB ⟨l, hd⟩ = false from fun hm => mayB_false.2 fun M => hm (M.up.may k hkl hkl))
              have HMf := toHid (mayF_ref l[k])
              obtain ⟨pg, hpg⟩ : ∃ x, Hid (l[k].page = x) := ⟨_, toHid rfl⟩
              obtain ⟨us, hus⟩ : ∃ x, Hid (l[k].used = x) := ⟨_, toHid rfl⟩
              obtain ⟨pn, hpn⟩ : ∃ x, Hid (l[k].pins = x) := ⟨_, toHid rfl⟩
              rw [hpg.out, hpn.out, hus.out] at HB1 HW1 HF1 HS1 HI1
              rw [hpg.out] at c0
              rw [hus.out] at c1
              rw [hpn.out] at c2
              rw [hpg.out, hpn.out, hus.out] at HMf
              clear m0 m1 m2 hB hsl HB hNo
              by_cases g1 : pg < -1
              · go_wp2_with fail
                go_ret
                rw [HNo.out (by rw [HMf.out]; simp [g1])]
                exact ⟨rfl, HW1.out⟩
              · by_cases g2 : 15 < pg
                · go_wp2_with fail
                  go_ret
                  rw [HNo.out (by rw [HMf.out]; simp [g2])]
                  exact ⟨rfl, HW1.out⟩
                · by_cases g3 : pn < 0
                  · go_wp2_with fail
                    go_ret
                    rw [HNo.out (by rw [HMf.out]; simp [g3])]
                    exact ⟨rfl, HW1.out⟩
                  · by_cases g4 : 1048576 < pn
                    · go_wp2_with fail
                      go_ret
                      rw [HNo.out (by rw [HMf.out]; simp [g4])]
                      exact ⟨rfl, HW1.out⟩
                    · by_cases g5 : pg = -1
                      · subst g5
                        cases us with
                        | true =>
                          go_wp2_with fail
                          go_ret
                          rw [HNo.out (by rw [HMf.out]; simp [])]
                          exact ⟨rfl, HW1.out⟩
                        | false =>
                          by_cases g6 : pn = 0
                          · subst g6
                            have HOk : Hid (mayF l[k] = true) := toHid (by rw [HMf.out]; decide)
                            go_wp2_with fail
                            generalize World.alloc _ _ = W1 at HB1 HW1 HF1 HS1 HI1 ⊢
                            go_loopw [6] (fun j W' => ∃ m : Nat, m ≤ k ∧ j = .int .i64 m ∧ Below W1.heap.size W1 W' ∧ Hid True) (fun j _ => k - (intOf j).toNat)
                            case atStart => exact ⟨0, Nat.zero_le _, rfl, Below.refl _ _, toHid trivial⟩
                            case round =>
                              rename World => W2
                              obtain ⟨m, hm, rfl, hb, HA⟩ := hrel
                              obtain ⟨v0, v1, v2, v3, v4, v5, v6⟩ := cell3 (box_in' HF1.out hb)
                              obtain ⟨y0, y1, y2, y3, y4⟩ := cell2 (box_in' HI1.out hb)
                              have HD := toHid hb
                              by_cases hml : m < k
                              · have hml2 : m < l.length := by omega
                                have hm0 : 0 ≤ (m : Int) := by omega
                                have hm1 : (m : Int) < (n : Int) := by omega
                                clear hb
                                go_wp2_with fail
                                go_quiet (fail)
                                have hd6 := below_on HD.out (Go.Joins.below_draws _ _ _ : Below W2.heap.size W2 (W2.drewN nq))
                                go_wp2_with fail
                                go_roundw
                                case rel => exact ⟨m + 1, by omega, by simp, hd6, toHid trivial⟩
                                case measure => first | omega | (simp only [intOf]; omega)
                              · obtain rfl : m = k := by omega
                                go_wp2_with fail
                                go_roundw
                                case rel => exact ⟨m + 1, by omega, by simp, HU.out.succ hkl HOk.out (.inl hpg.out), below_on HB1.out HD.out⟩
                                case measure => first | omega | (simp only [intOf]; omega)
                          · have g6' : (pn == 0) = false := by simpa using g6
                            go_wp2_with fail
                            go_ret
                            rw [HNo.out (by rw [HMf.out]; simp [g6])]
                            exact ⟨rfl, HW1.out⟩
                      · have g5' : (pg == -1) = false := by simpa using g5
                        have HOk : Hid (mayF l[k] = true) := toHid (by rw [HMf.out]; simp [g5]; omega)
                        go_wp2_with fail
                        generalize World.alloc _ _ = W1 at HB1 HW1 HF1 HS1 HI1 ⊢
                        go_loopw [6] (fun j W' => ∃ m : Nat, m ≤ k ∧ j = .int .i64 m ∧ Below W1.heap.size W1 W' ∧ Hid (∀ j (hj : j < l.length), j < m → l[j].page ≠ pg)) (fun j _ => k - (intOf j).toNat)
                        case atStart => exact ⟨0, Nat.zero_le _, rfl, Below.refl _ _, toHid (fun j hj hjm => absurd hjm (by omega))⟩
                        case round =>
                          rename World => W2
                          obtain ⟨m, hm, rfl, hb, HA⟩ := hrel
                          obtain ⟨v0, v1, v2, v3, v4, v5, v6⟩ := cell3 (box_in' HF1.out hb)
                          obtain ⟨y0, y1, y2, y3, y4⟩ := cell2 (box_in' HI1.out hb)
                          have HD := toHid hb
                          by_cases hml : m < k
                          · have hml2 : m < l.length := by omega
                            have hm0 : 0 ≤ (m : Int) := by omega
                            have hm1 : (m : Int) < (n : Int) := by omega
                            obtain ⟨b2, o2, hae, hb2, d0, d1, d2⟩ := (HS1.out.below hb).at m hml2
                            simp only [Option.some.injEq, Addr.mk.injEq] at hae
                            obtain ⟨rfl, rfl, -⟩ := hae
                            clear hb
                            have hpg0 : 0 ≤ pg := by omega
                            have hpg1 : decide (0 ≤ pg) = true := by simpa using hpg0
                            by_cases hq : l[m].page = pg
                            · have HQ := toHid hq
                              rw [hq] at d0
                              clear hq
                              go_wp2_with fail
                              go_quiet (fail)
                              have hd6 := below_on HD.out (Go.Joins.below_draws _ _ _ : Below W2.heap.size W2 (W2.drewN nq))
                              have hd7 := below_on HW1.out hd6
                              go_wp2_with fail
                              go_ret
                              have : mayB ⟨l, hd⟩ = false := mayB_false.2 fun M => M.up.apart m k hml2 hkl hml hkl (by simp only; rw [hpg.out]; omega) (by simp only; rw [HQ.out, hpg.out])
                              rw [this]
                              exact ⟨rfl, hd7⟩
                            · have hq2 : (l[m].page == pg) = false := by simpa using hq
                              have hq3 : decide (l[m].page = pg) = false := by simpa using hq
                              go_wp2_with fail
                              go_quiet (fail)
                              have hd6 := below_on HD.out (Go.Joins.below_draws _ _ _ : Below W2.heap.size W2 (W2.drewN nq))
                              go_wp2_with fail
                              go_roundw
                              case rel =>
                                refine ⟨m + 1, by omega, by simp, hd6, toHid fun j hj hjm => ?_⟩
                                by_cases e : j = m
                                · subst e; exact hq
                                · exact HA.out j hj (by omega)
                              case measure => first | omega | (simp only [intOf]; omega)
                          · obtain rfl : m = k := by omega
                            go_wp2_with fail
                            go_roundw
                            case rel => exact ⟨m + 1, by omega, by simp, HU.out.succ hkl HOk.out (.inr fun i hi hik => by rw [hpg.out]; exact HA.out i hi hik), below_on HB1.out HD.out⟩
                            case measure => first | omega | (simp only [intOf]; omega)
            · obtain rfl : k = n := by omega
              go_wp2_with fail
              go_ret
              have : mayB ⟨l, hd⟩ = true := mayB_true.2 ⟨by have := hn.out; simp only; omega, by have := hn.out; simp only; omega, h2, by have := hn.out; simp only; omega, by have := HU.out; rw [hn.out]; exact this⟩
              rw [this]
              exact ⟨rfl, below_on i2 HB.out⟩
        · go_enter Try.func14, Try.ntmps14
          go_wp2_with fail
          go_ret
          have : mayB ⟨l, hd⟩ = false := mayB_false.2 fun M => by have := M.h1; simp only at this; omega
          rw [this]
          exact ⟨rfl, i2⟩
      · go_enter Try.func14, Try.ntmps14
        go_wp2_with fail
        go_ret
        have : mayB ⟨l, hd⟩ = false := mayB_false.2 fun M => by have := M.h0; simp only at this; omega
        rw [this]
        exact ⟨rfl, i2⟩
    · go_enter Try.func14, Try.ntmps14
      go_wp2_with fail
      go_ret
      have : mayB ⟨l, hd⟩ = false := mayB_false.2 fun M => by have := M.most; simp only at this; omega
      rw [this]
      exact ⟨rfl, i2⟩
  · go_enter Try.func14, Try.ntmps14
    go_wp2_with fail
    go_ret
    have : mayB ⟨l, hd⟩ = false := mayB_false.2 fun M => by have := M.one; simp only at this; omega
    rw [this]
    exact ⟨rfl, i2⟩
end Go.Proofs.Ythhjjnoeiaaekaa
