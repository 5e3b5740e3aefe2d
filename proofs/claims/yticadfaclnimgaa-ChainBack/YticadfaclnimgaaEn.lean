/-
  The walks of Encode, Frame and Size.
-/
import Derived.Test.YticadfaclnimgaaLt
import Derived.Test.YticadfaclnimgaaCk
import Derived.Test.YticadfaclnimgaaNu
namespace Go.Proofs.Yticadfaclnimgaa
open Go.RowKit

/-- What Encode tells. -/
def outB (r : Rc) : List UInt8 := if mayB r = true then encB r else []

theorem ownsRow_base {w : World} {B B' : Nat} {e : TypeId} {size : Nat} {v : Value} {n : Nat} {xs : List Value} (h : w.ownsRow B e size v n xs) (hb : B' ≤ B) : w.ownsRow B' e size v n xs := by
  refine ⟨h.1, ?_⟩
  rcases h.2 with h2 | ⟨g, cap, cur, hv, hg, r⟩
  · exact .inl h2
  · exact .inr ⟨g, cap, cur, hv, by omega, r⟩

theorem box_at {B q : Nat} {w W : World} {o : Obj} (h : w.heap[q]? = some o) (hb : Below B w W) (hq : q < B) : W.heap[q]? = some o := by
  rw [hb.block q hq]
  exact h

set_option maxHeartbeats 2000000 in
theorem encode_any (r : Rc) (ta : Option Addr) (tc : Nat) (da : Option Addr) (dc : Nat) (w : World) (ht : SlT w ta r.txns) (hd : SlD w da r.dirty) (hlt : r.txns.length ≤ maxLen) (hld : r.dirty.length ≤ maxLen) :
    Calls Try.prog 74 #[recV r ta tc da dc] w fun e w' => ∃ v, e = .returned (.tuple #[v, .int .i64 (argE (mayB r))]) ∧ w'.ownsRow w.heap.size 5 1 v (outB r).length (bcells (outB r)) ∧ Below w.heap.size w w' := by
  have HB : Hid (Below w.heap.size w (w.alloc (.cells (recC r ta tc da dc) 34))) := (Below.refl _ _).alloc (Nat.le_refl _) _
  have HX := (show Hid _ from check_any r ta tc da dc _ (ht.below HB.out) (hd.below HB.out) hlt hld)
  have HT : Hid (SlT w ta r.txns) := ht
  have HD : Hid (SlD w da r.dirty) := hd
  clear ht hd hlt hld
  cases hmay : mayB r
  · have hO : Hid (outB r = []) := by show _ = _; unfold outB; rw [hmay]; rfl
    rw [hmay] at HX
    clear hmay
    go_enter Try.func74, Try.ntmps74
    go_wp2_with fail
    refine Calls.mono HX.out ?_
    rintro e w1 ⟨rfl, hb1⟩
    unfold argE
    have hB1 := below_on HB.out hb1
    go_wp2
    refine bodyPost_ret (v := .tuple #[.slice none 0 0, .int .i64 1]) (by simp [results, Try.results74, go_sem]) rfl ⟨_, rfl, ?_, hB1⟩
    rw [hO.out]
    exact World.ownsRow_nil _ _ _ _
  · have hO : Hid (outB r = encB r) := by show _ = _; unfold outB; rw [hmay]; rfl
    have hm := mayP r hmay
    have HLn := (show Hid _ from (encB_length r hmay).2)
    rw [hmay] at HX
    clear hmay
    obtain ⟨k0, k1⟩ := hm.kind
    obtain ⟨t0, t1⟩ := hm.txn
    have HM : Hid (MayP r) := hm
    clear hm
    go_enter Try.func74, Try.ntmps74
    go_wp2_with fail
    refine Calls.mono HX.out ?_
    rintro e w1 ⟨rfl, hb1⟩
    unfold argE
    have HB1 : Hid (Below w.heap.size w w1) := below_on HB.out hb1
    have HK1 : Hid (w1.heap[w.heap.size]? = some (.cells (recC r ta tc da dc) 34)) := box_kept hb1
    have hq1 : w.heap.size < w1.heap.size := by have := hb1.size; simp at this; omega
    clear hb1 HX
    go_wp2_with fail
    refine (new_any _).mono ?_
    rintro e w2 ⟨rfl, rfl⟩
    have hw2 := WOk.new w1 w1.heap.size (Nat.le_refl _)
    have HA : Hid (Below w1.heap.size w1 (w1.alloc (.cells #[.slice none 0 0] 142))) := (Below.refl _ _).alloc (Nat.le_refl _) _
    obtain ⟨q0, q1, q2, q3, q4, q5, q6, q7, q8, q9, q10, q11⟩ := rec_cells (box_at HK1.out HA.out hq1)
    go_wp2_with fail
    refine (wbyte_any _ _ _ _ _ _ hw2 (by omega) (by omega) (by simp)).mono ?_
    rintro e w3 ⟨rfl, ⟨v3, hw3⟩, hb3⟩
    have HA3 : Hid (Below w1.heap.size w1 w3) := HA.out.trans hb3
    clear q0 q1 q2 q3 q4 q5 q6 q7 q8 q9 q10 q11 hw2 hb3 HA
    obtain ⟨q0, q1, q2, q3, q4, q5, q6, q7, q8, q9, q10, q11⟩ := rec_cells (box_at HK1.out HA3.out hq1)
    have hz3 : w1.heap.size ≤ w3.heap.size := HA3.out.size
    go_wp2_with fail
    refine (weight_any _ _ _ _ _ _ hw3 (by omega) (by simp [leB_length])).mono ?_
    rintro e w4 ⟨rfl, ⟨v4, hw4⟩, hb4⟩
    have HA4 : Hid (Below w1.heap.size w1 w4) := HA3.out.trans hb4
    clear q0 q1 q2 q3 q4 q5 q6 q7 q8 q9 q10 q11 hw3 hb4 HA3 hz3
    obtain ⟨q0, q1, q2, q3, q4, q5, q6, q7, q8, q9, q10, q11⟩ := rec_cells (box_at HK1.out HA4.out hq1)
    have hz4 : w1.heap.size ≤ w4.heap.size := HA4.out.size
    go_wp2_with fail
    refine (wfour_any _ _ _ _ _ _ hw4 (by omega) (by omega) (by simp [leB_length])).mono ?_
    rintro e w5 ⟨rfl, ⟨v5, hw5⟩, hb5⟩
    have HA5 : Hid (Below w1.heap.size w1 w5) := HA4.out.trans hb5
    clear q0 q1 q2 q3 q4 q5 q6 q7 q8 q9 q10 q11 hw4 hb5 HA4 hz4
    obtain ⟨q0, q1, q2, q3, q4, q5, q6, q7, q8, q9, q10, q11⟩ := rec_cells (box_at HK1.out HA5.out hq1)
    have hz5 : w1.heap.size ≤ w5.heap.size := HA5.out.size
    go_wp2_with fail
    refine (weight_any _ _ _ _ _ _ hw5 (by omega) (by simp [leB_length])).mono ?_
    rintro e w6 ⟨rfl, ⟨v6, hw6⟩, hb6⟩
    have HA6 : Hid (Below w1.heap.size w1 w6) := HA5.out.trans hb6
    clear q0 q1 q2 q3 q4 q5 q6 q7 q8 q9 q10 q11 hw5 hb6 HA5 hz5
    obtain ⟨q0, q1, q2, q3, q4, q5, q6, q7, q8, q9, q10, q11⟩ := rec_cells (box_at HK1.out HA6.out hq1)
    have hz6 : w1.heap.size ≤ w6.heap.size := HA6.out.size
    have HB6 : Hid (Below w.heap.size w w6) := HB1.out.trans (HA6.out.mono (by omega))
    have hw7 : WOk w6 w1.heap.size w1.heap.size v6 (headE r) := by
      have := hw6
      simpa [headE, List.append_assoc] using this
    clear hw6
    have hHl : (headE r).length = 21 := by simp [headE, leB_length]
    go_wp2_with fail
    refine (haschg_any r.kind _).mono ?_
    rintro e w7 ⟨rfl, rfl⟩
    cases hc : chgB r.kind
    · have hc' : ¬ (r.kind = 1 ∨ r.kind = 2) := fun e => by have := (chgB_iff r.kind).2 e; rw [hc] at this; cases this
      by_cases h8 : r.kind = 8
      · have hE : Hid (encB r = headE r ++ tabE r) := by show _ = _; unfold encB; rw [hc, if_neg (by decide), if_pos h8, List.nil_append]
        have h8' : (r.kind == 8) = true := by simp [h8]
        have HLT := (show Hid _ from layTables_x w1.heap.size w1.heap.size v6 (headE r) r ta tc da dc w7 hw7 (by omega) HM.out h8 (fun W hW => HT.out.below (HB6.out.trans (hW.mono (by omega)))) (fun W hW => HD.out.below (HB6.out.trans (hW.mono (by omega)))))
        clear hc hc' h8 hw7
        go_wp2_with fail
        refine Calls.mono HLT.out ?_
        rintro e w8 ⟨rfl, ⟨v8, hw8⟩, hb8, _⟩
        have HB8 : Hid (Below w.heap.size w w8) := HB6.out.trans (hb8.mono (by omega))
        rw [← hE.out] at hw8
        clear q0 q1 q2 q3 q4 q5 q6 q7 q8 q9 q10 q11
        have hz8 : w.heap.size ≤ w8.heap.size := HB8.out.size
        go_wp2_with fail
        refine (wdone_any _ _ _ _ _ hw8 (by have := HLn.out; omega)).mono ?_
        rintro e w9 ⟨v9, rfl, hown9, hb9⟩
        go_wp2
        refine bodyPost_ret (v := .tuple #[v9, .int .i64 0]) (by simp [results, Try.results74, go_sem]) rfl ⟨_, rfl, ?_, HB8.out.trans (hb9.mono hz8)⟩
        rw [hO.out]
        exact ownsRow_base hown9 hz8
      · have hE : Hid (encB r = headE r) := by show _ = _; unfold encB; rw [hc, if_neg (by decide), if_neg h8]; simp
        have h8' : (r.kind == 8) = false := by simp [h8]
        clear hc hc' h8
        rw [← hE.out] at hw7
        have hz8 : w.heap.size ≤ w7.heap.size := HB6.out.size
        go_wp2_with fail
        refine (wdone_any _ _ _ _ _ hw7 (by have := HLn.out; omega)).mono ?_
        rintro e w9 ⟨v9, rfl, hown9, hb9⟩
        go_wp2
        refine bodyPost_ret (v := .tuple #[v9, .int .i64 0]) (by simp [results, Try.results74, go_sem]) rfl ⟨_, rfl, ?_, HB6.out.trans (hb9.mono hz8)⟩
        rw [hO.out]
        exact ownsRow_base hown9 hz8
    · have hk12 := (chgB_iff r.kind).1 hc
      have hE : Hid (encB r = headE r ++ chgE r) := by show _ = _; unfold encB; rw [hc, if_pos rfl, if_neg (by omega), List.append_nil]
      have h8' : (r.kind == 8) = false := by simp; omega
      have HLC := (show Hid _ from layChange_x w1.heap.size w1.heap.size v6 (headE r) r ta tc da dc w7 hw7 (by omega) HM.out hk12)
      clear hc hk12 hw7
      go_wp2_with fail
      refine Calls.mono HLC.out ?_
      rintro e w8 ⟨rfl, ⟨v8, hw8⟩, hb8, _⟩
      have HB8 : Hid (Below w.heap.size w w8) := HB6.out.trans (hb8.mono (by omega))
      have HA8 : Hid (Below w1.heap.size w1 w8) := HA6.out.trans hb8
      rw [← hE.out] at hw8
      clear q0 q1 q2 q3 q4 q5 q6 q7 q8 q9 q10 q11
      obtain ⟨q0, q1, q2, q3, q4, q5, q6, q7, q8, q9, q10, q11⟩ := rec_cells (box_at HK1.out HA8.out hq1)
      have hz8 : w.heap.size ≤ w8.heap.size := HB8.out.size
      have hz8' : w1.heap.size ≤ w8.heap.size := HA8.out.size
      go_wp2_with fail
      refine (wdone_any _ _ _ _ _ hw8 (by have := HLn.out; omega)).mono ?_
      rintro e w9 ⟨v9, rfl, hown9, hb9⟩
      go_wp2
      refine bodyPost_ret (v := .tuple #[v9, .int .i64 0]) (by simp [results, Try.results74, go_sem]) rfl ⟨_, rfl, ?_, HB8.out.trans (hb9.mono hz8)⟩
      rw [hO.out]
      exact ownsRow_base hown9 hz8

end Go.Proofs.Yticadfaclnimgaa
