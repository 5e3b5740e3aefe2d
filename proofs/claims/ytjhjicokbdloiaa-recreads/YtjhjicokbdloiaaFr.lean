/-
  The walks of frameSize, Frame and Size.
-/
import Derived.Test.YtjhjicokbdloiaaEn
import Derived.Test.YtjhjicokbdloiaaOp
namespace Go.Proofs.Ytjhjicokbdloiaa
open Go.RowKit

/-- A record's frame. -/
def frameB (r : Rc) : List UInt8 := sealB (leB (encB r).length 2 ++ encB r)
def outF (r : Rc) : List UInt8 := if mayB r = true then frameB r else []
theorem frameB_length (r : Rc) : (frameB r).length = (encB r).length + 6 := by
  unfold frameB
  rw [sealB_length, List.length_append, leB_length]
  omega

theorem ret_int {k : IntKind} {a b : Int} (h : a = b) : Ending.returned (.int k a) = .returned (.int k b) := by rw [h]

theorem frameSize_any (n : Nat) (w : World) (hn : n ≤ 1000000000) : Calls Try.prog 40 #[.int .i64 (n : Int)] w fun e w' => e = .returned (.int .i64 ((n + 6 : Nat) : Int)) ∧ w' = w := by
  go_enter Try.func40, Try.ntmps40
  go_wp2
  go_ret
  exact ⟨ret_int (by omega), rfl⟩

theorem size_any (r : Rc) (ta : Option Addr) (tc : Nat) (da : Option Addr) (dc : Nat) (w : World) (ht : SlT w ta r.txns) (hd : SlD w da r.dirty) (hlt : r.txns.length ≤ maxLen) (hld : r.dirty.length ≤ maxLen) :
    Calls Try.prog 15 #[recV r ta tc da dc] w fun e w' => e = .returned (.int .i64 ((outF r).length : Nat)) ∧ Below w.heap.size w w' := by
  have HB : Hid (Below w.heap.size w (w.alloc (.cells (recC r ta tc da dc) 31))) := (Below.refl _ _).alloc (Nat.le_refl _) _
  have HX := (show Hid _ from encode_any r ta tc da dc _ (ht.below HB.out) (hd.below HB.out) hlt hld)
  clear ht hd hlt hld
  cases hmay : mayB r
  · have hO : Hid (outF r = []) := by show _ = _; unfold outF; rw [hmay]; rfl
    rw [hmay] at HX
    go_enter Try.func15, Try.ntmps15
    go_wp2_with fail
    refine Calls.mono HX.out ?_
    rintro e w1 ⟨v, rfl, hown, hb1⟩
    have hB1 := below_on HB.out hb1
    unfold argE
    clear hown HX hmay
    go_wp2
    go_ret
    exact ⟨by rw [hO.out]; rfl, hB1⟩
  · have hO : Hid ((outF r).length = (encB r).length + 6) := by show _ = _; unfold outF; rw [hmay, if_pos rfl, frameB_length]
    have hE : outB r = encB r := by unfold outB; rw [hmay]; rfl
    have hLn := (encB_length r hmay).2
    rw [hmay, hE] at HX
    clear hE hmay
    go_enter Try.func15, Try.ntmps15
    go_wp2_with fail
    refine Calls.mono HX.out ?_
    rintro e w1 ⟨v, rfl, hown, hb1⟩
    obtain ⟨ax, cx, rfl⟩ := ownsRow_shape hown
    have hB1 := below_on HB.out hb1
    unfold argE
    clear hown HX
    go_wp2_with fail
    refine (frameSize_any (encB r).length _ (by omega)).mono ?_
    rintro e w2 ⟨rfl, rfl⟩
    go_wp2
    go_ret
    exact ⟨ret_int (by rw [hO.out]; omega), hB1⟩

set_option maxHeartbeats 1000000 in
theorem frame_any (r : Rc) (ta : Option Addr) (tc : Nat) (da : Option Addr) (dc : Nat) (w : World) (ht : SlT w ta r.txns) (hd : SlD w da r.dirty) (hlt : r.txns.length ≤ maxLen) (hld : r.dirty.length ≤ maxLen) :
    Calls Try.prog 12 #[recV r ta tc da dc] w fun e w' => ∃ v, e = .returned (.tuple #[v, .int .i64 (argE (mayB r))]) ∧ w'.ownsRow w.heap.size 5 1 v (outF r).length (bcells (outF r)) ∧ Below w.heap.size w w' := by
  have HB : Hid (Below w.heap.size w (w.alloc (.cells (recC r ta tc da dc) 31))) := (Below.refl _ _).alloc (Nat.le_refl _) _
  have HX := (show Hid _ from encode_any r ta tc da dc _ (ht.below HB.out) (hd.below HB.out) hlt hld)
  clear ht hd hlt hld
  cases hmay : mayB r
  · have hO : Hid (outF r = []) := by show _ = _; unfold outF; rw [hmay]; rfl
    rw [hmay] at HX
    go_enter Try.func12, Try.ntmps12
    go_wp2_with fail
    refine Calls.mono HX.out ?_
    rintro e w1 ⟨v, rfl, hown, hb1⟩
    have hB1 := below_on HB.out hb1
    unfold argE
    clear hown HX hmay
    go_wp2
    refine bodyPost_ret (v := .tuple #[.slice none 0 0, .int .i64 1]) (by simp [results, Try.results12, go_sem]) rfl ⟨_, rfl, ?_, hB1⟩
    rw [hO.out]
    exact World.ownsRow_nil _ _ _ _
  · have hO : Hid (outF r = sealB (leB (encB r).length 2 ++ encB r)) := by show _ = _; unfold outF; rw [hmay]; rfl
    have hE : outB r = encB r := by unfold outB; rw [hmay]; rfl
    have hLn := (encB_length r hmay).2
    rw [hmay, hE] at HX
    clear hE hmay
    obtain ⟨L, HL⟩ : ∃ x, Hid (x = encB r) := ⟨_, rfl⟩
    rw [← HL.out] at HX hO hLn
    go_enter Try.func12, Try.ntmps12
    go_wp2_with fail
    refine Calls.mono HX.out ?_
    rintro e w1 ⟨v, rfl, hown, hb1⟩
    obtain ⟨ax, cx, rfl⟩ := ownsRow_shape hown
    have HB1 : Hid (Below w.heap.size w w1) := below_on HB.out hb1
    obtain ⟨hsl, _, _⟩ := slB_of_own hown
    have hnil : ax = none → cx = 0 := by
      rintro rfl
      rcases hown.2 with ⟨h, _⟩ | ⟨_, _, _, h, _⟩ <;> simp at h
      exact h.2
    unfold argE
    clear hown HX hb1
    go_wp2_with fail
    refine (new_any _).mono ?_
    rintro e w2 ⟨rfl, rfl⟩
    have hw2 := WOk.new w1 w1.heap.size (Nat.le_refl _)
    have hA : Below w1.heap.size w1 (w1.alloc (.cells #[.slice none 0 0] 93)) := (Below.refl _ _).alloc (Nat.le_refl _) _
    go_wp2_with fail
    refine (wtwo_any _ _ _ _ _ _ hw2 (by omega) (by omega) (by simp)).mono ?_
    rintro e w3 ⟨rfl, ⟨v3, hw3⟩, hb3⟩
    have hb13 := hA.trans hb3
    rw [List.nil_append, Int.toNat_natCast] at hw3
    have hz3 : w1.heap.size ≤ w3.heap.size := hb13.size
    clear hw2 hb3
    go_wp2_with fail
    refine (wdone_any _ _ _ _ _ hw3 (by rw [leB_length]; omega)).mono ?_
    rintro e w4 ⟨v4, rfl, hown4, hb4⟩
    have hb14 : Below w1.heap.size w1 w4 := hb13.trans (hb4.mono hz3)
    have hsl4 := hsl.below hb14
    rw [leB_length] at hown4
    have hz34 : w3.heap.size ≤ w4.heap.size := hb4.size
    clear hw3 hb13
    go_wp2_with (at_builtin; go_must (refine wpList_append_slB rfl _ (.tmp 23) rfl w3.heap.size v4 2 (leB L.length 2) rfl hown4 ax cx L.length L rfl rfl hsl4 hnil (by omega) hz34 ?_); intro v5 w5 hown5 hb5)
    have hM : (leB L.length 2 ++ L).length = 2 + L.length := by simp [leB_length]
    obtain ⟨M, HM⟩ : ∃ x, Hid (x = leB L.length 2 ++ L) := ⟨_, rfl⟩
    rw [← HM.out] at hown5 hM hO
    rw [← hM] at hown5
    obtain ⟨ay, cy, rfl⟩ := ownsRow_shape hown5
    obtain ⟨hsl5, _, _⟩ := slB_of_own hown5
    have hnil5 : ay = none → cy = 0 := by
      rintro rfl
      rcases hown5.2 with ⟨h, _⟩ | ⟨_, _, _, h, _⟩ <;> simp at h
      exact h.2
    have HB5 : Hid (Below w.heap.size w w5) := HB1.out.trans ((hb14.trans (hb5.mono hz3)).mono HB1.out.size)
    have hMn : M.length ≤ 1000000000 := by omega
    clear hown5 hb5 hb14 hsl4 hown4 hM
    refine (seal_any ay cy M w5 hsl5 hMn hnil5).mono ?_
    rintro e w6 ⟨v6, rfl, hown6, hb6⟩
    have hB6 := below_on HB5.out hb6
    go_wp2
    refine bodyPost_ret (v := .tuple #[v6, .int .i64 0]) (by simp [results, Try.results12, go_sem]) rfl ⟨_, rfl, ?_, hB6⟩
    rw [hO.out, sealB_length]
    exact ownsRow_base hown6 HB5.out.size

end Go.Proofs.Ytjhjicokbdloiaa
