/-
  The walks of frameSize, Frame and Size.
-/
import Derived.Test.YticadfaclnimgaaEn
import Derived.Test.YticadfaclnimgaaOp
namespace Go.Proofs.Yticadfaclnimgaa
open Go.RowKit

/-- A record's frame. -/
def frameB (r : Rc) : List UInt8 := sealB (leB (encB r).length 2 ++ encB r)
def outF (r : Rc) : List UInt8 := if mayB r = true then frameB r else []
theorem frameB_length (r : Rc) : (frameB r).length = (encB r).length + 6 := by
  unfold frameB
  rw [sealB_length, List.length_append, leB_length]
  omega

theorem ret_int {k : IntKind} {a b : Int} (h : a = b) : Ending.returned (.int k a) = .returned (.int k b) := by rw [h]

theorem frameSize_any (n : Nat) (w : World) (hn : n ≤ 1000000000) : Calls Try.prog 75 #[.int .i64 (n : Int)] w fun e w' => e = .returned (.int .i64 ((n + 6 : Nat) : Int)) ∧ w' = w := by
  go_enter Try.func75, Try.ntmps75
  go_wp2
  go_ret
  exact ⟨ret_int (by omega), rfl⟩

theorem size_any (r : Rc) (ta : Option Addr) (tc : Nat) (da : Option Addr) (dc : Nat) (w : World) (ht : SlT w ta r.txns) (hd : SlD w da r.dirty) (hlt : r.txns.length ≤ maxLen) (hld : r.dirty.length ≤ maxLen) :
    Calls Try.prog 63 #[recV r ta tc da dc] w fun e w' => e = .returned (.int .i64 ((outF r).length : Nat)) ∧ Below w.heap.size w w' := by
  have HB : Hid (Below w.heap.size w (w.alloc (.cells (recC r ta tc da dc) 34))) := (Below.refl _ _).alloc (Nat.le_refl _) _
  have HX := (show Hid _ from encode_any r ta tc da dc _ (ht.below HB.out) (hd.below HB.out) hlt hld)
  clear ht hd hlt hld
  cases hmay : mayB r
  · have hO : Hid (outF r = []) := by show _ = _; unfold outF; rw [hmay]; rfl
    rw [hmay] at HX
    go_enter Try.func63, Try.ntmps63
    go_wp2_with fail
    refine Calls.mono HX.out ?_
    rintro e w1 ⟨v, rfl, hown, hb1⟩
    have hB1 := below_on HB.out hb1
    unfold argE
    clear hown HX hmay
    go_wp2
    go_ret
    exact ⟨by rw [hO.out]; rfl, hB1⟩
  · have hO : Hid ((outF r).length = (encB r).length + 6) := by show _ = _; unfold outF; rw [hmay, if_pos rfl, frameB_length]
    have hE : outB r = encB r := by unfold outB; rw [hmay]; rfl
    have hLn := (encB_length r hmay).2
    rw [hmay, hE] at HX
    clear hE hmay
    go_enter Try.func63, Try.ntmps63
    go_wp2_with fail
    refine Calls.mono HX.out ?_
    rintro e w1 ⟨v, rfl, hown, hb1⟩
    obtain ⟨ax, cx, rfl⟩ := ownsRow_shape hown
    have hB1 := below_on HB.out hb1
    unfold argE
    clear hown HX
    go_wp2_with fail
    refine (frameSize_any (encB r).length _ (by omega)).mono ?_
    rintro e w2 ⟨rfl, rfl⟩
    go_wp2
    go_ret
    exact ⟨ret_int (by rw [hO.out]; omega), hB1⟩

end Go.Proofs.Yticadfaclnimgaa
