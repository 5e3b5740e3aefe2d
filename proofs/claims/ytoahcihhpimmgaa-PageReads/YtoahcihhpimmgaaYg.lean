/-
  PageReads: the document's slot, as a plain function.
-/
import Derived.Test.YtoahcihhpimmgaaYa
import Derived.Test.YtoahcihhpimmgaaYb
import Derived.Test.YtoahcihhpimmgaaNc
import Derived.Test.YtoahcihhpimmgaaRx
namespace Go.Proofs.Ytoahcihhpimmgaa
open Go.RowKit

theorem txt_extract (l : List UInt8) (i j : Nat) : (txt l).extract i j = txt ((l.drop i).take (j - i)) := by
  have e : ((txt l).extract i j).data.toList = (l.drop i).take (j - i) := by
    rw [Lib.extract_data]
    simp [txt]
  rw [← e]
  generalize (txt l).extract i j = s
  cases s
  simp [txt]

theorem two_at (b : List UInt8) (i : Nat) (h : i + 2 ≤ b.length) : (b.drop i).take 2 = [b[i]'(by omega), b[i + 1]'(by omega)] := by
  rw [List.drop_eq_getElem_cons (show i < b.length by omega), List.drop_eq_getElem_cons (show i + 1 < b.length by omega)]
  rfl

theorem num2_txt (b : List UInt8) (at_ n : Nat) (w : World) (h : at_ + 2 ≤ b.length) (hb : b.length ≤ 100000) (hn : leV ((b.drop at_).take 2) = n) :
    Calls Try.prog 49 #[.string (txt b), .int .i64 at_, .int .i64 2] w fun e w' => e = .returned (.int .i64 (n : Int)) ∧ w' = w := by
  have := num2_any (txt b) at_ w (by rw [txt_size]; exact h) (by rw [txt_size]; exact hb)
  refine this.mono fun e w' ⟨he, hw⟩ => ⟨?_, hw⟩
  rw [he, ← hn, two_at b at_ h]
  simp only [leV]
  rfl

/-- What a cell's bytes say. -/
def refCell : List UInt8 → Cl × Bool
  | [] => (Cl.none, false)
  | k0 :: r => if r.length < k0.toNat then (Cl.none, false) else if mayK (r.take k0.toNat) (r.drop k0.toNat) then (⟨true, r.take k0.toNat, r.drop k0.toNat⟩, true) else (Cl.none, false)
/-- What slot says of bytes. -/
def refSlot (b : List UInt8) (at_ : Nat) : Cl × Bool :=
  if leV ((b.drop (at_ + 2)).take 2) = 0 then (Cl.none, decide (leV ((b.drop at_).take 2) = 0))
  else if 512 < leV ((b.drop at_).take 2) + leV ((b.drop (at_ + 2)).take 2) then (Cl.none, false)
  else refCell ((b.drop (leV ((b.drop at_).take 2))).take (leV ((b.drop (at_ + 2)).take 2)))

theorem refSlot_good (b : List UInt8) (at_ : Nat) : goodC (refSlot b at_).1 := by
  unfold refSlot
  split
  · exact goodC_none
  · split
    · exact goodC_none
    · unfold refCell
      split
      · exact goodC_none
      · split
        · exact goodC_none
        · split
          · rename_i h; exact goodC_kv _ _ h
          · exact goodC_none

theorem take4_2 (b : List UInt8) (i : Nat) : ((b.drop i).take 4).take 2 = (b.drop i).take 2 := by rw [List.take_take]; rfl
theorem take4_d (b : List UInt8) (i : Nat) : ((b.drop i).take 4).drop 2 = (b.drop (i + 2)).take 2 := by rw [List.drop_take, List.drop_drop]

theorem slot_page (id lsn : Nat) (l : List Cl) (hg : GoodL l) (i : Nat) (hi : i < l.length) : refSlot (pageB id lsn l) (16 + 4 * i) = (l[i], true) := by
  have hp := pg_slot id lsn l i hi
  have hc := pg_cell id lsn l hg.room i hi
  have hgc := hg.cells l[i] (by simp)
  have hsz := good_size l hg i hi
  have hrt := room_take l hg.room i (by omega)
  have hrt2 := room_take l hg.room (i + 1) (by omega)
  have hst := sumC_take l i hi
  have e1 := take4_2 (pageB id lsn l) (16 + 4 * i)
  have e2 := take4_d (pageB id lsn l) (16 + 4 * i)
  rw [hp] at e1 e2
  unfold refSlot
  rw [← e1, ← e2]
  by_cases hu : l[i].used = true
  · rw [slot_begin _ _ hu (by omega), slot_size _ _ hu (by omega), hc]
    have h1 : 1 ≤ sizeC l[i] := by simp [sizeC, hu]; omega
    rw [if_neg (by omega), if_neg (by omega)]
    unfold goodC at hgc
    rw [if_pos hu] at hgc
    simp only [cellB, if_pos hu, refCell]
    have hk : (UInt8.ofNat l[i].key.length).toNat = l[i].key.length := by simp; omega
    rw [hk, List.take_left' rfl, List.drop_left' rfl, if_neg (by simp), if_pos (by simp [mayK]; omega)]
    generalize l[i] = c at *
    cases c
    simp at hu
    simp [hu]
  · have hu' : l[i].used = false := by simpa using hu
    unfold goodC at hgc
    rw [if_neg hu] at hgc
    have s0 : slotB (512 - sumC (l.take i)) l[i] = leB 0 4 := by simp [slotB, hu']
    rw [s0]
    have z1 : leV ((leB 0 4).drop 2) = 0 := by decide
    have z2 : leV ((leB 0 4).take 2) = 0 := by decide
    rw [z1, z2, if_pos rfl]
    generalize l[i] = c at *
    cases c
    simp at hgc hu'
    simp [Cl.none, hgc, hu']

end Go.Proofs.Ytoahcihhpimmgaa
