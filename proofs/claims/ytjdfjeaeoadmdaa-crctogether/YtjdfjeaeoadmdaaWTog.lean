/-
  The walk of CrcTogether.
-/
import Derived.Test.YtjdfjeaeoadmdaaAr
import Derived.Deep.RegionHeld3
namespace Go.Proofs.Ytjdfjeaeoadmdaa
open Go.RowKit

/-- Three rows together, byte by byte. -/
def tog (a b c : List UInt8) : Nat → List UInt8
  | 0 => []
  | k + 1 => tog a b c k ++ [a.getD k 0 ^^^ b.getD k 0 ^^^ c.getD k 0]

theorem tog_length (a b c : List UInt8) (k : Nat) : (tog a b c k).length = k := by
  induction k with
  | zero => rfl
  | succ k ih => simp [tog, ih]

theorem xor_six (a b c x y z : Nat) : (a ^^^ x) ^^^ (b ^^^ y) ^^^ (c ^^^ z) = (a ^^^ b ^^^ c) ^^^ (x ^^^ y ^^^ z) := by
  rw [xor_four a x b y, xor_four (a ^^^ b) (x ^^^ y) c z]

theorem crun_tog (a b c : List UInt8) (n k : Nat) (ha : k ≤ a.length) (hb : k ≤ b.length) (hc : k ≤ c.length) : crun n (a.take k) ^^^ crun n (b.take k) ^^^ crun n (c.take k) = crun n (tog a b c k) := by
  induction k with
  | zero => simp [tog, crun]
  | succ k ih =>
    rw [List.take_succ_eq_append_getElem (show k < a.length by omega), List.take_succ_eq_append_getElem (show k < b.length by omega), List.take_succ_eq_append_getElem (show k < c.length by omega), tog]
    rw [crun_snoc8, crun_snoc8, crun_snoc8, crun_snoc8, ← zrun_xor, ← zrun_xor, xor_six, ih (by omega) (by omega) (by omega)]
    congr 2
    simp [List.getElem?_eq_getElem (show k < a.length by omega), List.getElem?_eq_getElem (show k < b.length by omega), List.getElem?_eq_getElem (show k < c.length by omega)]

theorem more_xor (n : Nat) (l : List UInt8) (h : n < 4294967296) : more n l = crun (4294967295 - n) l ^^^ 4294967295 := by
  unfold more
  exact not32 _ (crun_lt _ _ (by omega))

theorem more_tog (a b c : List UInt8) (k : Nat) (ha : k ≤ a.length) (hb : k ≤ b.length) (hc : k ≤ c.length) : more 0 (a.take k) ^^^ more 0 (b.take k) ^^^ more 0 (c.take k) = more 0 (tog a b c k) := by
  rw [more_xor _ _ (by omega), more_xor _ _ (by omega), more_xor _ _ (by omega), more_xor _ _ (by omega), xor_six, crun_tog a b c _ k ha hb hc]
  congr 1

theorem xor3_u8 (x y z : UInt8) : bits .xor .u8 (bits .xor .u8 (x.toNat : Int) (y.toNat : Int)) (z.toNat : Int) = ((x ^^^ y ^^^ z).toNat : Int) := by
  have hx := x.toNat_lt
  have hy := y.toNat_lt
  have hz := z.toNat_lt
  rw [u8_xor_nat _ _ hx hy, u8_xor_nat _ _ (Nat.xor_lt_two_pow (n := 8) hx hy) hz]
  simp

theorem cell_one_new (w : World) (v : Value) (t : TypeId) : ∀ j u, [v][j]? = some u → ((w.alloc (.cells #[v] t)).drew).cell? ((⟨w.heap.size, 0, none⟩ : Addr).add j) = some u := by
  intro j u hu
  match j, hu with
  | 0, hu =>
    simp at hu
    subst hu
    simp [Addr.add]

theorem run_min4 (w : World) (x y z u : Nat) : (Builtin.min_ #[3, 3, 3, 3] 3 #[.int .i64 (x : Int), .int .i64 (y : Int), .int .i64 (z : Int), .int .i64 (u : Int)]).run Try.prog w = .ok (.int .i64 ((min (min (min x y) z) u : Nat) : Int)) w := by
  have e : ∀ p q : Nat, (Builtin.min2 (.int .i64 (p : Int)) (.int .i64 (q : Int))).run Try.prog w = .ok (.int .i64 ((min p q : Nat) : Int)) w := by
    intro p q
    simp only [Builtin.min2, Sem.run_pure]
    congr 2
    split <;> omega
  simp [Builtin.min_, List.foldlM, e, Sem.run_bind, Result.andThen]

set_option maxHeartbeats 1000000 in
theorem tog_walk (a b c : Option Addr) (ca cb cc : Nat) (la lb lc : List UInt8) (w : World) (hsa : SlB w a la) (hsb : SlB w b lb) (hsc : SlB w c lc) (hla : la.length ≤ 140737488355328) (hlb : lb.length ≤ 140737488355328) (hlc : lc.length ≤ 140737488355328)
    (hca : la.length ≤ ca) (hcb : lb.length ≤ cb) (hcc : lc.length ≤ cc) :
    Calls Try.prog 7 #[.slice a la.length ca, .slice b lb.length cb, .slice c lc.length cc] w fun e w' => e = .returned (.bool true) ∧ Below w.heap.size w w' := by
  obtain ⟨i0, hi, hz0, hz1, hz2⟩ := info_parts Try.info5
  have hmin := run_min4 w la.length lb.length lc.length 5000
  rw [show ((5000 : Nat) : Int) = 5000 from rfl] at hmin
  obtain ⟨n, hn, hna, hnb, hnc, hn5⟩ : ∃ n, n = min (min (min la.length lb.length) lc.length) 5000 ∧ n ≤ la.length ∧ n ≤ lb.length ∧ n ≤ lc.length ∧ n ≤ 5000 := ⟨_, rfl, by omega, by omega, by omega, by omega⟩
  rw [← hn] at hmin
  clear hn
  go_enter Try.func7, Try.ntmps7
  go_wp2_with fail
  have hown0 : (w.alloc (.cells #[] 5)).ownsRow w.heap.size 5 1 (.slice (some ⟨w.heap.size, 0, none⟩) 0 0) 0 (bcells []) := World.ownsRow_made w #[] 0 (Nat.le_refl _) (by decide) rfl
  have hB0 : Below w.heap.size w (w.alloc (.cells #[] 5)) := (Below.refl _ _).alloc (Nat.le_refl _) _
  clear hmin
  go_loopw [8, 9] (fun v i ws => ∃ k : Nat, k ≤ n ∧ i = .int .i64 k ∧ ws.ownsRow w.heap.size 5 1 v k (bcells (tog la lb lc k)) ∧ Below w.heap.size w ws) (fun _ i _ => n - (intOf i).toNat)
  case atStart => exact ⟨0, by omega, rfl, hown0, hB0⟩
  case round =>
    obtain ⟨k, hk, rfl, hown, hB⟩ := hrel
    clear hown0 hB0
    have hsz := hB.size
    by_cases hlt : k < n
    · cases a with
      | none => have := hsa.nonil rfl; subst this; simp at hna; omega
      | some xa =>
      cases b with
      | none => have := hsb.nonil rfl; subst this; simp at hnb; omega
      | some xb =>
      cases c with
      | none => have := hsc.nonil rfl; subst this; simp at hnc; omega
      | some xc =>
      obtain ⟨ga, oa, sa⟩ := xa
      obtain ⟨gb, ob, sb⟩ := xb
      obtain ⟨gc, oc, sc⟩ := xc
      obtain ⟨rfl, hcea⟩ := (hsa.below hB).at k (by omega)
      obtain ⟨rfl, hceb⟩ := (hsb.below hB).at k (by omega)
      obtain ⟨rfl, hcec⟩ := (hsc.below hB).at k (by omega)
      have hxor := xor3_u8 (la[k]'(by omega)) (lb[k]'(by omega)) (lc[k]'(by omega))
      have HT : Hid (tog la lb lc (k + 1) = tog la lb lc k ++ [la[k]'(by omega) ^^^ lb[k]'(by omega) ^^^ lc[k]'(by omega)]) := by
        show _ = _
        rw [tog]
        simp [List.getElem?_eq_getElem (show k < la.length by omega), List.getElem?_eq_getElem (show k < lb.length by omega), List.getElem?_eq_getElem (show k < lc.length by omega)]
      have hga := World.block_lt_of_cell? _ _ hcea
      have hgb := World.block_lt_of_cell? _ _ hceb
      have hgc := World.block_lt_of_cell? _ _ hcec
      obtain ⟨ay, cy, rfl⟩ := ownsRow_shape hown
      have hka : (k : Int) < (la.length : Int) := by omega
      have hkb : (k : Int) < (lb.length : Int) := by omega
      have hkc : (k : Int) < (lc.length : Int) := by omega
      go_wp2
      go_region_law (refine step_append_own rfl (.tmp 23) (.tmp 38) 22 rfl w.heap.size 5 i0 (.int .u8 0) 1 1 Try.underlying22 hi hz0 hz1 hz2 rfl (by decide) _ _ _ rfl (hown.alloc _).drew ⟨wr.heap.size, 0, none⟩ 1 1 [_] rfl rfl (cell_one_new _ _ _) (by intro u hu; simp at hu; subst hu; rfl) (by unfold maxLen; omega) (by omega) (by simp; omega) ?_; intro v' w1 hown' hgrow)
      all_goals
        have hB1 : Below w.heap.size w w1 := ((hB.alloc hsz _).drew).grown hgrow (by simp; omega) (fun q hq => (hown.lt q hq).1)
        have hown1 : w1.ownsRow w.heap.size 5 1 v' (k + 1) (bcells (tog la lb lc (k + 1))) := by
          rw [HT.out, bcells_append]
          simpa [bcells] using hown'
        clear hown' hgrow hcea hceb hcec hxor
        go_wp2
        go_roundw
        case rel => exact ⟨k + 1, by omega, by go_num, hown1, hB1⟩
        case measure => simp [intOf]; omega
    · obtain rfl : k = n := by omega
      obtain ⟨ay, cy, rfl⟩ := ownsRow_shape hown
      have hmx := more_tog la lb lc k hna hnb hnc
      have hea : (la.take k).length = k := by simp; omega
      have heb : (lb.take k).length = k := by simp; omega
      have hec : (lc.take k).length = k := by simp; omega
      have hx1 := u32_xor_nat _ _ (more_lt 0 (la.take k)) (more_lt 0 (lb.take k))
      have hx2 := u32_xor_nat _ _ (show more 0 (la.take k) ^^^ more 0 (lb.take k) < 4294967296 from Nat.xor_lt_two_pow (n := 32) (more_lt _ _) (more_lt _ _)) (more_lt 0 (lc.take k))
      rw [hmx] at hx2
      have hda : ∀ W, Below wr.heap.size wr W → Calls Try.prog 10 #[.slice a k ca] W fun e w' => e = .returned (.int .u32 ((more 0 (la.take k) : Nat) : Int)) ∧ Below W.heap.size W w' := by
        intro W hW
        have := sum_any a ca (la.take k) W ((hsa.below (hB.trans (hW.mono hsz))).take k) (by unfold maxLen; omega)
        rwa [hea] at this
      have hdb : ∀ W, Below wr.heap.size wr W → Calls Try.prog 10 #[.slice b k cb] W fun e w' => e = .returned (.int .u32 ((more 0 (lb.take k) : Nat) : Int)) ∧ Below W.heap.size W w' := by
        intro W hW
        have := sum_any b cb (lb.take k) W ((hsb.below (hB.trans (hW.mono hsz))).take k) (by unfold maxLen; omega)
        rwa [heb] at this
      have hdc : ∀ W, Below wr.heap.size wr W → Calls Try.prog 10 #[.slice c k cc] W fun e w' => e = .returned (.int .u32 ((more 0 (lc.take k) : Nat) : Int)) ∧ Below W.heap.size W w' := by
        intro W hW
        have := sum_any c cc (lc.take k) W ((hsc.below (hB.trans (hW.mono hsz))).take k) (by unfold maxLen; omega)
        rwa [hec] at this
      have hdd : ∀ W, Below wr.heap.size wr W → Calls Try.prog 10 #[.slice ay k cy] W fun e w' => e = .returned (.int .u32 ((more 0 (tog la lb lc k) : Nat) : Int)) ∧ Below W.heap.size W w' := by
        intro W hW
        have h1 := hown
        rw [show k = (tog la lb lc k).length from (tog_length _ _ _ _).symm] at h1
        simp only [tog_length] at h1
        have h2 : wr.ownsRow w.heap.size 5 1 (.slice ay k cy) (tog la lb lc k).length (bcells (tog la lb lc k)) := by rw [tog_length]; exact hown
        have := sum_any ay cy (tog la lb lc k) W ((slB_of_own h2).1.below hW) (by rw [tog_length]; unfold maxLen; omega)
        rwa [tog_length] at this
      have HDA := (show Hid _ from hda)
      have HDB := (show Hid _ from hdb)
      have HDC := (show Hid _ from hdc)
      have HDD := (show Hid _ from hdd)
      have HB : Hid (Below w.heap.size w wr) := hB
      clear hda hdb hdc hdd hmx hea heb hec hown hB hsa hsb hsc
      generalize more 0 (la.take k) = A at *
      generalize more 0 (lb.take k) = B at *
      generalize more 0 (lc.take k) = C at *
      generalize more 0 (tog la lb lc k) = D at *
      generalize A ^^^ B = AB at *
      have hkca : (k : Int) ≤ (ca : Int) := by omega
      have hkcb : (k : Int) ≤ (cb : Int) := by omega
      have hkcc : (k : Int) ≤ (cc : Int) := by omega
      have hk0 : (0 : Int) ≤ (k : Int) := by omega
      go_wp2
      go_region_with (first | (go_at_call 10; refine (HDA.out _ (Below.refl _ _).drew).mono ?_; rintro e wA ⟨rfl, hbA0⟩; have hbA : Below wr.heap.size wr wA := ((Below.refl _ _).drew).trans (hbA0.mono (by simp)); clear hbA0) | (go_at_call 10; refine (HDB.out _ hbA).mono ?_; rintro e wB ⟨rfl, hbB0⟩; have hbB : Below wr.heap.size wr wB := hbA.trans (hbB0.mono hbA.size); clear hbB0) | (go_at_call 10; refine (HDC.out _ hbB).mono ?_; rintro e wC ⟨rfl, hbC0⟩; have hbC : Below wr.heap.size wr wC := hbB.trans (hbC0.mono hbB.size); clear hbC0) | (go_at_call 10; refine (HDD.out _ hbC).mono ?_; rintro e wD ⟨rfl, hbD0⟩; have hbD : Below wr.heap.size wr wD := hbC.trans (hbD0.mono hbC.size); clear hbD0) | (go_at_call 9; refine (lives_any _).mono ?_; rintro e wE ⟨rfl, hbE0⟩; have hbE : Below wr.heap.size wr wE := hbD.trans (hbE0.mono hbD.size); clear hbE0))
      all_goals
        go_wp2
        go_ret
        exact ⟨rfl, HB.out.trans (hbE.mono hsz)⟩
end Go.Proofs.Ytjdfjeaeoadmdaa
