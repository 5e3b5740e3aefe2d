/-
  The walk of Open.
-/
import Derived.Test.YtjhjicokbdloiaaSe
namespace Go.Proofs.Ytjhjicokbdloiaa
open Go.RowKit

theorem leN_lt (l : List UInt8) : leN l < 256 ^ l.length := by
  induction l with
  | nil => simp [leN]
  | cons b r ih =>
    have := b.toNat_lt
    simp only [leN, List.length_cons, Nat.pow_succ]
    omega

theorem leN_snoc (l : List UInt8) (b : UInt8) : leN (l ++ [b]) = leN l + b.toNat * 256 ^ l.length := by
  induction l with
  | nil => simp [leN]
  | cons c r ih =>
    simp only [List.cons_append, leN, ih, List.length_cons, Nat.pow_succ]
    have e : 256 * (b.toNat * 256 ^ r.length) = b.toNat * (256 ^ r.length * 256) := by rw [Nat.mul_left_comm, Nat.mul_comm 256]
    omega

theorem leN_leB (n k : Nat) : leN (leB n k) = n % 256 ^ k := by
  induction k with
  | zero => simp [leB, leN, Nat.mod_one]
  | succ k ih =>
    rw [leB, leN_snoc, ih, leB_length, Nat.mod_pow_succ]
    simp [Nat.mul_comm]

theorem leN_inj (l m : List UInt8) (h : l.length = m.length) (e : leN l = leN m) : l = m := by
  induction l generalizing m with
  | nil => cases m with
    | nil => rfl
    | cons c r => simp at h
  | cons b r ih => cases m with
    | nil => simp at h
    | cons c q =>
      have hb := b.toNat_lt
      have hc := c.toNat_lt
      simp only [leN] at e
      have e1 : b.toNat = c.toNat := by omega
      have e2 : leN r = leN q := by omega
      rw [UInt8.toNat_inj.1 e1, ih q (by simpa using h) e2]

/-- A sum's four bytes are the sum's just if their number is the sum. -/
theorem four_iff (l : List UInt8) (S : Nat) (h : l.length = 4) (hS : S < 4294967296) : l = leB S 4 ↔ leN l = S := by
  have e : leN (leB S 4) = S := by rw [leN_leB]; omega
  constructor
  · rintro rfl; exact e
  · intro e2
    exact leN_inj _ _ (by rw [h, leB_length]) (by rw [e, e2])

/-- One byte more. -/
theorem or_stepc (l : List UInt8) (b : UInt8) (hk : l.length < 4) :
    bits .or .u32 ((leN l : Nat) : Int) ((b.toNat : Int) * 2 ^ (8 * l.length) % 4294967296) = ((leN (l ++ [b]) : Nat) : Int) := by
  have e1 : ((b.toNat : Int) * 2 ^ (8 * l.length)) = ((b.toNat * 2 ^ (8 * l.length) : Nat) : Int) := by simp
  have hb := b.toNat_lt
  have h256 : (256 : Nat) ^ l.length = 2 ^ (8 * l.length) := by rw [Nat.pow_mul]
  have hle : 2 ^ (8 * l.length) ≤ 2 ^ 24 := Nat.pow_le_pow_right (by decide) (by omega)
  have hlt := leN_lt l
  rw [h256] at hlt
  have hbig : b.toNat * 2 ^ (8 * l.length) < 4294967296 := by
    have := Nat.mul_le_mul (show b.toNat ≤ 255 by omega) hle
    omega
  rw [e1, show ((b.toNat * 2 ^ (8 * l.length) : Nat) : Int) % 4294967296 = ((b.toNat * 2 ^ (8 * l.length) : Nat) : Int) by omega]
  rw [u32_or_nat _ _ (by omega) hbig, leN_snoc, h256]
  congr 1
  rw [Nat.or_comm, Nat.mul_comm b.toNat, Nat.add_comm]
  exact (Nat.two_pow_add_eq_or_of_lt hlt b.toNat).symm

/-- What opening bytes tells: the bytes, and the error. -/
def openB (l : List UInt8) : List UInt8 × Int :=
  if l.length < 4 then ([], 4)
  else if leN (l.drop (l.length - 4)) = more 0 (l.take (l.length - 4)) then (l.take (l.length - 4), 0) else ([], 6)

theorem SlB.take {w : World} {a : Option Addr} {l : List UInt8} (h : SlB w a l) (k : Nat) : SlB w a (l.take k) :=
  ⟨fun e => by rw [h.nonil e]; simp, fun x hx j u hu => h.cells x hx j u (by
    simp only [bcells, List.getElem?_map, List.getElem?_take] at hu ⊢
    split at hu
    · exact hu
    · simp at hu)⟩

theorem open_any (a : Option Addr) (c : Nat) (l : List UInt8) (w : World) (hsl : SlB w a l) (hl : l.length ≤ 1000000000) (hlc : l.length ≤ c) :
    Calls Try.prog 52 #[.slice a l.length c] w fun e w' => ∃ r, e = .returned (.tuple #[r, .int .i64 (openB l).2]) ∧ w'.ownsRow w.heap.size 5 1 r (openB l).1.length (bcells (openB l).1) ∧ Below w.heap.size w w' := by
  by_cases h4 : l.length < 4
  · rw [show openB l = ([], 4) by unfold openB; rw [if_pos h4]]
    go_enter Try.func52, Try.ntmps52
    go_wp2
    refine bodyPost_ret (v := .tuple #[.slice none 0 0, .int .i64 4]) (by simp [results, Try.results52, go_sem]) rfl ⟨_, rfl, ?_, Below.refl _ _⟩
    exact World.ownsRow_nil _ _ _ _
  · obtain ⟨m, hm⟩ : ∃ m, l.length = m + 4 := ⟨l.length - 4, by omega⟩
    have ho : openB l = if leN (l.drop m) = more 0 (l.take m) then (l.take m, 0) else ([], 6) := by
      unfold openB
      rw [if_neg h4, show l.length - 4 = m by omega]
    cases a with
    | none => have := hsl.nonil rfl; subst this; simp at h4
    | some x =>
      obtain ⟨g, o, sp⟩ := x
      obtain rfl : sp = none := (hsl.atc 0 (by omega)).1
      have HM : Hid (l.length = m + 4) := hm
      rw [hm]
      have hmb : m ≤ 1000000000 := by omega
      have hmc : m + 4 ≤ c := by omega
      clear hm h4 hl hlc
      go_enter Try.func52, Try.ntmps52
      go_wp2_with fail
      go_loop [5, 13] (fun s i => ∃ j : Nat, j ≤ 4 ∧ s = .int .u32 ((leN ((l.drop m).take j) : Nat) : Int) ∧ i = .int .i64 j) (fun _ i => 4 - (intOf i).toNat)
      case atStart => exact ⟨0, by omega, rfl, rfl⟩
      case round =>
        obtain ⟨j, hj, rfl, rfl⟩ := hrel
        by_cases hlt : j < 4
        · have hmj : m + j < l.length := by have := HM.out; omega
          obtain ⟨_, hcell⟩ := hsl.atc (m + j) hmj
          have hg := World.block_lt_of_cell? _ _ hcell
          have hd : j < (l.drop m).length := by have := HM.out; simp; omega
          have hst := or_stepc ((l.drop m).take j) l[m + j] (by simp; omega)
          have hle : ((l.drop m).take j).length = j := by simp at hd ⊢; omega
          have HE : Hid (leN ((l.drop m).take (j + 1)) = leN ((l.drop m).take j ++ [l[m + j]])) := by
            show _ = _
            rw [List.take_succ_eq_append_getElem hd]
            simp
          rw [hle] at hst
          clear hle hd
          generalize leN ((l.drop m).take j ++ [l[m + j]]) = s1 at *
          generalize leN ((l.drop m).take j) = s0 at *
          have hb8 : l[m + j].toNat < 256 := UInt8.toNat_lt _
          generalize l[m + j].toNat = b at *
          go_wp2
          go_round
          case rel => exact ⟨j + 1, by omega, by rw [HE.out], by go_num⟩
          case measure => simp [intOf]; omega
        · have e : (l.drop m).take j = l.drop m := List.take_of_length_le (by have := HM.out; simp; omega)
          rw [e]
          have hsm := hsl.take m
          have hlm : (l.take m).length = m := by have := HM.out; simp; omega
          have hsum := sum_any (some ⟨g, o, none⟩) c (l.take m) w hsm (by unfold maxLen; omega)
          rw [hlm] at hsum
          have hS := more_lt 0 (l.take m)
          have HO : Hid (openB l = if leN (l.drop m) = more 0 (l.take m) then (l.take m, 0) else ([], 6)) := ho
          have HLM : Hid ((l.take m).length = m) := hlm
          clear ho e hlm
          go_wp2_with fail
          refine hsum.mono ?_
          rintro e w1 ⟨rfl, hb1⟩
          clear hsum
          by_cases heq : leN (l.drop m) = more 0 (l.take m)
          · have HP : Hid (openB l = (l.take m, 0)) := by show _ = _; rw [HO.out, if_pos heq]
            rw [heq]
            clear HO heq
            have hsm1 := hsm.below hb1
            have hs1 := hb1.size
            generalize more 0 (l.take m) = S at *
            go_wp2_with (at_builtin; go_must (refine wpList_append_slB rfl _ (.tmp 37) rfl w.heap.size (.slice none 0 0) 0 [] rfl (World.ownsRow_nil _ _ _ _) (some ⟨g, o, none⟩) c m (l.take m) HLM.out.symm rfl hsm1 (fun h => by simp at h) (by omega) hs1 ?_); intro v2 w2 hown2 hb2)
            refine bodyPost_ret (v := .tuple #[v2, .int .i64 0]) (by simp [results, Try.results52, go_sem]) rfl ⟨_, by rw [HP.out], ?_, hb1.trans hb2⟩
            rw [HP.out, HLM.out]
            simpa using hown2
          · have HP : Hid (openB l = ([], 6)) := by show _ = _; rw [HO.out, if_neg heq]
            have heqi : ¬ ((leN (l.drop m) : Int) = (more 0 (l.take m) : Int)) := by omega
            clear HO heq
            generalize more 0 (l.take m) = S at *
            generalize leN (l.drop m) = D at *
            go_wp2
            refine bodyPost_ret (v := .tuple #[.slice none 0 0, .int .i64 6]) (by simp [results, Try.results52, go_sem]) rfl ⟨_, by rw [HP.out], ?_, hb1⟩
            rw [HP.out]
            exact World.ownsRow_nil _ _ _ _
end Go.Proofs.Ytjhjicokbdloiaa
