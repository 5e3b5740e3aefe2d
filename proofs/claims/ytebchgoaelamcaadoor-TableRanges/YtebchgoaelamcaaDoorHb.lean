/-
  The names of pages' locks.
-/
import Derived.Test.YtebchgoaelamcaaDoorHa
import Derived.Shelf.Strconv.Itoa3
import Derived.Shelf.Lay
import Derived.Ground.NamesProg
import Derived.Lib.AppendIntMem
namespace Go.Proofs.YtebchgoaelamcaaDoor
open Go.RowKit Go.Shelf
set_option maxRecDepth 100000

shelf_lay LaysM.n171 Nm 171 at Tryd as layItoa

theorem toHid {p : Prop} (h : p) : Hid p := h
/-- The library's table of powers of ten stands there. -/
abbrev Tb (w : World) : Prop := Lib.TabIs Tryd.prog w "internal/strconv.uint64pow10" .u64 Lib.pow10Tab
theorem Tb.below {w w' : World} (h : Tb w) (hb : Below w.heap.size w w') : Tb w' := Lib.tabBelow_of_tabIs h w' hb

theorem itoa_any (n : Int) (h0 : 0 ≤ n) (h1 : n ≤ 9223372036854775807) (w : World) (ht : Tb w) : Calls Tryd.prog 35 #[.int .i64 n] w fun e w' => e = .returned (.string (txt (Lib.decDigits n.toNat))) ∧ Below w.heap.size w w' := by
  refine Calls.mono (Any.strconv_Itoa layItoa n (by omega) h1 w ht) ?_
  rintro e w' ⟨rfl, k, os, rfl⟩
  refine ⟨?_, Lib.below_grow _ _ (Nat.le_refl _) _ _⟩
  unfold Lib.itoa
  rw [if_neg (by omega)]
  rfl

theorem bytes_cat (l m : List UInt8) : (⟨l.toArray⟩ : ByteArray) ++ ⟨m.toArray⟩ = ⟨(l ++ m).toArray⟩ := by
  apply ByteArray.ext
  simp
theorem cat_tx (a b : List UInt8) (h : a.length + b.length ≤ 4000) (W : World) : (Op.stringOp .add (txt a) (txt b)).run Tryd.prog W = .ok (.string (txt (a ++ b))) W := by
  have h1 : (txt a).size + (txt b).size ≤ 9223372036854775807 := by
    rw [txt_size, txt_size]
    omega
  have h2 := run_string_add_sum (P := Tryd.prog) (w := W) (txt a) (txt b) h1
  rw [show txt a ++ txt b = txt (a ++ b) from bytes_cat a b] at h2
  exact h2
theorem conv_on (w : World) (b : UInt8) : (convert 42 9 (.slice (some ⟨w.heap.size, 0, none⟩) 1 1)).run Tryd.prog (w.alloc (.cells #[.int .u8 (b.toNat : Int)] 5)) = .ok (.string ⟨#[b]⟩) (w.alloc (.cells #[.int .u8 (b.toNat : Int)] 5)) := by
  have := run_convert_bytes_back (P := Tryd.prog) (w.alloc (.cells #[.int .u8 (b.toNat : Int)] 5)) 42 9 5 ⟨w.heap.size, 0, none⟩ 1 [b] Tryd.underlying42 Tryd.underlying5 Tryd.underlying9 (fun j hj => by
    obtain rfl : j = 0 := by simp at hj; omega
    simp [Addr.add])
  simpa using this

theorem dec_len : ∀ (k u : Nat), u < 10 ^ (k + 1) → (Lib.decDigits u).length ≤ k + 1
  | 0, u, h => by rw [Lib.decDigits_one (by simpa using h)]; simp
  | k + 1, u, h => by
    rw [Lib.decDigits]
    split
    · simp
    · have := dec_len k (u / 10) (by rw [Nat.pow_succ] at h; omega)
      simp only [List.length_append, List.length_cons, List.length_nil]
      omega
theorem dec_len20 (u : Nat) (h : u ≤ 9223372036854775807) : (Lib.decDigits u).length ≤ 20 := dec_len 19 u (by omega)

theorem digits_any : ∀ (m u : Nat), u < m → u ≤ 9223372036854775807 → ∀ w : World, Calls Tryd.prog 36 #[.int .i64 (u : Int)] w fun e w' => e = .returned (.string (txt (Lib.decDigits u))) ∧ Below w.heap.size w w' := by
  intro m
  induction m with
  | zero => intro u hu; omega
  | succ m ih =>
    intro u hu h1 w
    by_cases hs : u < 10
    · obtain ⟨b, hbe⟩ : ∃ b : UInt8, b = UInt8.ofNat (48 + u) := ⟨_, rfl⟩
      have hcv := conv_on w b
      rw [show (b.toNat : Int) = 48 + (u : Int) by
        have : b.toNat = 48 + u := by rw [hbe, UInt8.toNat_ofNat']; omega
        omega] at hcv
      have HBE := toHid hbe
      clear hbe
      go_enter Tryd.func36, Tryd.ntmps36
      go_wp2_with fail
      go_ret
      exact ⟨by rw [Lib.decDigits_one hs, ← HBE.out]; rfl, (Below.refl _ _).alloc (Nat.le_refl _) _⟩
    · have hc := cat_tx (Lib.decDigits (u / 10)) (Lib.decDigits (u % 10)) (by have a := dec_len20 (u / 10) (by omega); have b := dec_len20 (u % 10) (by omega); omega)
      have HI := toHid ih
      clear ih
      go_enter Tryd.func36, Tryd.ntmps36
      go_wp2_with fail
      refine Calls.mono (by have := HI.out (u / 10) (by omega) (by omega) w; rwa [show ((u / 10 : Nat) : Int) = (u : Int) / 10 by omega] at this) ?_
      rintro e w1 ⟨rfl, hb1⟩
      go_wp2_with fail
      refine Calls.mono (by have := HI.out (u % 10) (by omega) (by omega) w1; rwa [show ((u % 10 : Nat) : Int) = (u : Int) % 10 by omega] at this) ?_
      rintro e w2 ⟨rfl, hb2⟩
      go_wp2_with fail
      go_ret
      refine ⟨?_, hb1.trans (hb2.mono hb1.size)⟩
      conv => rhs; rw [Lib.decDigits, dif_neg hs]
      rw [Lib.decDigits_one (show u % 10 < 10 by omega)]
      rfl

/-- A page's lock's name. -/
def nameL (n : Int) : List UInt8 := if n < 0 then [] else 112 :: Lib.decDigits n.toNat
theorem name_any (n : Int) (h0 : -9223372036854775808 ≤ n) (h1 : n ≤ 9223372036854775807) (w : World) (ht : 0 ≤ n → Tb w) : Calls Tryd.prog 13 #[.int .i64 n] w fun e w' => e = .returned (.string (txt (nameL n))) ∧ Below w.heap.size w w' := by
  by_cases hn : n < 0
  · go_enter Tryd.func13, Tryd.ntmps13
    go_wp2_with fail
    go_ret
    exact ⟨by simp [nameL, hn, txt], Below.refl _ _⟩
  · have hc := cat_tx [112] (Lib.decDigits n.toNat) (by have := dec_len20 n.toNat (by omega); simp; omega)
    rw [show txt [112] = ⟨#[112]⟩ from rfl] at hc
    have HT := toHid (ht (by omega))
    go_enter Tryd.func13, Tryd.ntmps13
    go_wp2_with fail
    refine Calls.mono (itoa_any n (by omega) h1 _ HT.out) ?_
    rintro e w' ⟨rfl, hb⟩
    go_wp2_with fail
    go_ret
    exact ⟨by simp [nameL, show ¬ n < 0 by omega], hb⟩
theorem refname_any (n : Int) (h0 : -9223372036854775808 ≤ n) (h1 : n ≤ 9223372036854775807) (w : World) : Calls Tryd.prog 14 #[.int .i64 n] w fun e w' => e = .returned (.string (txt (nameL n))) ∧ Below w.heap.size w w' := by
  by_cases hn : n < 0
  · go_enter Tryd.func14, Tryd.ntmps14
    go_wp2_with fail
    go_ret
    exact ⟨by simp [nameL, hn, txt], Below.refl _ _⟩
  · have hc := cat_tx [112] (Lib.decDigits n.toNat) (by have := dec_len20 n.toNat (by omega); simp; omega)
    rw [show txt [112] = ⟨#[112]⟩ from rfl] at hc
    go_enter Tryd.func14, Tryd.ntmps14
    go_wp2_with fail
    refine Calls.mono (by have := digits_any (n.toNat + 1) n.toNat (by omega) (by omega) w; rwa [show ((n.toNat : Nat) : Int) = n by omega] at this) ?_
    rintro e w' ⟨rfl, hb⟩
    go_wp2_with fail
    go_ret
    exact ⟨by simp [nameL, show ¬ n < 0 by omega], hb⟩
end Go.Proofs.YtebchgoaelamcaaDoor
