/-
  A thing is taken off as it was laid; or it was cut.
-/
import Derived.Test.YtdknodmdndkneaaTk
namespace Go.Proofs.Ytdknodmdndkneaa
open Go.RowKit

theorem leV_leB (n k : Nat) : leV (leB n k) = n % 256 ^ k := by
  induction k with
  | zero => simp [leB, leV, Nat.mod_one]
  | succ k ih =>
    rw [leB, leV_snoc, ih, leB_length, Nat.mod_pow_succ]
    simp [Nat.mul_comm]

theorem takeN_full (n k : Nat) (rest : List UInt8) : takeN k (leB n k ++ rest) 0 = (rest, 0, n % 256 ^ k) := by
  have hl := leB_length n k
  unfold takeN
  rw [if_neg (by simp), if_neg (by simp [hl])]
  rw [show (leB n k ++ rest).drop k = rest from List.drop_left' hl, show (leB n k ++ rest).take k = leB n k from List.take_left' hl, leV_leB]

theorem takeN_cut (k : Nat) (l : List UInt8) (h : l.length < k) : takeN k l 0 = (l, 4, 0) := by
  simp [takeN, h]

theorem takeT_full (s : ByteArray) (rest : List UInt8) (hs : s.size ≤ 65535) : takeT 65535 (textB s ++ rest) 0 = (rest, 0, s.data.toList) := by
  have hsl : s.data.toList.length = s.size := by simp
  have hT : textB s = leB s.size 2 ++ s.data.toList := by
    have : s.data.toList.take 65535 = s.data.toList := List.take_of_length_le (by omega)
    unfold textB
    rw [this, hsl]
  have h2 := leB_length s.size 2
  have e1 : (textB s ++ rest).take 2 = leB s.size 2 := by rw [hT, List.append_assoc]; exact List.take_left' h2
  have e2 : (textB s ++ rest).drop 2 = s.data.toList ++ rest := by rw [hT, List.append_assoc]; exact List.drop_left' h2
  have e3 : leV (leB s.size 2) = s.size := by rw [leV_leB]; omega
  have e4 : (textB s ++ rest).drop (2 + s.size) = rest := by rw [← List.drop_drop, e2]; exact List.drop_left' hsl
  have e5 : (textB s ++ rest).length = 2 + s.size + rest.length := by rw [hT]; simp only [List.length_append, h2, hsl]
  unfold takeT
  rw [e1, e2, e3, e4, if_neg (by simp), if_neg (by omega), if_neg (by omega), if_neg (by omega), List.take_left' hsl]

theorem takeT_cut (s : ByteArray) (m : Nat) (hs : s.size ≤ 65535) (hm : m < (textB s).length) : takeT 65535 ((textB s).take m) 0 = ((textB s).take m, 4, []) := by
  have hsl : s.data.toList.length = s.size := by simp
  have hT : textB s = leB s.size 2 ++ s.data.toList := by
    have : s.data.toList.take 65535 = s.data.toList := List.take_of_length_le (by omega)
    unfold textB
    rw [this, hsl]
  have h2 := leB_length s.size 2
  have hl : ((textB s).take m).length = m := by rw [List.length_take]; omega
  have e5 : (textB s).length = 2 + s.size := by rw [hT]; simp only [List.length_append, h2, hsl]
  unfold takeT
  rw [hl]
  by_cases hm2 : m < 2
  · simp [hm2]
  · have e1 : ((textB s).take m).take 2 = leB s.size 2 := by rw [List.take_take, show min 2 m = 2 by omega, hT]; exact List.take_left' h2
    have e3 : leV (leB s.size 2) = s.size := by rw [leV_leB]; omega
    rw [e1, e3, if_neg (by simp), if_neg hm2, if_neg (by omega), if_pos (by omega)]

theorem wrap_at (N : Int) (hN : 0 ≤ N) : IntKind.u8.wrap N = ((N.toNat % 256 ^ 1 : Nat) : Int) ∧ IntKind.u16.wrap N = ((N.toNat % 256 ^ 2 : Nat) : Int) ∧ IntKind.u32.wrap N = ((N.toNat % 256 ^ 4 : Nat) : Int) := by
  simp [IntKind.wrap, IntKind.bits, IntKind.signed]
  omega

theorem kind_cases (K : Int) : kindOf K = 0 ∨ kindOf K = 1 ∨ kindOf K = 2 ∨ kindOf K = 3 ∨ kindOf K = 4 := by
  have := kindOf_lt K
  omega

theorem taken_full (B p : Nat) (a : Option Addr) (c : Nat) (rest : List UInt8) (K N : Int) (s : ByteArray) (w : World) (hR : ROk w B p a c (thingB K N s ++ rest) 0) (hN : 0 ≤ N) (hN1 : N < 18446744073709551616) (hs : s.size ≤ 65535) :
    Calls Try.prog 27 #[.pointer (some ⟨p, 0, none⟩), .agg #[.int .i64 K, .int .u64 N, .string s]] w fun e w' => e = .returned (.bool true) ∧ (∃ a' c', ROk w' B p a' c' rest 0) ∧ Below B w w' := by
  obtain ⟨w1, w2, w4⟩ := wrap_at N hN
  rcases kind_cases K with hk | hk | hk | hk | hk
  · rw [show thingB K N s = leB N.toNat 1 by simp [thingB, hk]] at hR
    have h := taken_0 B p a c _ 0 K N s w hR hk
    rw [takeN_full, w1] at h
    simpa using h
  · rw [show thingB K N s = leB N.toNat 2 by simp [thingB, hk]] at hR
    have h := taken_1 B p a c _ 0 K N s w hR hk
    rw [takeN_full, w2] at h
    simpa using h
  · rw [show thingB K N s = leB N.toNat 4 by simp [thingB, hk]] at hR
    have h := taken_2 B p a c _ 0 K N s w hR hk
    rw [takeN_full, w4] at h
    simpa using h
  · rw [show thingB K N s = leB N.toNat 8 by simp [thingB, hk]] at hR
    have h := taken_3 B p a c _ 0 K N s w hR hk
    rw [takeN_full, show ((N.toNat % 256 ^ 8 : Nat) : Int) = N by omega] at h
    simpa using h
  · rw [show thingB K N s = textB s by simp [thingB, hk]] at hR
    have h := taken_4 B p a c _ 0 K N s w hR hk
    rw [takeT_full s rest hs] at h
    refine h.mono ?_
    rintro e w' ⟨⟨b, rfl, hb⟩, h1, h2⟩
    rw [hb rfl]
    exact ⟨rfl, h1, h2⟩

theorem taken_cut (B p : Nat) (a : Option Addr) (c m : Nat) (K N : Int) (s : ByteArray) (w : World) (hR : ROk w B p a c ((thingB K N s).take m) 0) (hm : m < (thingB K N s).length) (hs : s.size ≤ 65535) :
    Calls Try.prog 27 #[.pointer (some ⟨p, 0, none⟩), .agg #[.int .i64 K, .int .u64 N, .string s]] w fun e w' => (∃ b, e = .returned (.bool b)) ∧ (∃ a' c', ROk w' B p a' c' ((thingB K N s).take m) 4) ∧ Below B w w' := by
  have hl : ((thingB K N s).take m).length = m := by rw [List.length_take]; omega
  rcases kind_cases K with hk | hk | hk | hk | hk
  · have e : thingB K N s = leB N.toNat 1 := by simp [thingB, hk]
    rw [e, leB_length] at hm
    have h := taken_0 B p a c _ 0 K N s w hR hk
    rw [takeN_cut 1 _ (by omega)] at h
    exact h.mono fun e w' h => ⟨⟨_, h.1⟩, h.2⟩
  · have e : thingB K N s = leB N.toNat 2 := by simp [thingB, hk]
    rw [e, leB_length] at hm
    have h := taken_1 B p a c _ 0 K N s w hR hk
    rw [takeN_cut 2 _ (by omega)] at h
    exact h.mono fun e w' h => ⟨⟨_, h.1⟩, h.2⟩
  · have e : thingB K N s = leB N.toNat 4 := by simp [thingB, hk]
    rw [e, leB_length] at hm
    have h := taken_2 B p a c _ 0 K N s w hR hk
    rw [takeN_cut 4 _ (by omega)] at h
    exact h.mono fun e w' h => ⟨⟨_, h.1⟩, h.2⟩
  · have e : thingB K N s = leB N.toNat 8 := by simp [thingB, hk]
    rw [e, leB_length] at hm
    have h := taken_3 B p a c _ 0 K N s w hR hk
    rw [takeN_cut 8 _ (by omega)] at h
    exact h.mono fun e w' h => ⟨⟨_, h.1⟩, h.2⟩
  · have e : thingB K N s = textB s := by simp [thingB, hk]
    rw [e] at hm hR ⊢
    have h := taken_4 B p a c _ 0 K N s w hR hk
    rw [takeT_cut s m hs hm] at h
    exact h.mono fun e w' h => ⟨by obtain ⟨⟨b, hb, _⟩, _⟩ := h; exact ⟨b, hb⟩, h.2⟩

/-- The bytes of d things from the k-th on. -/
def encR (K N : Nat → Int) (S : Nat → ByteArray) : Nat → Nat → List UInt8
  | _, 0 => []
  | k, d + 1 => thingB (K k) (N k) (S k) ++ encR K N S (k + 1) d

theorem encT_encR (K N : Nat → Int) (S : Nat → ByteArray) (d : Nat) : ∀ k, encT K N S k ++ encR K N S k d = encT K N S (k + d) := by
  induction d with
  | zero => intro k; simp [encR]
  | succ d ih =>
    intro k
    have := ih (k + 1)
    rw [encR, ← List.append_assoc]
    rw [encT] at this
    rw [this]
    congr 1
    omega

end Go.Proofs.Ytdknodmdndkneaa
