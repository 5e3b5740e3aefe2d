/-
  The walk of Seal.
-/
import Derived.Test.YtjhjicokbdloiaaRf
import Derived.Laws.MakeOwn
namespace Go.Proofs.Ytjhjicokbdloiaa
open Go.RowKit


theorem bcells_one (l : List UInt8) : ∀ u ∈ bcells l, u.oneCell' = true := by
  intro u hu
  simp [bcells] at hu
  obtain ⟨b, _, rfl⟩ := hu
  rfl

/-- An append of a slice of bytes, nil or not, to a row of bytes of the call's own. -/
theorem wpList_append_slB {w : World} {ops : Array Oper} {rest : List Oper} {o : Oper} {act : Act} {Q : Exit → Act → World → Prop} (hgd : o.guard = none) (s x : Operand)
    (ho : o.op = .call { callee := .builtin .append, args := #[s, x], argTypes := #[34, 34] }) (base : Nat) (v : Value) (n : Nat) (xs : List UInt8)
    (hs : act.eval s = v) (hown : w.ownsRow base 5 1 v n (bcells xs)) (a : Option Addr) (c m : Nat) (l : List UInt8) (hm : m = l.length) (hx : act.eval x = .slice a m c) (hsl : SlB w a l) (hnil : a = none → c = 0)
    (hb : n + m ≤ 140737488355328) (hbase : base ≤ w.heap.size)
    (h : ∀ v' w', w'.ownsRow base 5 1 v' (n + m) (bcells (xs ++ l)) → Below base w w' → wpList Try.prog ops Q rest (act.put o.dst v') w') : wpList Try.prog ops Q (o :: rest) act w := by
  subst hm
  obtain ⟨i0, hi, hz0, hz1, hz2⟩ := info_parts Try.info5
  cases a with
  | none =>
    have := hsl.nonil rfl
    subst this
    obtain rfl := hnil rfl
    exact wpList_append_own_none hgd s x 34 ho base 5 i0 1 Try.underlying34 hi v n _ hs hown hx (h v w (by simpa using hown) (Below.refl _ _))
  | some ad =>
    refine wpList_append_own w hgd s x 34 ho base 5 i0 (.int .u8 0) 1 1 Try.underlying34 hi hz0 hz1 hz2 rfl (by decide) v n (bcells xs) hs hown ad l.length c (bcells l) hx (by simp [bcells]) (hsl.cells ad rfl) (bcells_one l) (by unfold maxLen; omega) (by omega) hbase ?_
    intro v' w' h1 h2 _
    refine h v' w' (by rw [bcells_append]; exact h1) ((Below.refl _ _).grown h2 hbase ?_)
    intro k hk
    exact (hown.lt k hk).1

theorem seal_any (a : Option Addr) (c : Nat) (l : List UInt8) (w : World) (hsl : SlB w a l) (hl : l.length ≤ 1000000000) (hnil : a = none → c = 0) :
    Calls Try.prog 33 #[.slice a l.length c] w fun e w' => ∃ r, e = .returned r ∧ w'.ownsRow w.heap.size 5 1 r (l.length + 4) (bcells (sealB l)) ∧ Below w.heap.size w w' := by
  obtain ⟨i0, hi, hz0, hz1, hz2⟩ := info_parts Try.info5
  obtain ⟨w1, hmk, hown1, hg1⟩ := run_make_own (P := Try.prog) w w.heap.size 34 5 i0 (.int .u8 0) 1 Try.underlying34 hi hz0 hz1 .i64 .i64 (l.length + 4) (by rw [hz2]; omega) (by unfold maxLen; omega) (Nat.le_refl _)
  rw [show ((l.length + 4 : Nat) : Int) = (l.length : Int) + 4 by omega] at hmk
  have hb1 : Below w.heap.size w w1 := (Below.refl _ _).grown hg1 (Nat.le_refl _) (fun k hk => by simp at hk)
  have hsl1 := hsl.below hb1
  have HB1 : Hid (Below w.heap.size w w1) := hb1
  have hs1 := hb1.size
  clear hg1 hb1 hi hz0 hz1 hz2
  go_enter Try.func33, Try.ntmps33
  go_wp2_with (at_builtin; go_must (refine wpList_append_slB rfl (.tmp 10) (.tmp 11) rfl w.heap.size _ 0 [] rfl hown1 a c _ l rfl rfl hsl1 hnil (by omega) hs1 ?_); intro v2 w2 hown2 hb2)
  have hb02 := HB1.out.trans hb2
  have hsl2 := hsl.below hb02
  clear hb2 hown1 hmk hsl1
  refine (sum_any a c l _ hsl2 (by unfold maxLen; omega)).mono ?_
  rintro e w3 ⟨rfl, hb3⟩
  have hown3 := ownsRow_below hown2 hb3 (ownsRow_lt hown2)
  have hs02 := hb02.size
  have hb03 := hb02.trans (hb3.mono hs02)
  have HSum : Hid (sealB l = l ++ leB (more 0 l) 4) := rfl
  have hS := more_lt 0 l
  generalize more 0 l = S at *
  clear hown2 hb3 hb02 hs02 hsl2 hs1
  rw [Nat.zero_add, List.nil_append] at hown3
  go_wp2_with fail
  go_loopw [3, 15] (fun v i ws => ∃ k : Nat, k ≤ 4 ∧ i = .int .i64 k ∧ ws.ownsRow w.heap.size 5 1 v (l.length + k) (bcells (l ++ leB S k)) ∧ Below w.heap.size w ws) (fun _ i _ => 4 - (intOf i).toNat)
  case atStart => exact ⟨0, by omega, rfl, by simpa [leB] using hown3, hb03⟩
  case round =>
    obtain ⟨k, hk, rfl, hown, hbw⟩ := hrel
    clear hown3 hb03
    have hsw := hbw.size
    by_cases hlt : k < 4
    · have hwr : IntKind.i64.wrap (8 * (k : Int)) = 8 * (k : Int) := by simp [IntKind.wrap, IntKind.bits, IntKind.signed]; omega
      have hk0 : 0 ≤ 8 * (k : Int) := by omega
      have hk1 : 8 * (k : Int) ≤ 64 := by omega
      have hnew : SlB (wr.alloc (.cells #[.int .u8 ((S : Int) / 2 ^ (8 * k) % 256)] 5)) (some ⟨wr.heap.size, 0, none⟩) [UInt8.ofNat (S / 256 ^ k)] := by
        have hby := byte_at (S : Int) k (by omega)
        rw [IntKind.wrap_u8, show (8 * (k : Int)).toNat = 8 * k by omega, Int.toNat_natCast] at hby
        rw [hby]
        exact slB_new wr [UInt8.ofNat (S / 256 ^ k)] (0, 0)
      have HL : Hid (l ++ leB S (k + 1) = (l ++ leB S k) ++ [UInt8.ofNat (S / 256 ^ k)]) := by simp [Hid, leB]
      go_wp2_with (at_builtin; go_must (refine wpList_append_slB rfl (.tmp 18) (.tmp 24) rfl w.heap.size _ (l.length + k) (l ++ leB S k) rfl (hown.alloc _) (some ⟨wr.heap.size, 0, none⟩) 1 1 [UInt8.ofNat (S / 256 ^ k)] rfl rfl hnew (fun h => by simp at h) (by omega) (by simp; omega) ?_); intro v5 w5 hown5 hb5)
      clear hnew
      have hb6 := (hbw.alloc hsw _).trans hb5
      rw [← HL.out] at hown5
      go_roundw
      case rel => exact ⟨k + 1, by omega, by go_num, hown5, hb6⟩
      case measure => simp [intOf]; omega
    · go_wp2
      go_ret
      obtain rfl : k = 4 := by omega
      exact ⟨_, rfl, by rw [HSum.out]; exact hown, hbw⟩
end Go.Proofs.Ytjhjicokbdloiaa
