/-
  The walk of PageReads.
-/
import Derived.Test.YtoahcihhpimmgaaYk
import Derived.Test.YtoahcihhpimmgaaRg
import Derived.Test.YtoahcihhpimmgaaLv
namespace Go.Proofs.Ytoahcihhpimmgaa
open Go.RowKit

set_option maxRecDepth 20000 in
set_option maxHeartbeats 4000000 in
theorem reads_no (id z : Int) (a : Option Addr) (c cap1 : Nat) (l : List UInt8) (w W1 : World) (hsl : SlB w a l) (hl : l.length ≤ 5000) (hz : z ≠ 0)
    (hcv : (convert 9 45 (.string (txt l))).run Try.prog w = .ok (.slice (some ⟨w.heap.size, 0, none⟩) l.length cap1) W1) (hb1 : Below w.heap.size w W1)
    (hP : Calls Try.prog 18 #[.int .i64 id, .slice (some ⟨w.heap.size, 0, none⟩) l.length cap1] W1 fun e w' => e = .returned (.tuple #[.pointer none, .int .i64 z]) ∧ Below W1.heap.size W1 w')
    (hD : ∀ W, Calls Try.prog 19 #[.int .i64 id, .string (txt l)] W fun e w' => e = .returned (.tuple #[.agg (refP 0 0 none 0 0), .int .i64 z]) ∧ Below W.heap.size W w') :
    Calls Try.prog 5 #[.int .i64 id, .slice a l.length c] w fun e w' => e = .returned (.bool true) ∧ Below w.heap.size w w' := by
  have hc1 : (convert 45 9 (.slice a l.length c)).run Try.prog w = .ok (.string (txt l)) w := conv_slB (c := c) hsl
  have HP : Hid _ := hP
  have HD : Hid (∀ W, Calls Try.prog 19 #[.int .i64 id, .string (txt l)] W fun e w' => e = .returned (.tuple #[.agg (refP 0 0 none 0 0), .int .i64 z]) ∧ Below W.heap.size W w') := hD
  have HB1 : Hid _ := hb1
  have z1 : (z != 0) = true := by simpa using hz
  have z2 : (z != z) = false := by simp
  have hlt : ¬ (5000 : Int) < (l.length : Int) := by omega
  clear hP hD hb1 hsl hz
  go_enter Try.func5, Try.ntmps5
  go_wp2_with fail
  refine Calls.mono HP.out ?_
  rintro e w2 ⟨rfl, hb2⟩
  have HB2 : Hid (Below w.heap.size w w2) := HB1.out.trans (hb2.mono HB1.out.size)
  clear hb2 HP HB1 hc1 hcv
  go_wp2_with fail
  refine Calls.mono (HD.out _) ?_
  rintro e w3 ⟨rfl, hb3⟩
  have HB3 : Hid (Below w.heap.size w w3) := HB2.out.trans (hb3.mono HB2.out.size)
  clear hb3 HD HB2
  simp only [refP]
  go_wp2_with fail
  refine Calls.mono (lives_any _) ?_
  rintro e w4 ⟨rfl, hb4⟩
  have HB4 : Hid (Below w.heap.size w w4) := (HB3.out.alloc HB3.out.size _).trans (hb4.mono (by have := HB3.out.size; simp; omega))
  clear hb4
  go_wp2
  go_ret
  exact ⟨rfl, HB4.out⟩

set_option maxRecDepth 20000 in
set_option maxHeartbeats 4000000 in
theorem reads_yes (id lsn : Nat) (L : List Cl) (a : Option Addr) (c cap1 : Nat) (l : List UInt8) (w W1 : World) (hsl : SlB w a l) (hl : l.length ≤ 5000) (hid : id < 16) (hlsn : lsn < 18446744073709551616) (hg : GoodL L)
    (hcv : (convert 9 45 (.string (txt l))).run Try.prog w = .ok (.slice (some ⟨w.heap.size, 0, none⟩) l.length cap1) W1) (hb1 : Below w.heap.size w W1)
    (hP : Calls Try.prog 18 #[.int .i64 (id : Int), .slice (some ⟨w.heap.size, 0, none⟩) l.length cap1] W1 fun e w' => ∃ B p v, e = .returned (.tuple #[.pointer (some ⟨p, 0, none⟩), .int .i64 0]) ∧ PgOk w' B p (id : Int) lsn v L ∧ Below W1.heap.size W1 w')
    (hD : ∀ W, Calls Try.prog 19 #[.int .i64 (id : Int), .string (txt l)] W fun e w' => ∃ a c, e = .returned (.tuple #[.agg (refP (id : Int) lsn a L.length c), .int .i64 0]) ∧ SlC w' a L ∧ Below W.heap.size W w') :
    Calls Try.prog 5 #[.int .i64 (id : Int), .slice a l.length c] w fun e w' => e = .returned (.bool true) ∧ Below w.heap.size w w' := by
  have hc1 : (convert 45 9 (.slice a l.length c)).run Try.prog w = .ok (.string (txt l)) w := conv_slB (c := c) hsl
  have HP : Hid _ := hP
  have HD : Hid (∀ W, Calls Try.prog 19 #[.int .i64 (id : Int), .string (txt l)] W fun e w' => ∃ a c, e = .returned (.tuple #[.agg (refP (id : Int) lsn a L.length c), .int .i64 0]) ∧ SlC w' a L ∧ Below W.heap.size W w') := hD
  have HB1 : Hid _ := hb1
  have HG : Hid _ := hg
  have hlt : ¬ (5000 : Int) < (l.length : Int) := by omega
  clear hP hD hb1 hsl hg
  go_enter Try.func5, Try.ntmps5
  go_wp2_with fail
  refine Calls.mono HP.out ?_
  rintro e w2 ⟨B, p, v, rfl, hpg, hb2⟩
  have HB2 : Hid (Below w.heap.size w w2) := HB1.out.trans (hb2.mono HB1.out.size)
  have HPg : Hid (PgOk w2 B p (id : Int) lsn v L) := hpg
  clear hb2 HP HB1 hc1 hcv hpg
  go_wp2_with fail
  refine Calls.mono (HD.out _) ?_
  rintro e w3 ⟨a3, c3, rfl, hs3, hb3⟩
  have HB3 : Hid (Below w.heap.size w w3) := HB2.out.trans (hb3.mono HB2.out.size)
  have HPg3 : Hid (PgOk w3 B p (id : Int) lsn v L) := HPg.out.below hb3 (Nat.le_refl _)
  have HS3 : Hid (SlC w3 a3 L) := hs3
  clear hb3 HD HB2 HPg hs3
  simp only [refP]
  have hbA : Below w3.heap.size w3 (w3.alloc (.cells #[.int .i64 (id : Int), .int .u64 (lsn : Int), .slice a3 L.length c3] 33)) := (Below.refl _ _).alloc (Nat.le_refl _) _
  have HAl : Hid (Calls Try.prog 12 #[.pointer (some ⟨p, 0, none⟩), .agg #[.int .i64 (id : Int), .int .u64 (lsn : Int), .slice a3 L.length c3]] (w3.alloc (.cells #[.int .i64 (id : Int), .int .u64 (lsn : Int), .slice a3 L.length c3] 33)) fun e w' => e = .returned (.bool true) ∧ Below (w3.alloc (.cells #[.int .i64 (id : Int), .int .u64 (lsn : Int), .slice a3 L.length c3] 33)).heap.size (w3.alloc (.cells #[.int .i64 (id : Int), .int .u64 (lsn : Int), .slice a3 L.length c3] 33)) w') := alike_any B p id lsn v a3 c3 L _ (HPg3.out.below hbA (Nat.le_refl _)) (HS3.out.below hbA) HG.out hid hlsn
  have HBA : Hid (Below w.heap.size w (w3.alloc (.cells #[.int .i64 (id : Int), .int .u64 (lsn : Int), .slice a3 L.length c3] 33))) := HB3.out.trans (hbA.mono HB3.out.size)
  clear hbA
  go_wp2_with fail
  refine Calls.mono HAl.out ?_
  rintro e w4 ⟨rfl, hb4⟩
  have HB4 : Hid (Below w.heap.size w w4) := HBA.out.trans (hb4.mono HBA.out.size)
  clear hb4 HAl HBA
  go_wp2_with fail
  refine Calls.mono (lives_any _) ?_
  rintro e w5 ⟨rfl, hb5⟩
  have HB5 : Hid (Below w.heap.size w w5) := HB4.out.trans (hb5.mono HB4.out.size)
  clear hb5
  go_wp2
  go_ret
  exact ⟨rfl, HB5.out⟩

set_option maxRecDepth 20000 in
set_option maxHeartbeats 1000000 in
theorem reads_walk (id : Int) (a : Option Addr) (c : Nat) (l : List UInt8) (w : World) (hsl : SlB w a l) :
    Calls Try.prog 5 #[.int .i64 id, .slice a l.length c] w fun e w' => e = .returned (.bool true) ∧ Below w.heap.size w w' := by
  by_cases hlong : 5000 < l.length
  · have hlt : (5000 : Int) < (l.length : Int) := by omega
    go_enter Try.func5, Try.ntmps5
    go_wp2_with fail
    refine Calls.mono (lives_any _) ?_
    rintro e w2 ⟨rfl, hb⟩
    go_wp2
    go_ret
    exact ⟨rfl, hb⟩
  obtain ⟨cap1, W1, hcv, hs1, hc1, hb1⟩ := bytes_made w l
  by_cases harg : (0 ≤ id ∧ id < 16) ∧ l.length = 512
  rotate_left
  · have h : ¬ (0 ≤ id ∧ id < 16) ∨ l.length ≠ 512 := by omega
    exact reads_no id 1 a c cap1 l w W1 hsl (by omega) (by decide) hcv hb1 ((parse_arg id _ l.length cap1 W1 h).mono fun e w' ⟨he, hw⟩ => ⟨he, by rw [hw]; exact Below.refl _ _⟩) (fun W => ref_arg id l W h)
  obtain ⟨i, rfl⟩ : ∃ i : Nat, id = (i : Int) := ⟨id.toNat, by omega⟩
  have hi : i < 16 := by omega
  have hlen := harg.2
  have hC : 512 ≤ cap1 := by omega
  cases hz : l.all (· == 0) with
  | true =>
    refine reads_yes i 0 [] a c cap1 l w W1 hsl (by omega) hi (by decide) goodL_nil hcv hb1 ?_ (fun W => (ref_zero i l W hlen hi hz).mono fun e w' ⟨he, hb⟩ => ⟨none, 0, he, ⟨fun _ => rfl, fun x hx => by cases hx⟩, hb⟩)
    have hp := parse_zero w.heap.size 0 cap1 i l W1 hs1 hlen hi hz
    rw [← hlen] at hp
    refine hp.mono fun e w' ⟨he, hw⟩ => ⟨0, W1.heap.size, .slice none 0 0, he, ?_, ?_⟩
    · subst hw
      exact ⟨heap_alloc_new W1 _, by simpa [cellsV] using World.ownsRow_nil _ _ _ _, by simp [Value.ownBlock], Nat.zero_le _⟩
    · subst hw
      exact (Below.refl _ _).alloc (Nat.le_refl _) _
  | false =>
    by_cases hsum : l.take 4 = leB (more 0 (l.drop 4)) 4
    · have hv : leV (l.take 4) = more 0 (l.drop 4) := by
        have := more_lt 0 (l.drop 4)
        rw [hsum, leV_leB]
        omega
      by_cases hE : ∃ L lsn, GoodL L ∧ lsn < 18446744073709551616 ∧ l = pageB i lsn L
      · obtain ⟨L, lsn, hg, hls, he⟩ := hE
        refine reads_yes i lsn L a c cap1 l w W1 hsl (by omega) hi hls hg hcv hb1 ?_ (fun W => (ref_form i l W hlen hi hz hsum).mono fun e w' ⟨hb, h⟩ => ?_)
        · have hp := parse_own w.heap.size 0 cap1 i lsn L W1 (by rw [← he]; exact hs1) hg hC hi hls
          rw [← hlen] at hp
          exact hp.mono fun e w' ⟨p, v, h1, h2, h3⟩ => ⟨_, p, v, h1, h2, h3⟩
        · rcases h with ⟨lsn', L', a', c', hg', hls', he', hr, hs'⟩ | ⟨hn, _⟩
          · obtain ⟨rfl, rfl⟩ := page_inj hg hg' hls hls' (he.symm.trans he')
            exact ⟨a', c', hr, hs', hb⟩
          · exact absurd he (hn L lsn hg hls)
      · have hN : ∀ L lsn, GoodL L → lsn < 18446744073709551616 → l ≠ pageB i lsn L := fun L lsn h1 h2 h3 => hE ⟨L, lsn, h1, h2, h3⟩
        have hp := parse_form w.heap.size 0 cap1 i l W1 hs1 hlen hC hi hz _ hv rfl hN
        rw [← hlen] at hp
        refine reads_no (i : Int) 5 a c cap1 l w W1 hsl (by omega) (by decide) hcv hb1 hp (fun W => (ref_form i l W hlen hi hz hsum).mono fun e w' ⟨hb, h⟩ => ?_)
        rcases h with ⟨lsn', L', a', c', hg', hls', he', _⟩ | ⟨_, hr⟩
        · exact absurd he' (hN L' lsn' hg' hls')
        · exact ⟨hr, hb⟩
    · have hvne : leV (l.take 4) ≠ more 0 (l.drop 4) := fun e => hsum (by rw [← e, leB_leV _ 4 (by rw [List.length_take]; omega)])
      have hp := parse_sum w.heap.size 0 cap1 i l W1 hs1 hlen hC hi hz _ _ rfl rfl hvne
      rw [← hlen] at hp
      exact reads_no (i : Int) 6 a c cap1 l w W1 hsl (by omega) (by decide) hcv hb1 hp (fun W => ref_sum i l W hlen hi hz _ rfl hsum)

end Go.Proofs.Ytoahcihhpimmgaa
