/-
  TableHomes: the walk.
-/
import Derived.Test.YtebchgoaelamcaaDoorHd
namespace Go.Proofs.YtebchgoaelamcaaDoor
open Go.RowKit
set_option maxRecDepth 100000

theorem wants_le (k : Int) (key : List UInt8) (n : Int) : (wantsL k key n).length ≤ 2 := by
  unfold wantsL
  repeat' split
  all_goals simp

set_option maxHeartbeats 4000000 in
theorem homes_walk (k : Int) (key val : List UInt8) (hk0 : key.length ≤ 9223372036854775807) (n : Int) (h0 : -9223372036854775808 ≤ n) (h1 : n ≤ 9223372036854775807) (d : Int) (g0 : -9223372036854775808 ≤ d) (g1 : d ≤ 9223372036854775807) (w : World) (ht : Tb w) :
    Calls Tryd.prog 3 #[.agg #[.int .i64 k, .string (txt key), .string (txt val)], .int .i64 n, .int .i64 d] w fun e w' => e = .returned (.bool true) ∧ Below w.heap.size w w' := by
  have hB0 := (Below.refl w.heap.size w).alloc (Nat.le_refl _) (.cells #[.int .i64 k, .string (txt key), .string (txt val)] 23)
  have hn := heap_alloc_new w (.cells #[.int .i64 k, .string (txt key), .string (txt val)] 23)
  have hsz := size_alloc w (.cells #[.int .i64 k, .string (txt key), .string (txt val)] 23)
  have HS : Hid (∀ W, Below (w.heap.size + 1) (w.alloc (.cells #[.int .i64 k, .string (txt key), .string (txt val)] 23)) W → w.heap.size + 1 ≤ W.heap.size ∧ Tb W ∧ W.cell? ⟨w.heap.size, 0, none⟩ = some (.int .i64 k) ∧ W.cell? ⟨w.heap.size, 1, none⟩ = some (.string (txt key)) ∧ W.cell? ⟨w.heap.size, 2, none⟩ = some (.string (txt val)) ∧ Below w.heap.size w W) := fun W hW => by
    have e := hW.block w.heap.size (by omega)
    rw [hn] at e
    exact ⟨by have := hW.size; omega, (ht.below hB0).below (hW.mono (by rw [World.alloc, Array.size_push]; omega)), cell_of e 0 rfl, cell_of e 1 rfl, cell_of e 2 rfl, hB0.trans (hW.mono (by omega))⟩
  have B0 := toHid (Below.refl (w.heap.size + 1) (w.alloc (.cells #[.int .i64 k, .string (txt key), .string (txt val)] 23)))
  clear hB0 hn hsz ht
  generalize hw0 : w.alloc (.cells #[.int .i64 k, .string (txt key), .string (txt val)] 23) = w0 at HS B0
  obtain ⟨_, _, c0, c1, c2, _⟩ := HS.out _ B0.out
  go_enter Tryd.func3, Tryd.ntmps3
  go_wp2_with fail
  clear hw0
  refine Calls.mono (short_any k key val _) ?_
  rintro e w1 ⟨x, rfl, b1⟩
  have B1 := toHid (B0.out.trans (b1.mono (HS.out _ B0.out).1))
  clear b1 c0 c1 c2 B0
  obtain ⟨_, T1, c0, c1, c2, _⟩ := HS.out _ B1.out
  cases x
  case true =>
    have hin := homeI_in key n
    have hin0 : n < 1 → homeI key n = 0 := fun h => by simp [homeI, h]
    have R11 : Hid (∀ W, Calls Tryd.prog 11 #[.string (txt key), .int .i64 n] W fun e w' => e = .returned (.int .i64 (homeI key n)) ∧ w' = W) := fun W => home_any key hk0 n h0 h1 W
    have R12 : Hid (∀ W, Calls Tryd.prog 12 #[.string (txt key), .int .i64 n] W fun e w' => e = .returned (.int .i64 (homeI key n)) ∧ w' = W) := fun W => refhome_any key hk0 n h0 h1 W
    have R13 : Hid (∀ W, Tb W → Calls Tryd.prog 13 #[.int .i64 d] W fun e w' => e = .returned (.string (txt (nameL d))) ∧ Below W.heap.size W w') := fun W h => name_any d g0 g1 W fun _ => h
    have R14 : Hid (∀ W, Calls Tryd.prog 14 #[.int .i64 d] W fun e w' => e = .returned (.string (txt (nameL d))) ∧ Below W.heap.size W w') := fun W => refname_any d g0 g1 W
    have R16 : Hid (∀ W, Tb W → Calls Tryd.prog 16 #[.int .i64 k, .string (txt key), .int .i64 n] W fun e w' => ∃ a, e = .returned (.slice a (wantsL k key n).length (wantsL k key n).length) ∧ SlW w' a (wantsL k key n) ∧ Below W.heap.size W w') := fun W h => wants_any k key hk0 n h0 h1 W h
    have R17 : Hid (∀ W, Calls Tryd.prog 17 #[.int .i64 k, .string (txt key), .int .i64 n] W fun e w' => ∃ a, e = .returned (.slice a (wantsL k key n).length (wantsL k key n).length) ∧ SlW w' a (wantsL k key n) ∧ Below W.heap.size W w') := fun W => refwants_any k key hk0 n h0 h1 W
    have HL : Hid ((wantsL k key n).length ≤ 2) := wants_le k key n
    generalize homeI key n = hm at *
    generalize txt (nameL d) = nd at *
    generalize wantsL k key n = l at *
    clear hk0 g0 g1
    go_wp2_with fail
    refine Calls.mono (R11.out _) ?_
    rintro e w2 ⟨rfl, rfl⟩
    have Bd := toHid (B1.out.trans (Below.refl _ _).drew)
    obtain ⟨_, Td, e0, e1, _, _⟩ := HS.out _ Bd.out
    have ev : ∀ (x : Int), (x == x) = true := fun x => by simp
    have es : (nd.toList == nd.toList) = true := by simp
    by_cases hp : n < 1
    · have hz := hin0 hp
      subst hz
      clear hin hin0
      go_wp2_with fail
      go_region_held3 (fun W => W.cell? ⟨w.heap.size, 0, none⟩ = some (.int .i64 k) ∧ W.cell? ⟨w.heap.size, 1, none⟩ = some (.string (txt key))) (with_reducible exact ⟨by assumption, by assumption⟩) ((first
        | (go_at_call 12; refine Calls.mono (R12.out _) ?_; rintro e wa ⟨rfl, rfl⟩)
        | (go_at_call 13; refine Calls.mono (R13.out _ Td) ?_; rintro e wb ⟨rfl, bb⟩; have Bb := toHid (Bd.out.trans (bb.mono (HS.out _ Bd.out).1)); clear bb; obtain ⟨_, Tb1, f0, f1, _, _⟩ := HS.out _ Bb.out)
        | (go_at_call 14; refine Calls.mono (R14.out _) ?_; rintro e wc ⟨rfl, bc⟩; have Bc := toHid (Bb.out.trans (bc.mono (HS.out _ Bb.out).1)); clear bc; obtain ⟨_, Tc1, h0, h1, _, _⟩ := HS.out _ Bc.out)
        | (go_at_call 16; refine Calls.mono (R16.out _ Tc1) ?_; rintro e we ⟨a1, rfl, s1, be⟩; have Be := toHid (Bc.out.trans (be.mono (HS.out _ Bc.out).1)); clear be; have S1 := toHid s1; clear s1; obtain ⟨_, Te1, i0, i1, _, _⟩ := HS.out _ Be.out)
        | (go_at_call 17; refine Calls.mono (R17.out _) ?_; rintro e wf ⟨a2, rfl, s2, bf⟩; have Bf := toHid (Be.out.trans (bf.mono (HS.out _ Be.out).1)); replace S1 := toHid (S1.out.below bf); have S2 := toHid s2; clear s2 bf; obtain ⟨_, Tf1, j0, j1, _, _⟩ := HS.out _ Bf.out)
        | (go_at_call 15; refine Calls.mono (sameWants_any a1 a2 l _ S1.out S2.out HL.out) ?_; rintro e wg ⟨rfl, bg⟩; have Bg := toHid (Bf.out.trans (bg.mono (HS.out _ Bf.out).1)); clear bg; obtain ⟨_, Tg1, k0, k1, _, _⟩ := HS.out _ Bg.out)
        | (go_at_call 10; refine Calls.mono (lives_any _ Tg1) ?_; rintro e wh ⟨rfl, bh⟩; have Bh := toHid (Bg.out.trans (bh.mono (HS.out _ Bg.out).1)); clear bh; obtain ⟨_, Th1, l0, l1, _, _⟩ := HS.out _ Bh.out)))
      go_wp2_with fail
      go_ret
      exact ⟨rfl, (HS.out _ Bh.out).2.2.2.2.2⟩
    · have hlt := hin.2 (by omega)
      have hge := hin.1
      clear hin hin0
      go_wp2_with fail
      go_region_held3 (fun W => W.cell? ⟨w.heap.size, 0, none⟩ = some (.int .i64 k) ∧ W.cell? ⟨w.heap.size, 1, none⟩ = some (.string (txt key))) (with_reducible exact ⟨by assumption, by assumption⟩) ((first
        | (go_at_call 12; refine Calls.mono (R12.out _) ?_; rintro e wa ⟨rfl, rfl⟩)
        | (go_at_call 13; refine Calls.mono (R13.out _ Td) ?_; rintro e wb ⟨rfl, bb⟩; have Bb := toHid (Bd.out.trans (bb.mono (HS.out _ Bd.out).1)); clear bb; obtain ⟨_, Tb1, f0, f1, _, _⟩ := HS.out _ Bb.out)
        | (go_at_call 14; refine Calls.mono (R14.out _) ?_; rintro e wc ⟨rfl, bc⟩; have Bc := toHid (Bb.out.trans (bc.mono (HS.out _ Bb.out).1)); clear bc; obtain ⟨_, Tc1, h0, h1, _, _⟩ := HS.out _ Bc.out)
        | (go_at_call 16; refine Calls.mono (R16.out _ Tc1) ?_; rintro e we ⟨a1, rfl, s1, be⟩; have Be := toHid (Bc.out.trans (be.mono (HS.out _ Bc.out).1)); clear be; have S1 := toHid s1; clear s1; obtain ⟨_, Te1, i0, i1, _, _⟩ := HS.out _ Be.out)
        | (go_at_call 17; refine Calls.mono (R17.out _) ?_; rintro e wf ⟨a2, rfl, s2, bf⟩; have Bf := toHid (Be.out.trans (bf.mono (HS.out _ Be.out).1)); replace S1 := toHid (S1.out.below bf); have S2 := toHid s2; clear s2 bf; obtain ⟨_, Tf1, j0, j1, _, _⟩ := HS.out _ Bf.out)
        | (go_at_call 15; refine Calls.mono (sameWants_any a1 a2 l _ S1.out S2.out HL.out) ?_; rintro e wg ⟨rfl, bg⟩; have Bg := toHid (Bf.out.trans (bg.mono (HS.out _ Bf.out).1)); clear bg; obtain ⟨_, Tg1, k0, k1, _, _⟩ := HS.out _ Bg.out)
        | (go_at_call 10; refine Calls.mono (lives_any _ Tg1) ?_; rintro e wh ⟨rfl, bh⟩; have Bh := toHid (Bg.out.trans (bh.mono (HS.out _ Bg.out).1)); clear bh; obtain ⟨_, Th1, l0, l1, _, _⟩ := HS.out _ Bh.out)))
      go_wp2_with fail
      go_ret
      exact ⟨rfl, (HS.out _ Bh.out).2.2.2.2.2⟩
  case false =>
    go_wp2_with fail
    refine Calls.mono (lives_any _ T1) ?_
    rintro e w2 ⟨rfl, b2⟩
    have B2 := toHid (B1.out.trans (b2.mono (HS.out _ B1.out).1))
    clear b2
    go_wp2_with fail
    go_ret
    exact ⟨rfl, (HS.out _ B2.out).2.2.2.2.2⟩
end Go.Proofs.YtebchgoaelamcaaDoor
