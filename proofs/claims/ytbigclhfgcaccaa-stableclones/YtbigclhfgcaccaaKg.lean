/-
  StableClones: a write of a row that is turned behind it.
-/
import Derived.Test.YtbigclhfgcaccaaKd
import Derived.Deep.RegionHeld3
namespace Go.Proofs.Ytbigclhfgcaccaa
open Go.RowKit

theorem q8b {Q0 : Exit → Act → World → Prop} {e : Exit} {A : Act} {w : World} (hs : A.tmps.size = 243) (hd : A.defers = []) (h : Q0 e (frame8 fun i => A.tmps.getD i undef) w) : Q0 e A w := by
  rw [frame8_lit A hs hd]; exact h
/-- Between two bytes that are turned. -/
def I8b (s Gb Ln : Nat) (d : Dv) (W1 : World) (j : Nat) (x : Act) (w' : World) : Prop :=
  ∃ u : Nat → Value, x = frame8 u ∧ u 5 = .pointer (some ⟨s, 0, none⟩) ∧ u 7 = .pointer (some ⟨s + 2, 0, none⟩) ∧ u 21 = .slice (some ⟨Gb, 0, none⟩) Ln Ln ∧ u 22 = .int .i64 (j : Int) ∧ Dev w' [Gb] (s + 2) (s + 1) d ∧ Below (s + 1) W1 w' ∧ ∃ L : List UInt8, L.length = Ln ∧ Buf w' Gb L
theorem turn8f : ∀ n : Fin 256, bits .xor .u8 (n.val : Int) 255 = ((255 - n.val : Nat) : Int) := by decide +kernel
theorem turn8 (x : UInt8) : bits .xor .u8 (x.toNat : Int) 255 = (((255 : UInt8) - x).toNat : Int) := by
  have h := turn8f ⟨x.toNat, x.toNat_lt⟩
  dsimp only at h
  rw [h, UInt8.toNat_sub_of_le _ _ (by rw [UInt8.le_iff_toNat_le]; have := x.toNat_lt; simp; omega)]
  rfl

set_option maxRecDepth 100000 in
set_option maxHeartbeats 3000000 in
theorem round8b (s Gb Ln : Nat) (d : Dv) (W1 : World) (hz : s + 1 ≤ W1.heap.size) (hGb : s + 2 < Gb) (j : Nat) (hj : j < Ln) (hLn2 : Ln ≤ 3000) (u : Nat → Value) (wr : World) (g5 : u 5 = .pointer (some ⟨s, 0, none⟩)) (g7 : u 7 = .pointer (some ⟨s + 2, 0, none⟩)) (g21 : u 21 = .slice (some ⟨Gb, 0, none⟩) Ln Ln) (g22 : u 22 = .int .i64 (j : Int)) (hD : Dev wr [Gb] (s + 2) (s + 1) d) (hB : Below (s + 1) W1 wr) (L : List UInt8) (hL : L.length = Ln) (hX : Buf wr Gb L) (Q0 : Exit → Act → World → Prop) :
    Code.wp Try.prog loop8b (Exit.then (fun x w'' => I8b s Gb Ln d W1 (j + 1) x w'') Q0) (frame8 u) wr := by
  rw [frame8_open, g5, g7, g21, g22]
  clear g5 g7 g21 g22
  have HK : Hid (∀ v : UInt8, Dev (wr.setCell ⟨Gb, j, none⟩ (.int .u8 (v.toNat : Int))) [Gb] (s + 2) (s + 1) d ∧ Below (s + 1) W1 (wr.setCell ⟨Gb, j, none⟩ (.int .u8 (v.toNat : Int))) ∧ ∃ L : List UInt8, L.length = Ln ∧ Buf (wr.setCell ⟨Gb, j, none⟩ (.int .u8 (v.toNat : Int))) Gb L) := fun v => by
    have ht : Touch Gb Gb wr (wr.setCell ⟨Gb, j, none⟩ (.int .u8 (v.toNat : Int))) := (Touch.refl wr Gb Gb).setCell (.inl rfl) _
    exact ⟨hD.touch ht (by simp) (by simp), touch_8 hB hz ht (by omega) (by omega), L.set j v, by simp [hL], hX.set j v⟩
  obtain ⟨c1, c2⟩ := hX.cell j (by omega)
  generalize L[j]'(by omega) = bv at *
  clear hX hD hB hL
  conv => arg 2; whnf
  go_wp2_with fail
  exact ⟨_, frame8_lit _ rfl rfl, rfl, rfl, rfl, by show Value.int .i64 _ = _; simp, by rw [turn8]; exact HK.out _⟩

set_option maxRecDepth 100000 in
set_option maxHeartbeats 3000000 in
theorem exit8b (s Gb Ln : Nat) (j : Nat) (hj : j = Ln) (u : Nat → Value) (wr : World) (g5 : u 5 = .pointer (some ⟨s, 0, none⟩)) (g7 : u 7 = .pointer (some ⟨s + 2, 0, none⟩)) (g21 : u 21 = .slice (some ⟨Gb, 0, none⟩) Ln Ln) (g22 : u 22 = .int .i64 (j : Int)) (Q0 : Exit → Act → World → Prop) (R : Act → World → Prop)
    (hexit : ∀ u', u' 5 = .pointer (some ⟨s, 0, none⟩) → u' 7 = .pointer (some ⟨s + 2, 0, none⟩) → Q0 (.exit 2) (frame8 u') wr) :
    Code.wp Try.prog loop8b (Exit.then R Q0) (frame8 u) wr := by
  have HX : Hid _ := hexit
  clear hexit
  rw [frame8_open, g5, g7, g21, g22]
  clear g5 g7 g21 g22
  subst hj
  conv => arg 2; whnf
  go_wp2_with fail
  exact q8b rfl rfl (HX.out _ rfl rfl)

theorem loop8b_wp (s Gb Ln : Nat) (d : Dv) (W1 : World) (hz : s + 1 ≤ W1.heap.size) (hGb : s + 2 < Gb) (hLn2 : Ln ≤ 3000) (u : Nat → Value) (w : World) (g5 : u 5 = .pointer (some ⟨s, 0, none⟩)) (g7 : u 7 = .pointer (some ⟨s + 2, 0, none⟩)) (g21 : u 21 = .slice (some ⟨Gb, 0, none⟩) Ln Ln) (g22 : u 22 = .int .i64 0) (hD : Dev w [Gb] (s + 2) (s + 1) d) (hB : Below (s + 1) W1 w) (L : List UInt8) (hL : L.length = Ln) (hX : Buf w Gb L) (Q0 : Exit → Act → World → Prop)
    (hexit : ∀ u' w', u' 5 = .pointer (some ⟨s, 0, none⟩) → u' 7 = .pointer (some ⟨s + 2, 0, none⟩) → Dev w' [Gb] (s + 2) (s + 1) d → Below (s + 1) W1 w' → Q0 (.exit 2) (frame8 u') w') :
    Code.wp Try.prog (Code.loop loop8b) Q0 (frame8 u) w := by
  refine wp_loop (fun x w' => ∃ j, j ≤ Ln ∧ I8b s Gb Ln d W1 j x w') (fun x _ => Ln - (intOf (x.tmps.getD 22 undef)).toNat) ⟨0, by omega, u, rfl, g5, g7, g21, g22, hD, hB, L, hL, hX⟩ ?_
  rintro x w' ⟨j, hjl, u', rfl, k5, k7, k21, k22, hD', hB', L', hL', hX'⟩
  by_cases hlt : j < Ln
  · refine Code.wp_mono ?_ (round8b s Gb Ln d W1 hz hGb j hlt hLn2 u' w' k5 k7 k21 k22 hD' hB' L' hL' hX' Q0)
    intro e x w'' h
    cases e <;> first | exact h | skip
    refine ⟨⟨j + 1, by omega, h⟩, ?_⟩
    obtain ⟨u'', rfl, _, _, _, m22, _⟩ := h
    show Ln - (intOf (u'' 22)).toNat < Ln - (intOf (u' 22)).toNat
    rw [m22, k22]
    simp only [intOf]
    omega
  · exact exit8b s Gb Ln j (by omega) u' w' k5 k7 k21 k22 Q0 _ (fun u'' h1 h2 => hexit u'' w' h1 h2 hD' hB')

set_option maxRecDepth 100000 in
set_option maxHeartbeats 3000000 in
theorem rest8c (tk th tp tn : Int) (tf : UInt8) (hpl : I64 tp) (w W1 : World) (s : Nat) (hz : s + 1 ≤ W1.heap.size) (HC : ∀ W, Below (s + 1) W1 W → (fun W => (W.cell? ⟨s, 0, none⟩ = some (.int .i64 tk) ∧ W.cell? ⟨s, 1, none⟩ = some (.int .i64 th) ∧ W.cell? ⟨s, 2, none⟩ = some (.int .i64 tp) ∧ W.cell? ⟨s, 3, none⟩ = some (.int .i64 tn) ∧ W.cell? ⟨s, 4, none⟩ = some (.int .u8 (tf.toNat : Int))) ∧ Below (s + 1) W1 W) W) (HW : ∀ W, Below (s + 1) W1 W → Below w.heap.size w W) (Ln : Nat) (hLn2 : Ln ≤ 3000)
    (u : Nat → Value) (wr : World) (Gb : Nat) (d : Dv) (g5 : u 5 = .pointer (some ⟨s, 0, none⟩)) (g7 : u 7 = .pointer (some ⟨s + 2, 0, none⟩)) (g21 : u 21 = .slice (some ⟨Gb, 0, none⟩) Ln Ln) (hD : Dev wr [Gb] (s + 2) (s + 1) d) (hX : Buf wr Gb (List.replicate Ln tf)) (hGb : s + 2 < Gb) (hB : Below (s + 1) W1 wr)
    (HN : startE d th tp (List.replicate Ln tf) = 0 → ∀ u' w', u' 5 = .pointer (some ⟨s, 0, none⟩) → u' 7 = .pointer (some ⟨s + 2, 0, none⟩) → Dev w' [] (s + 2) (s + 1) (startD d th tp (List.replicate Ln tf)) → Below (s + 1) W1 w' → Code.wp Try.prog (tailOf 18 body8) (bodyPost Try.prog Try.f8 fun e w'' => e = .returned (.bool true) ∧ Below w.heap.size w w'') (frame8 u') w') :
    Code.wp Try.prog (tailOf 16 body8) (bodyPost Try.prog Try.f8 fun e w'' => e = .returned (.bool true) ∧ Below w.heap.size w w'') (frame8 u) wr := by
  rw [frame8_open, g5, g7, g21]
  clear g5 g7 g21
  have HCh : Hid _ := HC
  have HWh : Hid _ := HW
  have HNh : Hid _ := HN
  clear HC HW HN
  have HSt := start_any (s + 2) (s + 1) th tp (some ⟨Gb, 0, none⟩) Ln (List.replicate Ln tf) d [Gb] wr hD (by intro k hk; simp at hk; subst hk; exact lt_of_blk hX) hpl hX.slB0 (by simp; omega)
  rw [List.length_replicate] at HSt
  obtain ⟨⟨x0, x1, x2, x3, x4⟩, _⟩ := HCh.out _ hB
  conv => arg 2; whnf
  go_wp2_with fail
  refine HSt.mono ?_
  clear HSt
  rintro e w2 ⟨rfl, hD2, ht2⟩
  have hX2 := Buf.touch hX ht2 (by omega) (by omega)
  have hB2 := touch_8 hB hz ht2 (by omega) (by omega)
  clear x0 x1 x2 x3 x4 hD hX hB ht2
  generalize startD d th tp (List.replicate Ln tf) = d' at *
  generalize startE d th tp (List.replicate Ln tf) = es at *
  by_cases hes : es = 0
  · have HNk := (show Hid _ from HNh.out hes)
    clear HNh HWh HCh
    subst hes
    go_wp2_with fail
    rename_i Kr hKr
    refine wp8 rfl rfl (loop8b_wp s Gb Ln d' W1 hz hGb hLn2 _ _ rfl rfl rfl rfl hD2 hB2 _ (by simp) hX2 _ ?_)
    intro u' w' h1 h2 h3 h4
    exact hKr _ _ (HNk.out u' w' h1 h2 h3.loose h4)
  · have HB2 : Hid _ := HWh.out _ hB2
    clear HNh HWh HCh hD2 hX2 hB2
    go_wp2_with fail
    refine (lives_any _).mono ?_
    rintro e w9 ⟨rfl, hb9⟩
    go_wp2_with fail
    go_ret
    exact ⟨rfl, below_on HB2.out hb9⟩

end Go.Proofs.Ytbigclhfgcaccaa
