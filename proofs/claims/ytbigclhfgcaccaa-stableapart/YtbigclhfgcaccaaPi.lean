/-
  StableApart: the two writes, the clone, and what each leaves.
-/
import Derived.Test.YtbigclhfgcaccaaPb
namespace Go.Proofs.Ytbigclhfgcaccaa
open Go.RowKit

theorem Buf.touch6 {w w' : World} {p o G : Nat} {L : List UInt8} (h : Buf w G L) (ht : Touch p o w w') (h1 : G ≠ p) (h2 : G ≠ o) : Buf w' G L := ht.blk h h1 h2
theorem startD_b6 (d : Dv) (h a : Int) (l : List UInt8) : (startD d h a l).b = d.b := by unfold startD; split <;> rfl

set_option maxRecDepth 100000 in
set_option maxHeartbeats 3000000 in
theorem rest6b (ak ah ap an : Int) (af : UInt8) (bk bh bp bn : Int) (bf : UInt8) (pa : I64 ap) (pb : I64 bp) (k : Int) (hk : I64 k) (w W1 : World) (s : Nat) (hz : W1.heap.size = s + 2) (HC : ∀ W, Below (s + 2) W1 W → (fun W => (W.cell? ⟨s, 0, none⟩ = some (.int .i64 ak) ∧ W.cell? ⟨s, 1, none⟩ = some (.int .i64 ah) ∧ W.cell? ⟨s, 2, none⟩ = some (.int .i64 ap) ∧ W.cell? ⟨s, 3, none⟩ = some (.int .i64 an) ∧ W.cell? ⟨s, 4, none⟩ = some (.int .u8 (af.toNat : Int)) ∧ W.cell? ⟨s + 1, 0, none⟩ = some (.int .i64 bk) ∧ W.cell? ⟨s + 1, 1, none⟩ = some (.int .i64 bh) ∧ W.cell? ⟨s + 1, 2, none⟩ = some (.int .i64 bp) ∧ W.cell? ⟨s + 1, 3, none⟩ = some (.int .i64 bn) ∧ W.cell? ⟨s + 1, 4, none⟩ = some (.int .u8 (bf.toNat : Int))) ∧ Below (s + 2) W1 W) W) (HW : ∀ W, Below (s + 2) W1 W → Below w.heap.size w W) (d0 : Dv) (hd0 : d0.b.length = 4096) (La Lb : Nat) (la lb : List UInt8) (hla : la.length = La) (hlb : lb.length = Lb) (hLa : La ≤ 3000) (hLb : Lb ≤ 3000) (hLbn : long bn = (Lb : Int)) (h3 : ¬ ah = bh) (hap : ap + (La : Int) ≤ bp ∨ bp + (Lb : Int) ≤ ap) (z Gx Gy : Nat) (hzs : s + 2 ≤ z) (hGy : z + 1 < Gy)
    (wr : World) (hB : Below (s + 2) W1 wr) (hD : Dev wr [] (z + 1) z d0) (hX : Buf wr Gx la) (hY : Buf wr Gy lb) (u : Nat → Value) (g2 : u 2 = .int .i64 k) (g3 : u 3 = .pointer (some ⟨s, 0, none⟩)) (g4 : u 4 = .pointer (some ⟨s + 1, 0, none⟩)) (g7 : u 7 = .pointer (some ⟨z + 1, 0, none⟩)) (g9 : u 9 = .slice (some ⟨Gx, 0, none⟩) La La) (g10 : u 10 = .slice (some ⟨Gy, 0, none⟩) Lb Lb) :
    Code.wp Try.prog (tail6 5 body6) (bodyPost Try.prog Try.f6 fun e w'' => e = .returned (.bool true) ∧ Below w.heap.size w w'') (frame6 u) wr := by
  rw [frame6_open, g2, g3, g4, g7, g9, g10]
  clear g2 g3 g4 g7 g9 g10
  have HCh : Hid _ := HC
  have HWh : Hid _ := HW
  clear HC HW
  have HLb : Hid _ := long_any ⟨bk, bh, bp, bn, bf⟩
  dsimp only [opV] at HLb
  rw [hLbn] at HLb
  have HS1 := start_any (z + 1) z ah ap (some ⟨Gx, 0, none⟩) La la d0 [] wr hD (fun k hk => by simp at hk) pa hX.slB0 (by omega)
  rw [hla] at HS1
  have HAp : Hid (startE d0 ah ap la = 0 → startE (startD d0 ah ap la) bh bp lb = 0 → _) := fun e1 e2 => apart_math d0 hD.good ah bh ap bp k la lb e1 e2 h3 (by rw [hla, hlb]; exact hap) (by omega)
  have HBp : Hid (startE d0 ah ap la = 0 → startE (startD d0 ah ap la) bh bp lb = 0 → 0 ≤ bp ∧ bp + Lb ≤ 4096) := fun e1 e2 => by
    obtain ⟨_, c2, _, _⟩ := start_ok6 e2
    rw [startD_b6, hlb, hd0] at c2
    exact c2
  obtain ⟨⟨x0, x1, x2, x3, x4, y0, y1, y2, y3, y4⟩, _⟩ := HCh.out _ hB
  conv => arg 2; whnf
  go_wp2_with fail
  refine HS1.mono ?_
  clear HS1
  rintro e w2 ⟨rfl, hD2, ht2⟩
  have hB2 := hB.trans (ht2.below (B := s + 2) (by omega) hzs (by have := hB.size; omega))
  have hY2 := Buf.touch6 hY ht2 (by omega) (by omega)
  clear x0 x1 x2 x3 x4 y0 y1 y2 y3 y4
  obtain ⟨⟨x0, x1, x2, x3, x4, y0, y1, y2, y3, y4⟩, _⟩ := HCh.out _ hB2
  clear hB hD hX hY ht2
  generalize hd1 : startD d0 ah ap la = d1 at *
  generalize startE d0 ah ap la = es1 at *
  by_cases hes1 : es1 = 0
  · subst hes1
    have HS2 := start_any (z + 1) z bh bp (some ⟨Gy, 0, none⟩) Lb lb d1 [] w2 hD2 (fun k hk => by simp at hk) pb hY2.slB0 (by omega)
    rw [hlb] at HS2
    go_wp2_with fail
    refine HS2.mono ?_
    clear HS2
    rintro e w3 ⟨rfl, hD3, ht3⟩
    have hB3 := hB2.trans (ht3.below (B := s + 2) (by omega) hzs (by have := hB2.size; omega))
    have hY3 := Buf.touch6 hY2 ht3 (by omega) (by omega)
    clear x0 x1 x2 x3 x4 y0 y1 y2 y3 y4
    obtain ⟨⟨x0, x1, x2, x3, x4, y0, y1, y2, y3, y4⟩, _⟩ := HCh.out _ hB3
    clear hB2 hD2 hY2 ht3
    generalize hd2 : startD d1 bh bp lb = d2 at *
    generalize startE d1 bh bp lb = es2 at *
    by_cases hes2 : es2 = 0
    · subst hes2
      obtain ⟨m1, m2, m3, m4, m5, m6, m7⟩ := HAp.out (by trivial) (by trivial)
      obtain ⟨c1, c2⟩ := HBp.out (by trivial) (by trivial)
      clear HAp HBp hd1 hd2
      go_wp2_with fail
      refine (clone_any (z + 1) z d2 w3 hD3).mono ?_
      rintro e w4 ⟨rfl, hC4, hb4⟩
      have hP4 := hD3.away hb4 [w3.heap.size + 1, w3.heap.size] (by intro k hk; simp at hk; omega)
      have hB4 := below_s hB3 hz hb4
      have hY4 := Buf.below hY3 hb4 (Nat.le_refl _)
      have hyz : z + 1 < w3.heap.size := hD3.lt.1
      have hyY : Gy < w3.heap.size := lt_of_blk hY3
      clear x0 x1 x2 x3 x4 y0 y1 y2 y3 y4 hD3 hb4 hB3 hY3
      generalize w3.heap.size = y at *
      obtain ⟨⟨x0, x1, x2, x3, x4, y0, y1, y2, y3, y4⟩, _⟩ := HCh.out _ hB4
      have HCr := crash_any (z + 1) z ah k d2 [y + 1, y] w4 hP4 hk
      rw [m1] at HCr
      go_wp2_with fail
      refine HCr.mono ?_
      rintro e w5 ⟨rfl, hP5, ht5⟩
      have hC5 := hC4.touch ht5 (by simp) (by simp)
      have hB5 := hB4.trans (ht5.below (B := s + 2) (by omega) hzs (by have := hB4.size; omega))
      have hY5 := Buf.touch6 hY4 ht5 (by omega) (by omega)
      clear x0 x1 x2 x3 x4 y0 y1 y2 y3 y4 HCr hP4 hC4 hB4 hY4 ht5 m1
      obtain ⟨⟨x0, x1, x2, x3, x4, y0, y1, y2, y3, y4⟩, _⟩ := HCh.out _ hB5
      have HFi := finish_any (z + 1) z bh (finD d2 ah k) [y + 1, y] w5 hP5
      rw [m2] at HFi
      go_wp2_with fail
      refine HFi.mono ?_
      rintro e w6 ⟨rfl, hP6, ht6⟩
      have hC6 := hC5.touch ht6 (by simp) (by simp)
      have hB6 := hB5.trans (ht6.below (B := s + 2) (by omega) hzs (by have := hB5.size; omega))
      have hY6 := Buf.touch6 hY5 ht6 (by omega) (by omega)
      clear x0 x1 x2 x3 x4 y0 y1 y2 y3 y4 HFi hP5 hC5 hB5 hY5 ht6 m2
      obtain ⟨⟨x0, x1, x2, x3, x4, y0, y1, y2, y3, y4⟩, _⟩ := HCh.out _ hB6
      have HFj := finish_any (y + 1) y bh d2 [z + 1, z] w6 hC6
      rw [m3] at HFj
      go_wp2_with fail
      refine HFj.mono ?_
      rintro e w7 ⟨rfl, hC7, ht7⟩
      have hP7 := hP6.touch ht7 (by simp) (by simp)
      have hB7 := hB6.trans (ht7.below (B := s + 2) (by omega) (by omega) (by have := hB6.size; omega))
      have hY7 := Buf.touch6 hY6 ht7 (by omega) (by omega)
      clear x0 x1 x2 x3 x4 y0 y1 y2 y3 y4 HFj hP6 hC6 hB6 hY6 ht7 m3
      obtain ⟨⟨x0, x1, x2, x3, x4, y0, y1, y2, y3, y4⟩, _⟩ := HCh.out _ hB7
      have HCs := crash_any (y + 1) y ah k (finD d2 bh 1024) [z + 1, z] w7 hC7 hk
      rw [m4] at HCs
      go_wp2_with fail
      refine HCs.mono ?_
      rintro e w8 ⟨rfl, hC8, ht8⟩
      have hP8 := hP7.touch ht8 (by simp) (by simp)
      have hB8 := hB7.trans (ht8.below (B := s + 2) (by omega) (by omega) (by have := hB7.size; omega))
      have hY8 := Buf.touch6 hY7 ht8 (by omega) (by omega)
      clear x0 x1 x2 x3 x4 y0 y1 y2 y3 y4 HCs hP7 hC7 hB7 hY7 ht8 m4
      rw [hd0] at m7
      rw [hlb] at m6
      have m8 : (finD (finD d2 bh 1024) ah k).b.length = 4096 := by rw [← m5]; exact m7
      generalize finD (finD d2 ah k) bh 1024 = xd at *
      generalize finD (finD d2 bh 1024) ah k = yd at *
      have HR1 := read_any (z + 1) z 0 4096 xd _ w8 hP8 (by omega)
      rw [List.drop_zero, List.take_of_length_le (by omega)] at HR1
      go_wp2_with fail
      refine HR1.mono ?_
      rintro e w9 ⟨rfl, hU9, hz9, hb9⟩
      have hP9 := hP8.below hb9
      have hC9 := hC8.below hb9
      have hB9 := below_s hB8 hz hb9
      have hY9 := Buf.below hY8 hb9 (Nat.le_refl _)
      clear hz9 hb9 HR1 hP8 hC8 hB8 hY8
      generalize w8.heap.size = Gu at *
      have HR2 := read_any (y + 1) y 0 4096 yd _ w9 hC9 (by omega)
      rw [List.drop_zero, List.take_of_length_le (by omega)] at HR2
      go_wp2_with fail
      refine HR2.mono ?_
      rintro e w10 ⟨rfl, hV10, hz10, hb10⟩
      have hP13d := (hP9.below hb10).below (Below.refl _ _).drew
      have hB13 := below_s hB9 hz hb10
      have hB13d := hB13.drew
      have hU13d := Buf.below (Buf.below hU9 hb10 (Nat.le_refl _)) (Below.refl _ _).drew (Nat.le_refl _)
      have hV13d := Buf.below hV10 (Below.refl _ _).drew (Nat.le_refl _)
      have hY13d := Buf.below (Buf.below hY9 hb10 (Nat.le_refl _)) (Below.refl _ _).drew (Nat.le_refl _)
      have hbn : ((bp.toNat : Nat) : Int) = bp := by omega
      have hrd : (xd.b.drop bp.toNat).take Lb = lb := m6
      clear hz10 hb10 HR2 hP9 hC9 hB9 hY9 hU9 hV10
      generalize w9.heap.size = Gv at *
      clear hB13
      go_wp2_with fail
      refine wp_region_held_drew (S := (fun W => (W.cell? ⟨s, 0, none⟩ = some (.int .i64 ak) ∧ W.cell? ⟨s, 1, none⟩ = some (.int .i64 ah) ∧ W.cell? ⟨s, 2, none⟩ = some (.int .i64 ap) ∧ W.cell? ⟨s, 3, none⟩ = some (.int .i64 an) ∧ W.cell? ⟨s, 4, none⟩ = some (.int .u8 (af.toNat : Int)) ∧ W.cell? ⟨s + 1, 0, none⟩ = some (.int .i64 bk) ∧ W.cell? ⟨s + 1, 1, none⟩ = some (.int .i64 bh) ∧ W.cell? ⟨s + 1, 2, none⟩ = some (.int .i64 bp) ∧ W.cell? ⟨s + 1, 3, none⟩ = some (.int .i64 bn) ∧ W.cell? ⟨s + 1, 4, none⟩ = some (.int .u8 (bf.toNat : Int))) ∧ Below (s + 2) W1 W)) (by kernel_rfl) (HCh.out _ hB13d) (fun hHeld => ?_)
      refine wpAnyH_take (i := 0) (v := ?_) rfl (by kernel_rfl) (by kernel_rfl) (by kernel_rfl) (fun _ _ _ h => h) (Or.inl ⟨by rfl, ?_⟩) (by assumption) ?_
      rotate_left
      · (intro W hSw; (try dsimp only at hSw); go_simp; try with_reducible rfl)
      try simp only [Act.put, List.getElem_toArray, List.getElem_cons_zero, List.setIfInBounds_toArray, List.set_cons_zero, List.set_cons_succ]
      refine wpAnyH_take (i := 1) (v := ?_) rfl (by kernel_rfl) (by kernel_rfl) (by kernel_rfl) (fun _ _ _ h => h) (Or.inl ⟨by rfl, ?_⟩) (by assumption) ?_
      rotate_left
      · (intro W hSw; (try dsimp only at hSw); go_simp; try with_reducible rfl)
      try simp only [Act.put, List.getElem_toArray, List.getElem_cons_zero, List.getElem_cons_succ, List.setIfInBounds_toArray, List.set_cons_zero, List.set_cons_succ]
      refine wpAnyH_take (i := 2) (v := ?_) rfl (by kernel_rfl) (by kernel_rfl) (by kernel_rfl) (fun _ _ _ h => h) (Or.inl ⟨by rfl, ?_⟩) (by assumption) ?_
      rotate_left
      · (intro W hSw; (try dsimp only at hSw); go_simp; try with_reducible rfl)
      try simp only [Act.put, List.getElem_toArray, List.getElem_cons_zero, List.getElem_cons_succ, List.setIfInBounds_toArray, List.set_cons_zero, List.set_cons_succ]
      refine wpAnyH_take (i := 3) (v := ?_) rfl (by kernel_rfl) (by kernel_rfl) (by kernel_rfl) (fun _ _ _ h => h) (Or.inl ⟨by rfl, ?_⟩) (by assumption) ?_
      rotate_left
      · (intro W hSw; (try dsimp only at hSw); go_simp; try with_reducible rfl)
      try simp only [Act.put, List.getElem_toArray, List.getElem_cons_zero, List.getElem_cons_succ, List.setIfInBounds_toArray, List.set_cons_zero, List.set_cons_succ]
      refine wpAnyH_ready (rs := [4]) (by kernel_rfl) (by simp) ?_
      refine AllReadyH.cons rfl (fun K hK => ?_) AllReadyH.nil
      go_simp
      refine (HLb.out _).mono ?_
      rintro e v1 ⟨rfl, hv1⟩
      have hB14 := below_s hB13d hz hv1
      have hP14 := hP13d.below hv1
      have hU14 := Buf.below hU13d hv1 (Nat.le_refl _)
      have hV14 := Buf.below hV13d hv1 (Nat.le_refl _)
      have hY14 := Buf.below hY13d hv1 (Nat.le_refl _)
      try go_wp2_with fail
      refine hK.out _ _ (HCh.out _ hB14) (fun hHeld => ?_)
      clear hK K
      try simp only [Act.put, List.getElem_toArray, List.getElem_cons_zero, List.getElem_cons_succ, List.setIfInBounds_toArray, List.set_cons_zero, List.set_cons_succ]
      refine wpAnyH_ready (rs := [5]) (by kernel_rfl) (by simp) ?_
      refine AllReadyH.cons rfl (fun K hK => ?_) AllReadyH.nil
      go_simp
      have HR := read_any (z + 1) z bp.toNat Lb xd _ v1 hP14 (by omega)
      rw [hbn, hrd] at HR
      refine HR.mono ?_
      rintro e v2 ⟨rfl, hR2, hz2, hv2⟩
      have HZ2 : Hid _ := hz2
      clear hz2 HR
      have hB15 := below_s hB14 hz hv2
      have hU15 := Buf.below hU14 hv2 (Nat.le_refl _)
      have hV15 := Buf.below hV14 hv2 (Nat.le_refl _)
      have hY15 := Buf.below hY14 hv2 (Nat.le_refl _)
      try go_wp2_with fail
      refine hK.out _ _ (HCh.out _ hB15) (fun hHeld => ?_)
      clear hK K
      try simp only [Act.put, List.getElem_toArray, List.getElem_cons_zero, List.getElem_cons_succ, List.setIfInBounds_toArray, List.set_cons_zero, List.set_cons_succ]
      refine wpAnyH_take (i := 6) (v := ?_) rfl (by kernel_rfl) (by kernel_rfl) (by kernel_rfl) (fun _ _ _ h => h) (Or.inl ⟨by rfl, ?_⟩) (by assumption) ?_
      rotate_left
      · (intro W hSw; (try dsimp only at hSw); go_simp; try with_reducible rfl)
      try simp only [Act.put, List.getElem_toArray, List.getElem_cons_zero, List.getElem_cons_succ, List.setIfInBounds_toArray, List.set_cons_zero, List.set_cons_succ]
      refine wpAnyH_take (i := 7) (v := ?_) rfl (by kernel_rfl) (by kernel_rfl) (by kernel_rfl) (fun _ _ _ h => h) (Or.inl ⟨by rfl, ?_⟩) (by assumption) ?_
      rotate_left
      · (intro W hSw; (try dsimp only at hSw); go_simp; try with_reducible rfl)
      try simp only [Act.put, List.getElem_toArray, List.getElem_cons_zero, List.getElem_cons_succ, List.setIfInBounds_toArray, List.set_cons_zero, List.set_cons_succ]
      refine wpAnyH_take (i := 8) (v := ?_) rfl (by kernel_rfl) (by kernel_rfl) (by kernel_rfl) (fun _ _ _ h => h) (Or.inl ⟨by rfl, ?_⟩) (by assumption) ?_
      rotate_left
      · (intro W hSw; (try dsimp only at hSw); go_simp; try with_reducible rfl)
      try simp only [Act.put, List.getElem_toArray, List.getElem_cons_zero, List.getElem_cons_succ, List.setIfInBounds_toArray, List.set_cons_zero, List.set_cons_succ]
      refine wpAnyH_take (i := 9) (v := ?_) rfl (by kernel_rfl) (by kernel_rfl) (by kernel_rfl) (fun _ _ _ h => h) (Or.inl ⟨by rfl, ?_⟩) (by assumption) ?_
      rotate_left
      · (intro W hSw; (try dsimp only at hSw); go_simp; try with_reducible rfl)
      try simp only [Act.put, List.getElem_toArray, List.getElem_cons_zero, List.getElem_cons_succ, List.setIfInBounds_toArray, List.set_cons_zero, List.set_cons_succ]
      refine wpAnyH_take (i := 10) (v := ?_) rfl (by kernel_rfl) (by kernel_rfl) (by kernel_rfl) (fun _ _ _ h => h) (Or.inl ⟨by rfl, ?_⟩) (by assumption) ?_
      rotate_left
      · (intro W hSw; (try dsimp only at hSw); go_simp; try with_reducible rfl)
      try simp only [Act.put, List.getElem_toArray, List.getElem_cons_zero, List.getElem_cons_succ, List.setIfInBounds_toArray, List.set_cons_zero, List.set_cons_succ]
      refine wpAnyH_done (by kernel_rfl) ?_ _
      have HB15 : Hid _ := HWh.out _ hB15
      have cu := conv_buf (n := 4096) hU15 (by omega)
      have cv := conv_buf (n := 4096) hV15 (by omega)
      have cr := conv_buf (n := Lb) hR2 hlb
      have cy := conv_buf (n := Lb) hY15 hlb
      rw [← m5] at cv
      clear hHeld hU13d hV13d hY13d hU14 hV14 hY14 hU15 hV15 hY15 hR2 hB13d hB14 hB15 hP13d hP14 hv1 hv2 HCh HWh m5 m6 m7 m8 hrd
      generalize v1.heap.size = Gr at *
      go_wp2_with fail
      refine (lives_any _).mono ?_
      rintro e w19 ⟨rfl, hb19⟩
      go_wp2_with fail
      go_ret
      exact ⟨rfl, below_on HB15.out hb19⟩
    · have HB9 : Hid _ := HWh.out _ hB3
      clear HAp HBp hD3 hB3 hY3 hd1 hd2
      go_wp2_with fail
      refine (lives_any _).mono ?_
      rintro e w9 ⟨rfl, hb9⟩
      go_wp2_with fail
      go_ret
      exact ⟨rfl, below_on HB9.out hb9⟩
  · have HB9 : Hid _ := HWh.out _ hB2
    clear HAp HBp hD2 hB2 hY2 hd1
    go_wp2_with fail
    refine (lives_any _).mono ?_
    rintro e w9 ⟨rfl, hb9⟩
    go_wp2_with fail
    go_ret
    exact ⟨rfl, below_on HB9.out hb9⟩

end Go.Proofs.Ytbigclhfgcaccaa
