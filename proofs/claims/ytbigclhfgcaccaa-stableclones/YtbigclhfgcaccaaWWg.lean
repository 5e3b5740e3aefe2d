/-
  Behind the first loop of StableWhole.
-/
import Derived.Test.YtbigclhfgcaccaaWWe
import Derived.Test.YtbigclhfgcaccaaWWf
namespace Go.Proofs.Ytbigclhfgcaccaa
open Go.RowKit

/-- What is left of a code behind some statements. -/
def tailOf : Nat → Code → Code
  | 0, c => c
  | k + 1, .seq _ b => tailOf k b
  | _, c => c
noncomputable def rest5 : Code := tailOf 5 ((Try.f5.body).getD .skip)

theorem Buf.touch {w w' : World} {p o G : Nat} {L : List UInt8} (h : Buf w G L) (ht : Touch p o w w') (h1 : G ≠ p) (h2 : G ≠ o) : Buf w' G L := ht.blk h h1 h2

theorem start_ok {d : Dv} {h a : Int} {l : List UInt8} (e : startE d h a l = 0) : (0 ≤ h ∧ h < 8) ∧ a % 64 = 0 ∧ (l.length : Int) % 64 = 0 ∧ ¬ l.length = 0 ∧ (0 ≤ a ∧ a + l.length ≤ d.b.length) ∧ d.u[h.toNat]? = some none := by
  unfold startE at e
  split at e
  · simp at e
  · rename_i h1
    split at e
    · simp at e
    · rename_i h2
      split at e
      · rename_i h3
        refine ⟨by omega, by omega, by omega, by omega, by omega, h3⟩
      · simp at e

theorem start_fin {d : Dv} (hg : GoodD d) {h a k : Int} {l : List UInt8} (e : startE d h a l = 0) : finE (startD d h a l) h = 0 ∧ (finD (startD d h a l) h k).b = over d.b a.toNat (l.take (64 * k.toNat)) := by
  obtain ⟨h1, h2, h3, h4, h5, h6⟩ := start_ok e
  have es : startD d h a l = ⟨d.b, d.u.set h.toNat (some (a.toNat, l))⟩ := by unfold startD; rw [if_pos e]
  have e1 : (d.u.set h.toNat (some (a.toNat, l)))[h.toNat]? = some (some (a.toNat, l)) := List.getElem?_set_self (by rw [hg.hands]; omega)
  rw [es]
  constructor
  · unfold finE; rw [if_pos h1]; simp only [e1]
  · unfold finD; rw [if_pos h1]; simp only [e1]

set_option maxRecDepth 100000 in
set_option maxHeartbeats 3000000 in
theorem rest5_wp (n : Nat) (k : Int) (a : Option Addr) (c : Nat) (l : List Op) (o : Op) (w W1 : World) (hB1 : Below w.heap.size w W1) (hz : W1.heap.size = w.heap.size + 4) (hx : W1.heap[w.heap.size + 1]? = some (.cells (opV o) 49)) (ho : GoodO o) (hk : I64 k) (hn : n ≤ 4096) (hn64 : n % 64 = 0) (Ln : Nat) (hLn : long o.n = (Ln : Int))
    (u : Nat → Value) (wr : World) (hu : Sl5 n k a c l w.heap.size u) (d : Dv) (hd : Dev wr [] (w.heap.size + 3) (w.heap.size + 2) d) (hdn : d.b.length = n) (ht : Touch (w.heap.size + 3) (w.heap.size + 2) W1 wr) :
    Code.wp Try.prog rest5 (bodyPost Try.prog Try.f5 fun e w'' => e = .returned (.bool true) ∧ Below w.heap.size w w'') (frame5 u) wr := by
  obtain ⟨h3, h4, h5, h6, h7⟩ := hu
  rw [frame5_open, h3, h4, h5, h6, h7]
  clear h3 h4 h5 h6 h7
  have HO : Hid (∀ W, Touch (w.heap.size + 3) (w.heap.size + 2) W1 W → W.heap[w.heap.size + 1]? = some (.cells (opV o) 49)) := fun W hW => by rw [hW.block _ (by omega) (by omega) (by omega)]; exact hx
  have HBW : Hid (∀ W, Touch (w.heap.size + 3) (w.heap.size + 2) W1 W → Below w.heap.size w W) := fun W hW => hB1.trans (hW.below (by omega) (by omega) (by omega))
  clear hx hB1
  obtain ⟨kd, th, tp, tn, tf⟩ := o
  have hpl := ho.place
  clear ho
  dsimp only at *
  have HS : Hid (∀ W, Touch (w.heap.size + 3) (w.heap.size + 2) W1 W → (fun W => W.cell? ⟨w.heap.size + 1, 0, none⟩ = some (.int .i64 kd) ∧ W.cell? ⟨w.heap.size + 1, 1, none⟩ = some (.int .i64 th) ∧ W.cell? ⟨w.heap.size + 1, 2, none⟩ = some (.int .i64 tp) ∧ W.cell? ⟨w.heap.size + 1, 3, none⟩ = some (.int .i64 tn) ∧ W.cell? ⟨w.heap.size + 1, 4, none⟩ = some (.int .u8 (tf.toNat : Int)) ∧ Touch (w.heap.size + 3) (w.heap.size + 2) W1 W) W) := fun W hW => by
    have y := HO.out W hW
    simp only [opV] at y
    exact ⟨by simp [World.cell?, y], by simp [World.cell?, y], by simp [World.cell?, y], by simp [World.cell?, y], by simp [World.cell?, y], hW⟩
  have HL : Hid _ := long_any ⟨kd, th, tp, tn, tf⟩
  dsimp only [opV] at HL
  rw [hLn] at HL
  have hLn2 : Ln ≤ 3000 := by have := long_le tn; omega
  have HR := read_any (w.heap.size + 3) (w.heap.size + 2) 0 n d [] wr hd (by omega)
  rw [List.drop_zero, List.take_of_length_le (by omega)] at HR
  conv => arg 2; whnf
  go_wp2_with fail
  refine HR.mono ?_
  clear HR
  rintro e w2 ⟨rfl, hBw, hz2, hb2⟩
  have ht2 := ht.trans (Touch.of hb2)
  have ht2d := ht2.drew
  have hd2d := (hd.below hb2).below (Below.refl _ _).drew
  have hGw : w.heap.size + 4 ≤ wr.heap.size := by have := ht.size; omega
  have hW2 := Buf.below hBw (Below.refl _ _).drew (Nat.le_refl _)
  generalize wr.heap.size = Gw at *
  clear hb2 ht hd hBw
  obtain ⟨y0, y1, y2, y3, y4, _⟩ := HS.out _ ht2
  have HSt : Hid (∀ (w3 w4 : World), Dev w4 [] (w.heap.size + 3) (w.heap.size + 2) d → Buf w4 w3.heap.size (List.replicate Ln tf) → Calls Try.prog 16 #[.pointer (some ⟨w.heap.size + 3, 0, none⟩), .int .i64 th, .int .i64 tp, .slice (some ⟨w3.heap.size, 0, none⟩) Ln Ln] w4 fun e w' => e = .returned (.int .i64 (startE d th tp (List.replicate Ln tf))) ∧ Dev w' [] (w.heap.size + 3) (w.heap.size + 2) (startD d th tp (List.replicate Ln tf)) ∧ Touch (w.heap.size + 3) (w.heap.size + 2) w4 w') := fun w3 w4 hd hB => by
    have := start_any (w.heap.size + 3) (w.heap.size + 2) th tp (some ⟨w3.heap.size, 0, none⟩) Ln (List.replicate Ln tf) d [] w4 hd (fun k hk => by simp at hk) hpl hB.slB0 (by simp; omega)
    rwa [List.length_replicate] at this
  have hbd := startD_b d th tp (List.replicate Ln tf)
  have HSF : Hid (startE d th tp (List.replicate Ln tf) = 0 → finE (startD d th tp (List.replicate Ln tf)) th = 0 ∧ (finD (startD d th tp (List.replicate Ln tf)) th k).b = over d.b tp.toNat ((List.replicate Ln tf).take (64 * k.toNat))) := fun e => start_fin hd2d.good e
  have HOK : Hid (startE d th tp (List.replicate Ln tf) = 0 → tp % 64 = 0 ∧ (Ln : Int) % 64 = 0 ∧ 0 ≤ tp ∧ tp + Ln ≤ n) := fun e => by
    obtain ⟨_, q1, q2, _, q3, _⟩ := start_ok e
    rw [List.length_replicate] at q2 q3
    omega
  generalize startD d th tp (List.replicate Ln tf) = d' at *
  generalize startE d th tp (List.replicate Ln tf) = es at *
  go_wp2_with fail
  go_region_held3 (fun W => W.cell? ⟨w.heap.size + 1, 0, none⟩ = some (.int .i64 kd) ∧ W.cell? ⟨w.heap.size + 1, 1, none⟩ = some (.int .i64 th) ∧ W.cell? ⟨w.heap.size + 1, 2, none⟩ = some (.int .i64 tp) ∧ W.cell? ⟨w.heap.size + 1, 3, none⟩ = some (.int .i64 tn) ∧ W.cell? ⟨w.heap.size + 1, 4, none⟩ = some (.int .u8 (tf.toNat : Int)) ∧ Touch (w.heap.size + 3) (w.heap.size + 2) W1 W) (exact HS.out _ (by assumption)) (first | (go_at_call 22; refine (HL.out _).mono ?_; rintro e w3 ⟨rfl, hb3⟩; have ht3 := ht2d.trans (Touch.of hb3); have hd3 := hd2d.below hb3; have hW3 := Buf.below hW2 hb3 (Nat.le_refl _)) | (go_at_call 17; refine (filled_any Ln tf _ (by omega)).mono ?_; rintro e w4 ⟨rfl, hB4, hz4, hb4⟩; have ht4 := ht3.trans (Touch.of hb4); have hd4 := hd3.below hb4; have hW4 := Buf.below hW3 hb4 (Nat.le_refl _)) | (go_at_call 16; refine (HSt.out _ _ hd4 hB4).mono ?_; rintro e w5 ⟨rfl, hd5, ht5⟩; have ht6 := ht4.trans ht5; have hW5 := Buf.touch hW4 ht5 (by omega) (by omega)))
  clear HL HSt y0 y1 y2 y3 y4 HS ht2 ht2d hd2d ht3 hd3 hW3 ht4 hd4 hW4 hW2 hb3 hb4 hz4 hB4 ht5 hz2
  obtain ⟨y0, y1, y2, y3, y4⟩ : w5.cell? ⟨w.heap.size + 1, 0, none⟩ = some (.int .i64 kd) ∧ w5.cell? ⟨w.heap.size + 1, 1, none⟩ = some (.int .i64 th) ∧ w5.cell? ⟨w.heap.size + 1, 2, none⟩ = some (.int .i64 tp) ∧ w5.cell? ⟨w.heap.size + 1, 3, none⟩ = some (.int .i64 tn) ∧ w5.cell? ⟨w.heap.size + 1, 4, none⟩ = some (.int .u8 (tf.toNat : Int)) := by
    have y := HO.out _ ht6
    simp only [opV] at y
    exact ⟨by simp [World.cell?, y], by simp [World.cell?, y], by simp [World.cell?, y], by simp [World.cell?, y], by simp [World.cell?, y]⟩
  by_cases hes : es = 0
  · obtain ⟨q1, q2, q3, q4⟩ := HOK.out hes
    obtain ⟨g1, g2⟩ := HSF.out hes
    subst hes
    have HC := crash_any (w.heap.size + 3) (w.heap.size + 2) th k d' [] w5 hd5 hk
    rw [g1] at HC
    have hnow : (finD d' th k).b.length = n := by rw [finD_length hd5.good, hbd]; exact hdn
    rw [g2] at hnow
    generalize finD d' th k = d6 at *
    clear HOK HSF g1
    go_wp2_with fail
    refine HC.mono ?_
    rintro e w6 ⟨rfl, hd6, ht7⟩
    have ht8 := ht6.trans ht7
    have hW6 := Buf.touch hW5 ht7 (by omega) (by omega)
    have HR := read_any (w.heap.size + 3) (w.heap.size + 2) 0 n d6 [] w6 hd6 (by rw [g2]; omega)
    rw [List.drop_zero, g2, List.take_of_length_le (by omega)] at HR
    clear HC hd5 hd6 ht7 hW5 ht6 g2 y0 y1 y2 y3 y4
    go_wp2_with fail
    refine HR.mono ?_
    clear HR
    rintro e w7 ⟨rfl, hB7, hz7, hb7⟩
    have ht9 := ht8.trans (Touch.of hb7)
    have HM : Hid (Mm5 w.heap.size w6.heap.size Gw ⟨kd, th, tp, tn, tf⟩ (over d.b tp.toNat ((List.replicate Ln tf).take (64 * k.toNat))) d.b w7) := ⟨hB7, hW6.below hb7 (Nat.le_refl _), HO.out _ ht9⟩
    have HB7 : Hid _ := HBW.out _ ht9
    have HF : Hid (∀ at' i, at' % 64 = 0 → at' ≤ i → i < at' + 64 → (over d.b tp.toNat ((List.replicate Ln tf).take (64 * k.toNat)))[i]? = if fresh tp Ln k (at' : Nat) then some tf else d.b[i]?) := fun at' i h1 h2 h3 => by
      have := whole_math d.b tp.toNat Ln n tf k hdn (by omega) (by omega) (by omega) at' i h1 h2 h3
      rwa [show ((tp.toNat : Nat) : Int) = tp by omega] at this
    have HNn : Hid _ := hnow
    have HDn : Hid _ := hdn
    clear hB7 hW6 hb7 ht9 ht8 hz7 hnow HO HBW
    generalize over d.b tp.toNat ((List.replicate Ln tf).take (64 * k.toNat)) = now at *
    generalize w6.heap.size = Gn at *
    go_wp2_with fail
    refine wp5 rfl rfl (loop5b_wp n k w.heap.size Gn Gw ⟨kd, th, tp, tn, tf⟩ now d.b _ _ ⟨rfl, rfl, rfl, rfl, rfl⟩ rfl HM.out hn hn64 HNn.out HDn.out Ln hLn q3 q4 HF.out _ (fun _ _ t _ _ h => by cases t <;> exact h) ?_)
    intro u' w' hb'
    rw [frame5_open]
    have HB8 : Hid _ := below_on HB7.out hb'
    clear hb' HM HF
    go_wp2_with fail
    refine (lives_any _).mono ?_
    rintro e w9 ⟨rfl, hb9⟩
    go_wp2_with fail
    go_ret
    exact ⟨rfl, below_on HB8.out hb9⟩
  · have HB6 : Hid _ := HBW.out _ ht6
    clear HO HBW hd5 hW5 HOK HSF ht6 y0 y1 y2 y3 y4
    go_wp2_with fail
    refine (lives_any _).mono ?_
    rintro e w9 ⟨rfl, hb9⟩
    go_wp2_with fail
    go_ret
    exact ⟨rfl, below_on HB6.out hb9⟩

end Go.Proofs.Ytbigclhfgcaccaa
