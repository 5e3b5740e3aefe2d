/-
  The first loop of StableWhole: steps that begin nothing.
-/
import Derived.Test.YtbigclhfgcaccaaFr
import Derived.Deep.RegionHeld3
namespace Go.Proofs.Ytbigclhfgcaccaa
open Go.RowKit

theorem finD_length {d : Dv} (hg : GoodD d) (h k : Int) : (finD d h k).b.length = d.b.length := by
  unfold finD
  split
  · rename_i hh
    split
    · rename_i a m e
      obtain ⟨_, _, _, f4⟩ := hg.fits _ _ _ e
      exact over_length _ _ _ (by simp; omega)
    · rfl
  · rfl
theorem startD_b (d : Dv) (h a : Int) (l : List UInt8) : (startD d h a l).b = d.b := by unfold startD; split <;> rfl

/-- The slots that are read behind the first loop. -/
structure Sl5 (n : Nat) (k : Int) (a : Option Addr) (c : Nat) (l : List Op) (s : Nat) (u : Nat → Value) : Prop where
  h3 : u 3 = .int .i64 (n : Int)
  h4 : u 4 = .slice a l.length c
  h5 : u 5 = .pointer (some ⟨s + 1, 0, none⟩)
  h6 : u 6 = .int .i64 k
  h7 : u 7 = .pointer (some ⟨s + 3, 0, none⟩)

/-- Between two steps. -/
def I5a (n : Nat) (k : Int) (a : Option Addr) (c : Nat) (l : List Op) (s : Nat) (W1 : World) (j : Nat) (x : Act) (w' : World) : Prop :=
  ∃ u : Nat → Value, x = frame5 u ∧ Sl5 n k a c l s u ∧ u 9 = .int .i64 (j : Int) ∧ ∃ d, Dev w' [] (s + 3) (s + 2) d ∧ d.b.length = n ∧ Touch (s + 3) (s + 2) W1 w'

set_option maxRecDepth 100000 in
set_option maxHeartbeats 3000000 in
theorem round_none (n : Nat) (k : Int) (c : Nat) (l : List Op) (s : Nat) (W1 : World) (b bo : Nat) (j : Nat) (hlt : j < l.length) (h60 : j < 60) (u : Nat → Value) (wr : World) (hu : Sl5 n k (some ⟨b, bo, none⟩) c l s u) (h9 : u 9 = .int .i64 (j : Int)) (d : Dv) (hd : Dev wr [] (s + 3) (s + 2) d) (hdn : d.b.length = n) (ht : Touch (s + 3) (s + 2) W1 wr)
    (t : Op) (HA : ∀ W, Touch (s + 3) (s + 2) W1 W → OpAt W b (bo + j * 5) t) (hk0 : ¬ t.kind = 0) (hk1 : ¬ t.kind = 1) (Q0 : Exit → Act → World → Prop) :
    Code.wp Try.prog loop5a (Exit.then (fun x w'' => I5a n k (some ⟨b, bo, none⟩) c l s W1 (j + 1) x w'') Q0) (frame5 u) wr := by
  obtain ⟨h3, h4, h5, h6, h7⟩ := hu
  obtain ⟨kd, th, tp, tn, tf⟩ := t
  dsimp only at *
  rw [frame5_open, h3, h4, h5, h6, h7, h9]
  clear h3 h4 h5 h6 h7 h9
  have HS : Hid (∀ W, Touch (s + 3) (s + 2) W1 W → W.cell? ⟨b, bo + j * 5, none⟩ = some (.int .i64 kd) ∧ W.cell? ⟨b, bo + j * 5 + 1, none⟩ = some (.int .i64 th) ∧ W.cell? ⟨b, bo + j * 5 + 2, none⟩ = some (.int .i64 tp) ∧ W.cell? ⟨b, bo + j * 5 + 3, none⟩ = some (.int .i64 tn) ∧ W.cell? ⟨b, bo + j * 5 + 4, none⟩ = some (.int .u8 (tf.toNat : Int)) ∧ Touch (s + 3) (s + 2) W1 W) := fun W hW => ⟨(HA W hW).c0, (HA W hW).c1, (HA W hW).c2, (HA W hW).c3, (HA W hW).c4, hW⟩
  clear HA
  obtain ⟨s0, s1, s2, s3, s4, _⟩ := HS.out _ ht
  conv => arg 2; whnf
  clear s1 s2 s3 s4 HS
  go_wp2_with fail
  exact ⟨_, frame5_lit _ rfl rfl, ⟨rfl, rfl, rfl, rfl, rfl⟩, by show Value.int .i64 _ = _; simp, d, hd, hdn, ht⟩

set_option maxRecDepth 100000 in
set_option maxHeartbeats 3000000 in
theorem round_fin (n : Nat) (k : Int) (c : Nat) (l : List Op) (s : Nat) (W1 : World) (b bo : Nat) (j : Nat) (hlt : j < l.length) (h60 : j < 60) (u : Nat → Value) (wr : World) (hu : Sl5 n k (some ⟨b, bo, none⟩) c l s u) (h9 : u 9 = .int .i64 (j : Int)) (d : Dv) (hd : Dev wr [] (s + 3) (s + 2) d) (hdn : d.b.length = n) (ht : Touch (s + 3) (s + 2) W1 wr)
    (t : Op) (HA : ∀ W, Touch (s + 3) (s + 2) W1 W → OpAt W b (bo + j * 5) t) (hk1 : t.kind = 1) (Q0 : Exit → Act → World → Prop) :
    Code.wp Try.prog loop5a (Exit.then (fun x w'' => I5a n k (some ⟨b, bo, none⟩) c l s W1 (j + 1) x w'') Q0) (frame5 u) wr := by
  obtain ⟨h3, h4, h5, h6, h7⟩ := hu
  obtain ⟨kd, th, tp, tn, tf⟩ := t
  dsimp only at *
  rw [frame5_open, h3, h4, h5, h6, h7, h9]
  clear h3 h4 h5 h6 h7 h9
  have HS : Hid (∀ W, Touch (s + 3) (s + 2) W1 W → W.cell? ⟨b, bo + j * 5, none⟩ = some (.int .i64 kd) ∧ W.cell? ⟨b, bo + j * 5 + 1, none⟩ = some (.int .i64 th) ∧ W.cell? ⟨b, bo + j * 5 + 2, none⟩ = some (.int .i64 tp) ∧ W.cell? ⟨b, bo + j * 5 + 3, none⟩ = some (.int .i64 tn) ∧ W.cell? ⟨b, bo + j * 5 + 4, none⟩ = some (.int .u8 (tf.toNat : Int)) ∧ Touch (s + 3) (s + 2) W1 W) := fun W hW => ⟨(HA W hW).c0, (HA W hW).c1, (HA W hW).c2, (HA W hW).c3, (HA W hW).c4, hW⟩
  clear HA
  obtain ⟨s0, s1, s2, s3, s4, _⟩ := HS.out _ ht
  conv => arg 2; whnf
  subst hk1
  clear s2 s3 s4 HS
  go_wp2_with fail
  refine (finish_any _ _ th d _ wr hd).mono ?_
  rintro e w2 ⟨rfl, hd2, ht2⟩
  have hbd := finD_length hd.good th 1024
  generalize finD d th 1024 = d' at *
  go_wp2_with fail
  exact ⟨_, frame5_lit _ rfl rfl, ⟨rfl, rfl, rfl, rfl, rfl⟩, by show Value.int .i64 _ = _; simp, d', hd2, by rw [hbd]; exact hdn, ht.trans ht2⟩

set_option maxRecDepth 100000 in
set_option maxHeartbeats 3000000 in
theorem round_skip (n : Nat) (k : Int) (c : Nat) (l : List Op) (s : Nat) (W1 : World) (b bo : Nat) (j : Nat) (hlt : j < l.length) (h60 : j < 60) (u : Nat → Value) (wr : World) (hu : Sl5 n k (some ⟨b, bo, none⟩) c l s u) (h9 : u 9 = .int .i64 (j : Int)) (d : Dv) (hd : Dev wr [] (s + 3) (s + 2) d) (hdn : d.b.length = n) (ht : Touch (s + 3) (s + 2) W1 wr)
    (t : Op) (HA : ∀ W, Touch (s + 3) (s + 2) W1 W → OpAt W b (bo + j * 5) t) (hk0 : t.kind = 0) (hlg : ¬ 0 ≤ long t.n) (Q0 : Exit → Act → World → Prop) :
    Code.wp Try.prog loop5a (Exit.then (fun x w'' => I5a n k (some ⟨b, bo, none⟩) c l s W1 (j + 1) x w'') Q0) (frame5 u) wr := by
  obtain ⟨h3, h4, h5, h6, h7⟩ := hu
  obtain ⟨kd, th, tp, tn, tf⟩ := t
  dsimp only at *
  rw [frame5_open, h3, h4, h5, h6, h7, h9]
  clear h3 h4 h5 h6 h7 h9
  have HS : Hid (∀ W, Touch (s + 3) (s + 2) W1 W → W.cell? ⟨b, bo + j * 5, none⟩ = some (.int .i64 kd) ∧ W.cell? ⟨b, bo + j * 5 + 1, none⟩ = some (.int .i64 th) ∧ W.cell? ⟨b, bo + j * 5 + 2, none⟩ = some (.int .i64 tp) ∧ W.cell? ⟨b, bo + j * 5 + 3, none⟩ = some (.int .i64 tn) ∧ W.cell? ⟨b, bo + j * 5 + 4, none⟩ = some (.int .u8 (tf.toNat : Int)) ∧ Touch (s + 3) (s + 2) W1 W) := fun W hW => ⟨(HA W hW).c0, (HA W hW).c1, (HA W hW).c2, (HA W hW).c3, (HA W hW).c4, hW⟩
  clear HA
  obtain ⟨s0, s1, s2, s3, s4, _⟩ := HS.out _ ht
  conv => arg 2; whnf
  subst hk0
  have HL := long_any ⟨0, th, tp, tn, tf⟩
  dsimp only [opV] at HL
  go_wp2_with fail
  refine (HL wr).mono ?_
  rintro e w2 ⟨rfl, hb2⟩
  have ht2 := ht.trans (Touch.of hb2)
  have hd2 := hd.below hb2
  clear s0 s1 s2 s3 s4 hb2 ht hd HL
  obtain ⟨s0, s1, s2, s3, s4, _⟩ := HS.out _ ht2
  clear s1 s2 s3 s4 HS
  go_wp2_with fail
  exact ⟨_, frame5_lit _ rfl rfl, ⟨rfl, rfl, rfl, rfl, rfl⟩, by show Value.int .i64 _ = _; simp, d, hd2, hdn, ht2⟩

end Go.Proofs.Ytbigclhfgcaccaa
