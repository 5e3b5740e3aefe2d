/-
  StableApart behind its look.
-/
import Derived.Test.YtbigclhfgcaccaaPi
namespace Go.Proofs.Ytbigclhfgcaccaa
open Go.RowKit

def devz (n : Nat) : Dv := ⟨List.replicate n 0, List.replicate 8 none⟩
theorem devz_len (n : Nat) : (devz n).b.length = n := by simp [devz]
theorem newz (n : Nat) (w : World) (h : n ≤ 65536) (h2 : n % 64 = 0) : Calls Try.prog 9 #[.int .i64 (n : Int)] w fun e w' => e = .returned (.tuple #[.pointer (some ⟨w.heap.size + 1, 0, none⟩), .int .i64 0]) ∧ Dev w' [] (w.heap.size + 1) w.heap.size (devz n) ∧ Below w.heap.size w w' := by
  refine (new_yes n w h h2).mono ?_
  rintro e w' ⟨rfl, rfl⟩
  exact ⟨rfl, Dev.new n w [] (fun k hk => by simp at hk) h h2, ((Below.refl _ w).alloc (Nat.le_refl _) _).alloc (by rw [World.size_alloc]; omega) _⟩

set_option maxRecDepth 100000 in
set_option maxHeartbeats 3000000 in
theorem rest6_wp (a b : Op) (ga : GoodO a) (gb : GoodO b) (k : Int) (hk : I64 k) (w W1 : World) (s : Nat) (hs : s = w.heap.size) (hBw : Below w.heap.size w W1) (hz : W1.heap.size = s + 2) (ha : W1.heap[s]? = some (.cells (opV a) 49)) (hb : W1.heap[s + 1]? = some (.cells (opV b) 49)) (u : Nat → Value) (g2 : u 2 = .int .i64 k) (g3 : u 3 = .pointer (some ⟨s, 0, none⟩)) (g4 : u 4 = .pointer (some ⟨s + 1, 0, none⟩))
    (wr : World) (hB : Below (s + 2) W1 wr) (La Lb : Nat) (hLa : long a.n = (La : Int)) (hLb : long b.n = (Lb : Int)) (h3 : ¬ a.hand = b.hand) (hap : a.place + (La : Int) ≤ b.place ∨ b.place + (Lb : Int) ≤ a.place) :
    Code.wp Try.prog (tail6 2 body6) (bodyPost Try.prog Try.f6 fun e w'' => e = .returned (.bool true) ∧ Below w.heap.size w w'') (frame6 u) wr := by
  rw [frame6_open, g2, g3, g4]
  clear g2 g3 g4
  obtain ⟨ak, ah, ap, an, af⟩ := a
  obtain ⟨bk, bh, bp, bn, bf⟩ := b
  have pa := ga.place
  have pb := gb.place
  clear ga gb
  dsimp only at *
  have HLa : Hid _ := long_any ⟨ak, ah, ap, an, af⟩
  dsimp only [opV] at HLa
  have HLb : Hid _ := long_any ⟨bk, bh, bp, bn, bf⟩
  dsimp only [opV] at HLb
  rw [hLa] at HLa
  rw [hLb] at HLb
  have hla : La ≤ 3000 := by have := long_le an; omega
  have hlb : Lb ≤ 3000 := by have := long_le bn; omega
  have HC : Hid (∀ W, Below (s + 2) W1 W → (fun W => (W.cell? ⟨s, 0, none⟩ = some (.int .i64 ak) ∧ W.cell? ⟨s, 1, none⟩ = some (.int .i64 ah) ∧ W.cell? ⟨s, 2, none⟩ = some (.int .i64 ap) ∧ W.cell? ⟨s, 3, none⟩ = some (.int .i64 an) ∧ W.cell? ⟨s, 4, none⟩ = some (.int .u8 (af.toNat : Int)) ∧ W.cell? ⟨s + 1, 0, none⟩ = some (.int .i64 bk) ∧ W.cell? ⟨s + 1, 1, none⟩ = some (.int .i64 bh) ∧ W.cell? ⟨s + 1, 2, none⟩ = some (.int .i64 bp) ∧ W.cell? ⟨s + 1, 3, none⟩ = some (.int .i64 bn) ∧ W.cell? ⟨s + 1, 4, none⟩ = some (.int .u8 (bf.toNat : Int))) ∧ Below (s + 2) W1 W) W) := fun W h2 => by
    have y := ha
    have z := hb
    rw [← h2.block s (by omega)] at y
    rw [← h2.block (s + 1) (by omega)] at z
    simp only [opV] at y z
    exact ⟨⟨by simp [World.cell?, y], by simp [World.cell?, y], by simp [World.cell?, y], by simp [World.cell?, y], by simp [World.cell?, y], by simp [World.cell?, z], by simp [World.cell?, z], by simp [World.cell?, z], by simp [World.cell?, z], by simp [World.cell?, z]⟩, h2⟩
  have HW : Hid (∀ W, Below (s + 2) W1 W → Below w.heap.size w W) := fun W h2 => hBw.trans (h2.mono (by omega))
  have zge : s + 2 ≤ wr.heap.size := by have := hB.size; omega
  clear ha hb hBw hLa hs
  conv => arg 2; whnf
  go_wp2_with fail
  refine (newz 4096 wr (by omega) (by omega)).mono ?_
  rintro e w2 ⟨rfl, hD2, hb2⟩
  have hB2 := below_s hB hz hb2
  have hB2d := hB2.drew
  have hD2d := hD2.below (Below.refl _ _).drew
  clear hb2 hB hD2 hB2
  generalize wr.heap.size = z at *
  go_wp2_with fail
  rename_i Kx hKx
  refine wp_region_held_drew (S := (fun W => (W.cell? ⟨s, 0, none⟩ = some (.int .i64 ak) ∧ W.cell? ⟨s, 1, none⟩ = some (.int .i64 ah) ∧ W.cell? ⟨s, 2, none⟩ = some (.int .i64 ap) ∧ W.cell? ⟨s, 3, none⟩ = some (.int .i64 an) ∧ W.cell? ⟨s, 4, none⟩ = some (.int .u8 (af.toNat : Int)) ∧ W.cell? ⟨s + 1, 0, none⟩ = some (.int .i64 bk) ∧ W.cell? ⟨s + 1, 1, none⟩ = some (.int .i64 bh) ∧ W.cell? ⟨s + 1, 2, none⟩ = some (.int .i64 bp) ∧ W.cell? ⟨s + 1, 3, none⟩ = some (.int .i64 bn) ∧ W.cell? ⟨s + 1, 4, none⟩ = some (.int .u8 (bf.toNat : Int))) ∧ Below (s + 2) W1 W)) (by kernel_rfl) (HC.out _ hB2d) (fun hHeld => ?_)
  refine wpAnyH_take (i := 0) (v := ?_) rfl (by kernel_rfl) (by kernel_rfl) (by kernel_rfl) (fun _ _ _ h => h) (Or.inl ⟨by rfl, ?_⟩) (by assumption) ?_
  rotate_left
  · (intro W hSw; (try dsimp only at hSw); go_simp; try with_reducible rfl)
  try simp only [Act.put, List.getElem_toArray, List.getElem_cons_zero, List.setIfInBounds_toArray, List.set_cons_zero, List.set_cons_succ]
  refine wpAnyH_take (i := 2) (v := ?_) rfl (by kernel_rfl) (by kernel_rfl) (by kernel_rfl) (fun _ _ _ h => h) (Or.inl ⟨by rfl, ?_⟩) (by assumption) ?_
  rotate_left
  · (intro W hSw; (try dsimp only at hSw); go_simp; try with_reducible rfl)
  try simp only [Act.put, List.getElem_toArray, List.getElem_cons_zero, List.getElem_cons_succ, List.setIfInBounds_toArray, List.set_cons_zero, List.set_cons_succ]
  refine wpAnyH_take (i := 3) (v := ?_) rfl (by kernel_rfl) (by kernel_rfl) (by kernel_rfl) (fun _ _ _ h => h) (Or.inl ⟨by rfl, ?_⟩) (by assumption) ?_
  rotate_left
  · (intro W hSw; (try dsimp only at hSw); go_simp; try with_reducible rfl)
  try simp only [Act.put, List.getElem_toArray, List.getElem_cons_zero, List.getElem_cons_succ, List.setIfInBounds_toArray, List.set_cons_zero, List.set_cons_succ]
  refine wpAnyH_take (i := 5) (v := ?_) rfl (by kernel_rfl) (by kernel_rfl) (by kernel_rfl) (fun _ _ _ h => h) (Or.inl ⟨by rfl, ?_⟩) (by assumption) ?_
  rotate_left
  · (intro W hSw; (try dsimp only at hSw); go_simp; try with_reducible rfl)
  try simp only [Act.put, List.getElem_toArray, List.getElem_cons_zero, List.getElem_cons_succ, List.setIfInBounds_toArray, List.set_cons_zero, List.set_cons_succ]
  refine wpAnyH_take (i := 7) (v := ?_) rfl (by kernel_rfl) (by kernel_rfl) (by kernel_rfl) (fun _ _ _ h => h) (Or.inl ⟨by rfl, ?_⟩) (by assumption) ?_
  rotate_left
  · (intro W hSw; (try dsimp only at hSw); go_simp; try with_reducible rfl)
  try simp only [Act.put, List.getElem_toArray, List.getElem_cons_zero, List.getElem_cons_succ, List.setIfInBounds_toArray, List.set_cons_zero, List.set_cons_succ]
  refine wpAnyH_take (i := 8) (v := ?_) rfl (by kernel_rfl) (by kernel_rfl) (by kernel_rfl) (fun _ _ _ h => h) (Or.inl ⟨by rfl, ?_⟩) (by assumption) ?_
  rotate_left
  · (intro W hSw; (try dsimp only at hSw); go_simp; try with_reducible rfl)
  try simp only [Act.put, List.getElem_toArray, List.getElem_cons_zero, List.getElem_cons_succ, List.setIfInBounds_toArray, List.set_cons_zero, List.set_cons_succ]
  refine wpAnyH_ready (rs := [1]) (by kernel_rfl) (by simp) ?_
  refine AllReadyH.cons rfl (fun K hK => ?_) AllReadyH.nil
  go_simp
  refine (HLa.out _).mono ?_
  rintro e w3 ⟨rfl, hb3⟩
  have hB3 := below_s hB2d hz hb3
  have hD3 := hD2d.below hb3
  try go_wp2_with fail
  refine hK.out _ _ (HC.out _ hB3) (fun hHeld => ?_)
  clear hK K
  try simp only [Act.put, List.getElem_toArray, List.getElem_cons_zero, List.getElem_cons_succ, List.setIfInBounds_toArray, List.set_cons_zero, List.set_cons_succ]
  refine wpAnyH_ready (rs := [4]) (by kernel_rfl) (by simp) ?_
  refine AllReadyH.cons rfl (fun K hK => ?_) AllReadyH.nil
  go_simp
  refine (filled_any La af w3 (by omega)).mono ?_
  rintro e w4 ⟨rfl, hX4, hz4, hb4⟩
  have HZ4 : Hid _ := hz4
  clear hz4
  have hB4 := below_s hB3 hz hb4
  have hD4 := hD3.below hb4
  try go_wp2_with fail
  refine hK.out _ _ (HC.out _ hB4) (fun hHeld => ?_)
  clear hK K
  try simp only [Act.put, List.getElem_toArray, List.getElem_cons_zero, List.getElem_cons_succ, List.setIfInBounds_toArray, List.set_cons_zero, List.set_cons_succ]
  refine wpAnyH_ready (rs := [6]) (by kernel_rfl) (by simp) ?_
  refine AllReadyH.cons rfl (fun K hK => ?_) AllReadyH.nil
  go_simp
  refine (HLb.out _).mono ?_
  rintro e w5 ⟨rfl, hb5⟩
  have hB5 := below_s hB4 hz hb5
  have hD5 := hD4.below hb5
  have hX5 := Buf.below hX4 hb5 (Nat.le_refl _)
  have hGy := hD5.lt.1
  try go_wp2_with fail
  refine hK.out _ _ (HC.out _ hB5) (fun hHeld => ?_)
  clear hK K
  try simp only [Act.put, List.getElem_toArray, List.getElem_cons_zero, List.getElem_cons_succ, List.setIfInBounds_toArray, List.set_cons_zero, List.set_cons_succ]
  refine wpAnyH_ready (rs := [9]) (by kernel_rfl) (by simp) ?_
  refine AllReadyH.cons rfl (fun K hK => ?_) AllReadyH.nil
  go_simp
  refine (filled_any Lb bf w5 (by omega)).mono ?_
  rintro e w6 ⟨rfl, hY6, hz6, hb6⟩
  have HZ6 : Hid _ := hz6
  clear hz6
  have hB6 := below_s hB5 hz hb6
  have hD6 := hD5.below hb6
  have hX6 := Buf.below hX5 hb6 (Nat.le_refl _)
  try go_wp2_with fail
  refine hK.out _ _ (HC.out _ hB6) (fun hHeld => ?_)
  clear hK K
  try simp only [Act.put, List.getElem_toArray, List.getElem_cons_zero, List.getElem_cons_succ, List.setIfInBounds_toArray, List.set_cons_zero, List.set_cons_succ]
  refine wpAnyH_take (i := 10) (v := ?_) rfl (by kernel_rfl) (by kernel_rfl) (by kernel_rfl) (fun _ _ _ h => h) (Or.inl ⟨by rfl, ?_⟩) (by assumption) ?_
  rotate_left
  · (intro W hSw; (try dsimp only at hSw); go_simp; try with_reducible rfl)
  try simp only [Act.put, List.getElem_toArray, List.getElem_cons_zero, List.getElem_cons_succ, List.setIfInBounds_toArray, List.set_cons_zero, List.set_cons_succ]
  refine wpAnyH_take (i := 11) (v := ?_) rfl (by kernel_rfl) (by kernel_rfl) (by kernel_rfl) (fun _ _ _ h => h) (Or.inl ⟨by rfl, ?_⟩) (by assumption) ?_
  rotate_left
  · (intro W hSw; (try dsimp only at hSw); go_simp; try with_reducible rfl)
  try simp only [Act.put, List.getElem_toArray, List.getElem_cons_zero, List.getElem_cons_succ, List.setIfInBounds_toArray, List.set_cons_zero, List.set_cons_succ]
  refine wpAnyH_done (by kernel_rfl) ?_ _
  exact k6 rfl rfl (hKx _ _ (wp6 rfl rfl (rest6b ak ah ap an af bk bh bp bn bf pa pb k hk w W1 s hz HC.out HW.out (devz 4096) (devz_len 4096) La Lb (List.replicate La af) (List.replicate Lb bf) (by simp) (by simp) hla hlb hLb h3 hap z w3.heap.size w5.heap.size zge hGy w6 hB6 hD6 hX6 hY6 _ rfl rfl rfl rfl rfl rfl)))

end Go.Proofs.Ytbigclhfgcaccaa
