/-
  Save.
-/
import Derived.Test.YticadfaclnimgaaTc
namespace Go.Proofs.Yticadfaclnimgaa
open Go.RowKit Go.Maps

theorem info27 : (Try.prog.info? 27).map (fun i => (i.zero, i.size, i.bytes)) = some (some (.int .u64 0), 1, 8) := by kernel_rfl
theorem cell1 {w : World} {g : Nat} {a : Value} {t : TypeId} (h : w.heap[g]? = some (.cells #[a] t)) : w.cell? ⟨g, 0, none⟩ = some a := by simp [World.cell?, h]
theorem cell_one_new (w : World) (a : Value) (t : TypeId) : ∀ j u, [a][j]? = some u → ((w.alloc (.cells #[a] t)).drew).cell? ((⟨w.heap.size, 0, none⟩ : Addr).add j) = some u := by
  intro j u hu
  rw [addr_add]
  have hk : (w.alloc (.cells #[a] t)).drew.heap[w.heap.size]? = some (.cells #[a] t) := heap_alloc_new w _
  match j, hu with
  | 0, hu => simp at hu; rw [← hu]; exact cell1 hk
  | j + 1, hu => simp at hu

section
variable {w : World} {B T A M : Nat} {K : List Lit} {σ : Sg} {t : Int} {x : Tn}
set_option maxRecDepth 100000 in
set_option maxHeartbeats 4000000 in
theorem save_ok (h : Tb w B T A K M σ) (ht : Wt t) (hx : σ.f t = some x) (hs : x.st = 0) (h4 : x.saves.length < 4) : Calls Try.prog 20 #[.pointer (some ⟨T, 0, none⟩), .int .i64 t] w fun e w' => e = .returned (.tuple #[.int .i64 (x.saves.length : Int), .int .i64 0]) ∧ ∃ v, Tb w' B T A K M (σ.put t { x with saves := x.saves ++ [x.next] } (σ.b t) v) ∧ Step A w σ w' (σ.put t { x with saves := x.saves ++ [x.next] } (σ.b t) v) := by
  have ha := look_yes h ht hx
  have hi := isOpen34 (h.blk t x hx).2
  obtain ⟨i0, hi0, hz0, hz1, hz2⟩ := info_parts info27
  obtain ⟨c0, c1, c2, c3, c4⟩ := cells5 (h.blk t x hx).2
  obtain ⟨_, _, _, _, f4⟩ := frozen5 (h.blk t x hx).2
  have hblk := (h.blk t x hx).2
  have hlt := some_lt hblk
  have hrow := h.row t x hx
  have hBw : B ≤ w.heap.size := Nat.le_trans h.hT (Nat.le_of_lt h.lt)
  obtain ⟨va, vc, hv⟩ := ownsRow_shape2 hrow
  rw [hv] at c4 hrow
  rw [show (x.st == 0) = true by simpa using hs] at hi
  have HG := toHid hrow
  have HFin := toHid (show ∀ v' w3, w3.ownsRow B 27 1 v' (x.saves.length + 1) (lsns x.saves ++ [.int .u64 (x.next : Int)]) → ((w.alloc (.cells #[.int .u64 (x.next : Int)] 27)).drew).grownBy w3 (Value.slice va x.saves.length vc).ownBlock →
      Fresh ((w.alloc (.cells #[.int .u64 (x.next : Int)] 27)).drew) (.slice va x.saves.length vc) v' →
      (∃ u, w3.cell? ⟨σ.b t, 4, none⟩ = some u) ∧ w3.frozen? ⟨σ.b t, 4, none⟩ = false ∧ Tb (w3.setCell ⟨σ.b t, 4, none⟩ v') B T A K M (σ.put t { x with saves := x.saves ++ [x.next] } (σ.b t) v') ∧ Step A w σ (w3.setCell ⟨σ.b t, 4, none⟩ v') (σ.put t { x with saves := x.saves ++ [x.next] } (σ.b t) v') from fun v' w3 o1 o2 o3 => by
    have hbl : Below w.heap.size w ((w.alloc (.cells #[.int .u64 (x.next : Int)] 27)).drew) := ((Below.refl _ _).alloc (Nat.le_refl _) _).drew
    have hsz : ((w.alloc (.cells #[.int .u64 (x.next : Int)] 27)).drew).heap.size = w.heap.size + 1 := by show (w.alloc _).heap.size = _; simp
    generalize ((w.alloc (.cells #[.int .u64 (x.next : Int)] 27)).drew) = w2 at *
    have hne : ∀ k, (Value.slice va x.saves.length vc).ownBlock = some k → k ≠ σ.b t := fun k hk e => by
      obtain ⟨_, cur, h2⟩ := own_kind HG.out hk
      rw [e, hblk] at h2
      injection h2 with h2
      injection h2 with h3 h5
      exact absurd h5 (by decide)
    have e3 : w3.heap[σ.b t]? = some (.cells (txC x (σ.v t)) 74) := by
      rw [o2.block _ (by omega) (fun e => hne _ e.symm rfl), hbl.block _ hlt]
      exact hblk
    have hne' : ∀ k, v'.ownBlock = some k → k ≠ σ.b t := fun k hk e => by
      obtain ⟨_, cur, h2⟩ := own_kind o1 hk
      rw [e, e3] at h2
      injection h2 with h2
      injection h2 with h3 h5
      exact absurd h5 (by decide)
    have TT : Turn (fun i => i = σ.b t ∨ (σ.v t).ownBlock = some i) w (w3.setCell ⟨σ.b t, 4, none⟩ v') := by
      rw [hv]
      exact ((Turn.of_below hbl _).trans (Turn.of_grown o2) (fun i hi => .inl (.inr hi.symm))).trans (Turn.setCell w3 ⟨σ.b t, 4, none⟩ v') (fun i hi => .inl (.inl hi))
    refine ⟨⟨σ.v t, (cells5 e3).2.2.2.2⟩, (frozen5 e3).2.2.2.2, h.put hx (Nat.le_refl _) TT ?_ ?_ (fun g hg => ?_) (h.lim t x hx).1 (by simp; omega)⟩
    · exact heap_setCell_same w3 (σ.b t) 4 _ _ _ e3
    · have : (w3.setCell ⟨σ.b t, 4, none⟩ v').ownsRow B 27 1 v' (x.saves.length + 1) (lsns x.saves ++ [.int .u64 (x.next : Int)]) := own_at o1 fun k hk => heap_setCell_other _ _ _ _ (hne' k hk)
      simpa [lsns] using this
    · rcases o3 g hg with h5 | h5
      · exact .inl (by rw [hv]; exact h5)
      · exact .inr (by omega))
  have g0 : ((x.saves.length : Int) == 4) = false := by simp; omega
  have c4' : (w.alloc (.cells #[.int .u64 (x.next : Int)] 27)).cell? ⟨σ.b t, 4, none⟩ = some (.slice va x.saves.length vc) := (((Below.refl w.heap.size w).alloc (Nat.le_refl _) _).cell (p := ⟨σ.b t, 4, none⟩) (by show σ.b t < _; omega)).trans c4
  clear h hx hs hv hrow hblk
  go_enter Try.func20, Try.ntmps20
  go_wp2_with (first
    | (go_at_call 28; refine ha.mono ?_; rintro e w1 ⟨rfl, hw⟩; obtain rfl := hw.symm)
    | (go_at_call 34; refine hi.mono ?_; rintro e w1 ⟨rfl, hw⟩; obtain rfl := hw.symm))
  go_region_law (refine step_append_fresh rfl (.tmp 32) (.tmp 37) 59 rfl B 27 i0 _ 1 8 Try.underlying59 hi0 hz0 hz1 hz2 rfl (by decide) _ _ _ rfl (HG.out.alloc _).drew ⟨w.heap.size, 0, none⟩ 1 1 [_] rfl rfl (cell_one_new _ _ _) (by intro u hu; simp at hu; rcases hu with rfl; rfl) (by unfold maxLen; omega) (by omega) (by simp; omega) ?_; intro v' w3 o1 o2 o3; obtain ⟨⟨u, q1⟩, q2, q3⟩ := HFin.out v' w3 o1 o2 o3; have HQ := toHid q3; obtain ⟨ay, cy, rfl⟩ := ownsRow_shape2 o1; clear o1 o2 o3 q3)
  all_goals
    try go_wp2_with fail
    go_ret2
    exact ⟨rfl, _, HQ.out⟩
end
end Go.Proofs.Yticadfaclnimgaa
