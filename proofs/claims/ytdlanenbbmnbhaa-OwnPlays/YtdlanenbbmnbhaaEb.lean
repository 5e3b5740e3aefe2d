/-
  The document's book: with (40), has (38).
-/
import Derived.Test.YtdlanenbbmnbhaaEa
namespace Go.Proofs.Ytdlanenbbmnbhaa
open Go.RowKit

theorem set_split (L : List Pl) (i : Nat) (t : Pl) (hi : i < L.length) : L.take i ++ [t] ++ L.drop (i + 1) = L.set i t := by
  rw [List.set_eq_take_append_cons_drop, if_pos hi]
  simp
theorem one_cells {w : World} (t : Pl) : ∀ j u, (plVs [t])[j]? = some u → (w.alloc (.cells (plA t) 65)).cell? ((⟨w.heap.size, 0, none⟩ : Addr).add j) = some u := by
  intro j u hu
  rw [add_cell, Nat.zero_add]
  have hk : (w.alloc (.cells (plA t) 65)).heap[w.heap.size]? = some (.cells (plA t) 65) := heap_alloc_new w _
  have hj : j < 5 := by have := (List.getElem?_eq_some_iff.1 hu).1; rw [plVs_len] at this; simpa using this
  unfold World.cell?
  rw [hk]
  match j, hj with
  | 0, _ | 1, _ | 2, _ | 3, _ | 4, _ => simp [plVs, plC] at hu; subst hu; simp [plA]

theorem cells5 {w : World} {b : Nat} {t : Pl} (h : w.heap[b]? = some (.cells (plA t) 65)) : w.cell? ⟨b, 0, none⟩ = some (.int .i64 t.x.owner) ∧ w.cell? ⟨b, 1, none⟩ = some (.bool t.x.lost) ∧ w.cell? ⟨b, 2, none⟩ = some (.bool t.x.called) ∧ w.cell? ⟨b, 3, none⟩ = some (.bool t.x.fast) ∧ w.cell? ⟨b, 4, none⟩ = some (.slice t.a t.x.ws.length t.c) := by
  refine ⟨?_, ?_, ?_, ?_, ?_⟩ <;> · unfold World.cell?; rw [h]; simp [plA]

theorem pl_owner {w : World} {b : Nat} {t : Pl} (h : w.heap[b]? = some (.cells (plA t) 65)) (k : Int) : (w.setCell ⟨b, 0, none⟩ (.int .i64 k)).heap[b]? = some (.cells (plA ⟨⟨t.x.fast, k, t.x.lost, t.x.called, t.x.ws⟩, t.a, t.c⟩) 65) := by rw [heap_setCell_same _ _ _ _ _ _ h]; rfl
theorem pl_lost {w : World} {b : Nat} {t : Pl} (h : w.heap[b]? = some (.cells (plA t) 65)) (k : Bool) : (w.setCell ⟨b, 1, none⟩ (.bool k)).heap[b]? = some (.cells (plA ⟨⟨t.x.fast, t.x.owner, k, t.x.called, t.x.ws⟩, t.a, t.c⟩) 65) := by rw [heap_setCell_same _ _ _ _ _ _ h]; rfl
theorem pl_called {w : World} {b : Nat} {t : Pl} (h : w.heap[b]? = some (.cells (plA t) 65)) (k : Bool) : (w.setCell ⟨b, 2, none⟩ (.bool k)).heap[b]? = some (.cells (plA ⟨⟨t.x.fast, t.x.owner, t.x.lost, k, t.x.ws⟩, t.a, t.c⟩) 65) := by rw [heap_setCell_same _ _ _ _ _ _ h]; rfl
theorem pl_waits {w : World} {b : Nat} {t : Pl} (h : w.heap[b]? = some (.cells (plA t) 65)) (a : Option Addr) (ws : List Int) (c : Nat) : (w.setCell ⟨b, 4, none⟩ (.slice a ws.length c)).heap[b]? = some (.cells (plA ⟨⟨t.x.fast, t.x.owner, t.x.lost, t.x.called, ws⟩, a, c⟩) 65) := by rw [heap_setCell_same _ _ _ _ _ _ h]; rfl

set_option maxHeartbeats 1000000 in
theorem with40 {w : World} {v : Value} {L : List Pl} (h : Dl w v L) {i : Nat} (hi : i < L.length) (t : Pl) (ht : PlOk w t) (hl : L.length ≤ 16) :
    Calls Try.prog 40 #[v, .int .i64 (i : Int), .agg (plA t)] w fun e w' => ∃ v', e = .returned v' ∧ Dl w' v' (L.set i t) ∧ Below w.heap.size w w' := by
  obtain ⟨g, c, rfl, hg, hc, -⟩ := h.at hi
  have hbase : Below w.heap.size w (w.alloc (.cells (plA t) 65)) := (Below.refl _ _).alloc (Nat.le_refl _) _
  have hk0 : (w.alloc (.cells (plA t) 65)).heap[w.heap.size]? = some (.cells (plA t) 65) := heap_alloc_new w _
  have hs0 : (w.alloc (.cells (plA t) 65)).heap.size = w.heap.size + 1 := by simp
  have hsrc := fun (W : World) (hb : Below w.heap.size w W) (b : Addr) (hb2 : some (⟨g, 0, none⟩ : Addr) = some b) (j : Nat) (u : Value) (hu : (plVs L)[j]? = some u) => (show W.cell? (b.add j) = some u by cases hb2; exact (h.below hb).own.cells (g := g) rfl j u hu)
  have HS := toHid hsrc
  have HB0 := toHid hbase
  have HK0 := toHid hk0
  have HZ0 := toHid hs0
  have HH := toHid h
  have HT := toHid ht
  have hlt : (L.take i).length = i := by simp; omega
  obtain ⟨Q, hQ⟩ : ∃ Q : Nat, Hid (Q = i + 1) := ⟨i + 1, toHid rfl⟩
  have hwr : IntKind.i64.wrap ((i : Int) + 1) = (Q : Int) := by have := hQ.out; rw [IntKind.wrap_i64]; omega
  have hql : (Q : Int) ≤ (L.length : Int) := by have := hQ.out; omega
  have hld : (L.drop Q).length = L.length - Q := by simp
  have HL := toHid hlt
  have HLd := toHid hld
  have HSet := toHid (set_split L i t hi)
  rw [← hQ.out] at HSet
  have HAd := toHid (fun (j : Nat) (u : Value) (hu : (plVs (L.drop Q))[j]? = some u) => plVs_drop L (p := Q) (by omega) j u hu)
  clear h ht hsrc hbase hlt hld hk0 hs0
  obtain ⟨W0, hW0⟩ : ∃ W0, W0 = w.alloc (.cells (plA t) 65) := ⟨_, rfl⟩
  rw [← hW0] at HB0 HK0 HZ0
  have HW0 := toHid hW0
  clear hW0
  simp only [plA] at HW0 ⊢
  by_cases hq : c = Q
  · have hD0 : L.drop Q = [] := List.drop_eq_nil_of_le (by omega)
    rw [hD0, List.append_nil] at HSet
    have HC := toHid (show L.length - Q = 0 by omega)
    subst hq
    go_enter Try.func40, Try.ntmps40
    go_wp2_with (at_builtin; go_must (first
      | (rw [← HW0.out]
         obtain ⟨v2, w2, hr, r1, r2⟩ := run_pl W0 29 (w.heap.size + 1) (.slice none 0 0) [] 0 rfl (World.ownsRow_nil _ _ _ _) (by rw [HZ0.out]; omega) (some ⟨g, 0, none⟩) i c (L.take i) HL.out.symm (fun e => by cases e) (fun b hb j u hu => HS.out _ HB0.out b hb j u (plVs_take L i j u hu)) (by omega)
         refine wpList_of_run rfl (.tmp 8) (.tmp 11) 29 rfl rfl rfl hr ?_
         rw [Nat.zero_add, List.nil_append] at r1
         have HR1 := toHid r1
         have hb2 : Below (w.heap.size + 1) W0 w2 := (Below.refl _ _).grown r2 (by rw [HZ0.out]; omega) (fun k e => by simp [Value.ownBlock] at e)
         have hk2 := (hb2.block w.heap.size (by omega)).trans HK0.out
         have HB2 := toHid (HB0.out.trans (hb2.mono (by omega)))
         have hz2 : w.heap.size + 1 ≤ w2.heap.size := by have := hb2.size; rw [HZ0.out] at this; exact this
         obtain ⟨c0, c1, c2, c3, c4⟩ := cells5 hk2
         clear r1 r2 hb2 hk2 hr HW0)
      | (obtain ⟨v3, w3, hr, r1, r2⟩ := run_pl (w2.alloc (.cells (plA t) 65)) 29 (w.heap.size + 1) v2 (L.take i) i HL.out.symm (own_below HR1.out ((Below.refl _ _).alloc (Nat.le_refl _) _)) (by simp; omega) (some ⟨w2.heap.size, 0, none⟩) 1 1 [t] rfl (fun e => by cases e) (fun b hb j u hu => by cases hb; exact one_cells t j u hu) (by omega)
         refine wpList_of_run rfl (.tmp 13) (.tmp 15) 29 rfl rfl rfl hr ?_
         have HR3 := toHid r1
         have HB3 := toHid (grown_low ((HB2.out.mono (Nat.le_refl _)).alloc (by omega) (.cells (plA t) 65)) (by simp; omega) (own_base (own_below HR1.out ((Below.refl _ _).alloc (Nat.le_refl _) (.cells (plA t) 65))) (by omega)) r2)
         have hz3 : w.heap.size + 1 ≤ w3.heap.size := by have := r2.size; simp at this; omega
         clear r1 r2 hr)
      | (obtain ⟨v4, w4, hr, r1, r2⟩ := run_pl w3 29 (w.heap.size + 1) v3 (L.take i ++ [t]) (i + 1) (by simp; omega) HR3.out (by omega) (some ⟨g, 0, none⟩) 0 0 [] rfl (fun e => by cases e) (fun b hb j u hu => by simp [plVs] at hu) (by omega)
         refine wpList_of_run rfl (.tmp 17) (.tmp 21) 29 rfl rfl rfl hr ?_
         have HR4 := toHid r1
         have HB4 := toHid (grown_low HB3.out (by omega) (own_base HR3.out (by omega)) r2)
         clear r1 r2 hr)))
    go_ret
    refine ⟨_, rfl, ⟨?_, ?_⟩, HB4.out⟩
    · have h4 := own_base HR4.out (Nat.zero_le _)
      rw [List.append_nil, HSet.out, show i + 1 + 0 = (L.set i t).length by rw [List.length_set]; have := hQ.out; omega] at h4
      exact h4
    · intro s hs
      rcases List.mem_or_eq_of_mem_set hs with e | e
      · exact (HH.out.rows s e).below HB4.out
      · subst e; exact HT.out.below HB4.out
  · go_enter Try.func40, Try.ntmps40
    go_wp2_with (at_builtin; go_must (first
      | (rw [← HW0.out]
         obtain ⟨v2, w2, hr, r1, r2⟩ := run_pl W0 29 (w.heap.size + 1) (.slice none 0 0) [] 0 rfl (World.ownsRow_nil _ _ _ _) (by rw [HZ0.out]; omega) (some ⟨g, 0, none⟩) i c (L.take i) HL.out.symm (fun e => by cases e) (fun b hb j u hu => HS.out _ HB0.out b hb j u (plVs_take L i j u hu)) (by omega)
         refine wpList_of_run rfl (.tmp 8) (.tmp 11) 29 rfl rfl rfl hr ?_
         rw [Nat.zero_add, List.nil_append] at r1
         have HR1 := toHid r1
         have hb2 : Below (w.heap.size + 1) W0 w2 := (Below.refl _ _).grown r2 (by rw [HZ0.out]; omega) (fun k e => by simp [Value.ownBlock] at e)
         have hk2 := (hb2.block w.heap.size (by omega)).trans HK0.out
         have HB2 := toHid (HB0.out.trans (hb2.mono (by omega)))
         have hz2 : w.heap.size + 1 ≤ w2.heap.size := by have := hb2.size; rw [HZ0.out] at this; exact this
         obtain ⟨c0, c1, c2, c3, c4⟩ := cells5 hk2
         clear r1 r2 hb2 hk2 hr HW0)
      | (obtain ⟨v3, w3, hr, r1, r2⟩ := run_pl (w2.alloc (.cells (plA t) 65)) 29 (w.heap.size + 1) v2 (L.take i) i HL.out.symm (own_below HR1.out ((Below.refl _ _).alloc (Nat.le_refl _) _)) (by simp; omega) (some ⟨w2.heap.size, 0, none⟩) 1 1 [t] rfl (fun e => by cases e) (fun b hb j u hu => by cases hb; exact one_cells t j u hu) (by omega)
         refine wpList_of_run rfl (.tmp 13) (.tmp 15) 29 rfl rfl rfl hr ?_
         have HR3 := toHid r1
         have HB3 := toHid (grown_low ((HB2.out.mono (Nat.le_refl _)).alloc (by omega) (.cells (plA t) 65)) (by simp; omega) (own_base (own_below HR1.out ((Below.refl _ _).alloc (Nat.le_refl _) (.cells (plA t) 65))) (by omega)) r2)
         have hz3 : w.heap.size + 1 ≤ w3.heap.size := by have := r2.size; simp at this; omega
         clear r1 r2 hr)
      | (obtain ⟨v4, w4, hr, r1, r2⟩ := run_pl w3 29 (w.heap.size + 1) v3 (L.take i ++ [t]) (i + 1) (by simp; omega) HR3.out (by omega) (some ⟨g, Q * 5, none⟩) (L.length - Q) (c - Q) (L.drop Q) HLd.out.symm (fun e => by cases e) (fun b hb j u hu => by cases hb; rw [add_cell]; have := HS.out w3 HB3.out ⟨g, 0, none⟩ rfl _ u (HAd.out j u hu); rwa [add_cell, Nat.zero_add] at this) (by omega)
         refine wpList_of_run rfl (.tmp 17) (.tmp 21) 29 rfl rfl rfl hr ?_
         have HR4 := toHid r1
         have HB4 := toHid (grown_low HB3.out (by omega) (own_base HR3.out (by omega)) r2)
         clear r1 r2 hr)))
    go_ret
    refine ⟨_, rfl, ⟨?_, ?_⟩, HB4.out⟩
    · have h4 := own_base HR4.out (Nat.zero_le _)
      rw [HSet.out, show i + 1 + (L.length - Q) = (L.set i t).length by rw [List.length_set]; have := hQ.out; omega] at h4
      exact h4
    · intro s hs
      rcases List.mem_or_eq_of_mem_set hs with e | e
      · exact (HH.out.rows s e).below HB4.out
      · subst e; exact HT.out.below HB4.out

theorem has_from : ∀ (l : List Int) (j : Nat) (k : Int) (hj : j < l.length), l[j] = k → decide (k ∈ l) = true := fun l j k hj e => by simpa using e ▸ List.getElem_mem hj
theorem has38 (a : Option Addr) (c : Nat) (l : List Int) (k : Int) (w : World) (h : SlI w a l) (hl : l.length ≤ 1000) :
    Calls Try.prog 38 #[.slice a l.length c, .int .i64 k] w fun e w' => e = .returned (.bool (decide (k ∈ l))) ∧ w' = w := by
  have HS := toHid h
  clear h
  go_enter Try.func38, Try.ntmps38
  go_wp2_with fail
  go_loopw [5] (fun i W => ∃ n : Nat, n ≤ l.length ∧ i = .int .i64 n ∧ (∀ j (hj : j < l.length), j < n → l[j] ≠ k) ∧ W = w) (fun i _ => l.length - (intOf i).toNat)
  case atStart => exact ⟨0, Nat.zero_le _, rfl, fun j _ hj => absurd hj (Nat.not_lt_zero _), rfl⟩
  case round =>
    obtain ⟨n, hn, rfl, hu, hw⟩ := hrel
    obtain rfl := hw.symm
    by_cases hlt : n < l.length
    · obtain ⟨b, o, rfl, hb, c0⟩ := HS.out.at n hlt
      by_cases hk : l[n] = k
      · have HK := toHid (has_from l n k hlt hk)
        rw [hk] at c0
        clear hu hk
        go_wp2
        go_ret
        rw [HK.out]
        exact ⟨rfl, rfl⟩
      · have HU := toHid hu
        have HK := toHid hk
        have hkb : (l[n] == k) = false := by simpa using hk
        clear hu hk
        generalize hx : l[n] = x at c0 hkb
        have HX := toHid hx
        clear hx
        go_wp2
        go_roundw
        case rel => exact ⟨n + 1, by omega, by simp, fun j hj hjn => by
          rcases Nat.lt_or_ge j n with h1 | h1
          · exact HU.out j hj h1
          · obtain rfl : j = n := by omega
            exact HK.out, trivial⟩
        case measure => simp only [intOf]; omega
    · have HK := toHid (show decide (k ∈ l) = false by
        simp only [decide_eq_false_iff_not]
        intro hm
        obtain ⟨j, hj, e⟩ := List.getElem_of_mem hm
        exact hu j hj (by omega) e)
      clear hu
      go_wp2
      go_ret
      rw [HK.out]
      exact ⟨rfl, rfl⟩
end Go.Proofs.Ytdlanenbbmnbhaa
