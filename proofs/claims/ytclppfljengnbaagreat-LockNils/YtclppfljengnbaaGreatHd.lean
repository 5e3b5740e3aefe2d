/-
  Who has or waits; what somebody waits for; what somebody has.
-/
import Derived.Test.YtclppfljengnbaaGreatFb
namespace Go.Proofs.YtclppfljengnbaaGreat
open Go.RowKit Go.Maps Go.Sort Go.Shelf

theorem strKeys_spec {w : World} {A : Nat} {K : List Lit} {f : Lit → Option Value} (h : MapV Tryz.prog 9 w A K f) : ∃ D, w.ownsMap Tryz.prog 9 vEl A K.length D ∧ (strKeys D).Nodup ∧ (∀ x, x ∈ strKeys D ↔ f (.string x) ≠ none) ∧ Maps.size D ≤ K.length := by
  obtain ⟨D, ho, hD⟩ := h
  refine ⟨D, ho, ?_, fun x => ?_, ho.size_le⟩
  all_goals
    obtain ⟨es, hE, hpw, _⟩ := ho.entries lawS
    obtain ⟨es', hE', hko⟩ := ho.keysOf
    obtain rfl : es = es' := by rw [hE] at hE'; simpa using hE'
    have hk : ∀ p ∈ es, ∃ x, p.1 = .string x := fun p hp => by obtain ⟨v, hv⟩ := hko p hp; obtain ⟨x, _, hx, _⟩ := Maps.keyOf_str Tryz.underlying9 hv; exact ⟨x, hx⟩
  · rw [hE]
    show (es.map fun p => strOf p.1).Nodup
    refine List.pairwise_map.2 (hpw.imp_of_mem fun {p q} hp' hq' hne e => hne ?_)
    obtain ⟨a, ha⟩ := hk p hp'
    obtain ⟨b, hb⟩ := hk q hq'
    rw [ha, hb] at e ⊢
    exact congrArg _ e
  · have h1 := hD.has (.string x)
    rw [hE, has_eq] at h1
    have h2 : (es.any fun p => p.1.sameKey (.string x)) = true ↔ x ∈ strKeys D := by
      rw [hE, List.any_eq_true]
      show _ ↔ x ∈ es.map fun p => strOf p.1
      rw [List.mem_map]
      constructor
      · rintro ⟨p, hp', hs⟩
        obtain ⟨a, ha⟩ := hk p hp'
        rw [ha] at hs
        exact ⟨p, hp', by rw [ha]; simpa [Lit.sameKey, strOf] using hs⟩
      · rintro ⟨p, hp', rfl⟩
        obtain ⟨a, ha⟩ := hk p hp'
        exact ⟨p, hp', by rw [ha]; simp [Lit.sameKey, strOf]⟩
    rw [← h2, h1]
    cases f (.string x) <;> simp
theorem intKeys_spec {w : World} {A : Nat} {K : List Lit} {f : Lit → Option Value} (h : MapV Tryz.prog 3 w A K f) : ∃ D, w.ownsMap Tryz.prog 3 vEl A K.length D ∧ (intKeys D).Nodup ∧ (∀ x, x ∈ intKeys D ↔ f (.int .i64 x) ≠ none) ∧ Maps.size D ≤ K.length := by
  obtain ⟨D, ho, hD⟩ := h
  refine ⟨D, ho, ?_, fun x => ?_, ho.size_le⟩
  all_goals
    obtain ⟨es, hE, hpw, _⟩ := ho.entries lawI
    obtain ⟨es', hE', hko⟩ := ho.keysOf
    obtain rfl : es = es' := by rw [hE] at hE'; simpa using hE'
    have hk : ∀ p ∈ es, ∃ x, p.1 = .int .i64 x := fun p hp => by obtain ⟨v, hv⟩ := hko p hp; obtain ⟨x, _, hx, _⟩ := Maps.keyOf_int_inv Tryz.underlying3 hv; exact ⟨x, hx⟩
  · rw [hE]
    show (es.map fun p => _).Nodup
    refine List.pairwise_map.2 (hpw.imp_of_mem fun {p q} hp' hq' hne e => hne ?_)
    obtain ⟨a, ha⟩ := hk p hp'
    obtain ⟨b, hb⟩ := hk q hq'
    rw [ha, hb] at e ⊢
    exact congrArg _ e
  · have h1 := hD.has (.int .i64 x)
    rw [hE, has_eq] at h1
    have h2 : (es.any fun p => p.1.sameKey (.int .i64 x)) = true ↔ x ∈ intKeys D := by
      rw [hE, List.any_eq_true]
      show _ ↔ x ∈ es.map fun p => _
      rw [List.mem_map]
      constructor
      · rintro ⟨p, hp', hs⟩
        obtain ⟨a, ha⟩ := hk p hp'
        have hs := WideAt.sameKey_eq hs
        exact ⟨p, hp', by rw [hs]; rfl⟩
      · rintro ⟨p, hp', he⟩
        obtain ⟨a, ha⟩ := hk p hp'
        refine ⟨p, hp', ?_⟩
        rw [ha] at he ⊢
        have he : a = x := he
        rw [he]
        simp [Lit.sameKey]
    rw [← h2, h1]
    cases f (.int .i64 x) <;> simp

theorem sortsI (m : Nat) : AnyZI.SortsIn Tryz.prog laySoI_ren Fence.wide m :=
  ⟨fun blk off cap ss W hH hblk hsz => callsIn_wide.2 (AnyM.slices_Sort_int laySI blk off cap ss W hH hblk hsz),
   fun p cap W => callsIn_wide.2 (AnyM.slices_Sort_int_none laySI p cap W)⟩
theorem sortsS (m : Nat) : AnyZ.SortsIn Tryz.prog laySoS_ren Fence.wide m :=
  ⟨fun blk off cap ss W hH hblk hsz => callsIn_wide.2 (AnyM.slices_Sort_string laySS blk off cap ss W hH hblk hsz),
   fun p cap W => callsIn_wide.2 (AnyM.slices_Sort_string_none laySS p cap W)⟩
theorem keys22 (mb : Option Nat) (W : World) : Calls Tryz.prog 40 #[.map mb] W fun e w' => e = .returned (.func (.func 64) #[] #[.pointer (some ⟨W.heap.size, 0, none⟩)]) ∧ w' = W.alloc (.cells #[.map mb] 65) :=
  (callsIn_wide (n := 5)).1 (AnyZI.keys_in layKI Fence.wide 5 trivial rfl mb W)
theorem keys25 (mb : Option Nat) (W : World) : Calls Tryz.prog 52 #[.map mb] W fun e w' => e = .returned (.func (.func 82) #[] #[.pointer (some ⟨W.heap.size, 0, none⟩)]) ∧ w' = W.alloc (.cells #[.map mb] 95) :=
  (callsIn_wide (n := 5)).1 (AnyZ.keys_in layKS Fence.wide 5 trivial rfl mb W)
set_option maxHeartbeats 1000000 in
theorem sorted21 {H : Type} (b nn : Nat) (D0 : DataW H) (R : Value → Option (DataW H × List MemPlace)) (w : World) (hown : w.ownsMap Tryz.prog 3 R b nn D0) (hmax : Maps.size D0 ≤ maxLen) (hbytes : Maps.size D0 * 8 ≤ 140737488355328) :
    Calls Tryz.prog 39 #[.func (.func 64) #[] #[.pointer (some ⟨w.heap.size, 0, none⟩)]] (w.alloc (.cells #[.map (some b)] 65)) fun e w' => ∃ (v : Value) (ss : List Int), e = .returned v ∧ ss.Perm (intKeys D0) ∧
      w'.ownsRow (w.alloc (.cells #[.map (some b)] 65)).heap.size 3 1 v ss.length ((srtI ss).map (Value.int .i64)) ∧ (v = .slice none 0 0 ↔ ss = []) ∧ Below (w.alloc (.cells #[.map (some b)] 65)).heap.size (w.alloc (.cells #[.map (some b)] 65)) w' := by
  have hbl := hown.lt
  have hseq : SeqGives Fence.wide 2 Tryz.prog 64 #[.pointer (some ⟨w.heap.size, 0, none⟩)] encZ (fun ss => ss.Perm (intKeys D0)) (Maps.size D0) (w.alloc (.cells #[.map (some b)] 65)) :=
    AnyZI.keys_gives (ρ := layKI_ren) { layKI with } Fence.wide _ trivial rfl (by omega) w.heap.size b nn D0 _ (by simp) (by simp) (by
      obtain ⟨es, clock, hb, Ft, hs, hD⟩ := hown
      exact ⟨es, clock, (Below.heap_alloc _ _ b hbl).trans hb, Ft, hs, hD⟩)
  exact (callsIn_wide (n := 5)).1 (AnyZI.sorted_in laySoI Fence.wide 5 trivial trivial trivial trivial rfl (by omega) (sortsI _) (enters_of Tryz.func60 (by kernel_rfl) rfl) 64 #[.pointer (some ⟨w.heap.size, 0, none⟩)] trivial (enters_of Tryz.func64 (by kernel_rfl) rfl) _ _ hmax hbytes _ hseq)
set_option maxHeartbeats 1000000 in
theorem sorted24 {H : Type} (b nn : Nat) (D0 : DataW H) (R : Value → Option (DataW H × List MemPlace)) (w : World) (hown : w.ownsMap Tryz.prog 9 R b nn D0) (hmax : Maps.size D0 ≤ maxLen) (hbytes : Maps.size D0 * 16 ≤ 140737488355328) :
    Calls Tryz.prog 51 #[.func (.func 82) #[] #[.pointer (some ⟨w.heap.size, 0, none⟩)]] (w.alloc (.cells #[.map (some b)] 95)) fun e w' => ∃ (v : Value) (ss : List (List UInt8)), e = .returned v ∧ ss.Perm (strKeys D0) ∧
      w'.ownsRow (w.alloc (.cells #[.map (some b)] 95)).heap.size 9 1 v ss.length ((srtT ss).map encStr) ∧ (v = .slice none 0 0 ↔ ss = []) ∧ Below (w.alloc (.cells #[.map (some b)] 95)).heap.size (w.alloc (.cells #[.map (some b)] 95)) w' := by
  have hbl := hown.lt
  have hseq : SeqGives Fence.wide 2 Tryz.prog 82 #[.pointer (some ⟨w.heap.size, 0, none⟩)] encStr (fun ss => ss.Perm (strKeys D0)) (Maps.size D0) (w.alloc (.cells #[.map (some b)] 95)) :=
    AnyZ.keys_gives (ρ := layKS_ren) { layKS with } Fence.wide _ trivial rfl (by omega) w.heap.size b nn D0 _ (by simp) (by simp) (by
      obtain ⟨es, clock, hb, Ft, hs, hD⟩ := hown
      exact ⟨es, clock, (Below.heap_alloc _ _ b hbl).trans hb, Ft, hs, hD⟩)
  exact (callsIn_wide (n := 5)).1 (AnyZ.sorted_in laySoS Fence.wide 5 trivial trivial trivial trivial rfl (by omega) (sortsS _) (enters_of Tryz.func71 (by kernel_rfl) rfl) 82 #[.pointer (some ⟨w.heap.size, 0, none⟩)] trivial (enters_of Tryz.func82 (by kernel_rfl) rfl) _ _ hmax hbytes _ hseq)

theorem riseI_of {l : List Int} (h : l.Pairwise (· ≤ ·)) (hn : l.Nodup) : l.Pairwise (· < ·) := (List.pairwise_and_iff.2 ⟨h, hn⟩).imp fun ⟨h1, h2⟩ => by omega
theorem riseT_of {l : List (List UInt8)} (h : l.Pairwise (· ≤ ·)) (hn : l.Nodup) : l.Pairwise (· < ·) := (List.pairwise_and_iff.2 ⟨h, hn⟩).imp fun ⟨h1, h2⟩ => Classical.byContradiction fun h => h2 (List.le_antisymm h1 (List.not_lt.1 h))

section
variable {KT KN : List Lit} {w : World} {σ : Sg} {Q : Name → List Nat} {t : Int}

set_option maxRecDepth 100000 in
set_option maxHeartbeats 4000000 in
theorem txns7 (h : Mem KT KN w σ) : Calls Tryz.prog 15 #[.pointer (some ⟨σ.T, 0, none⟩)] w fun e w' => ∃ v ts, e = .returned v ∧ w'.ownsRow w.heap.size 3 1 v (List.length ts) (ts.map (Value.int .i64)) ∧ ts.Pairwise (· < ·) ∧ (∀ t, t ∈ ts ↔ σ.pb t ≠ none) ∧ ts.length ≤ 1000 ∧ Below w.heap.size w w' := by
  obtain ⟨D, ho, hnd, hm, hsz⟩ := intKeys_spec h.hB
  have hkt := h.kt
  have hT := h.cellsT.2
  have hk := keys22 (some σ.B) w
  have hs := sorted21 σ.B _ D vEl w ho (by unfold maxLen; omega) (by omega)
  have hlen : (intKeys D).length ≤ 1000 := by
    have := ho.entries lawI
    obtain ⟨es, hE, _⟩ := this
    have h1 : (intKeys D).length = es.length := by rw [hE]; simp [intKeys]
    rw [h1]
    have h2 : Maps.size D = es.length := by rw [hE]; rfl
    omega
  have HF := toHid (show ∀ v ss w', ss.Perm (intKeys D) → w'.ownsRow (w.alloc (.cells #[.map (some σ.B)] 65)).heap.size 3 1 v ss.length ((srtI ss).map (Value.int .i64)) → Below (w.alloc (.cells #[.map (some σ.B)] 65)).heap.size (w.alloc (.cells #[.map (some σ.B)] 65)) w' →
      ∃ ts, w'.ownsRow w.heap.size 3 1 v (List.length ts) (ts.map (Value.int .i64)) ∧ ts.Pairwise (· < ·) ∧ (∀ t, t ∈ ts ↔ σ.pb t ≠ none) ∧ ts.length ≤ 1000 ∧ Below w.heap.size w w' from fun v ss w' hp hr hb => by
    have e1 : (srtI ss).length = ss.length := (srtI_perm ss).length_eq
    refine ⟨srtI ss, by rw [e1]; exact ownsRow_base hr (by simp), riseI_of (srtI_le ss) (((srtI_perm ss).trans hp).nodup_iff.2 hnd), fun t => ?_, by rw [e1, hp.length_eq]; exact hlen, bnext ((Below.refl _ _).alloc (Nat.le_refl _) _) hb⟩
    rw [(srtI_perm ss).mem_iff, hp.mem_iff, hm]
    simp only [ptF]
    cases σ.pb t <;> simp)
  clear h ho hnd hm
  go_enter Tryz.func15, Tryz.ntmps15
  go_wp2_with (first
    | (go_at_call 40; refine hk.mono ?_; rintro e w1 ⟨rfl, hw1⟩; obtain rfl := hw1.symm)
    | (go_at_call 39; refine hs.mono ?_; rintro e w2 ⟨v, ss, rfl, hp, hr, _, hb⟩; obtain ⟨ts, hts⟩ := HF.out v ss w2 hp hr hb; have HR := toHid hts; clear hp hr hb hts))
  go_ret
  exact ⟨v, ts, rfl, HR.out⟩
end

end Go.Proofs.YtclppfljengnbaaGreat
